/-
  Package block: Bytes; the document's Bytes.
-/
import Derived.Test.YtjdnekkbmanmdaaDoorBCat9
import Derived.Test.YtjdnekkbmanmdaaDoorBSize9
import Derived.Deep.RegionHeld3
import Derived.Great.BuildSlice
namespace Go.Proofs.YtjdnekkbmanmdaaDoor
open Go.RowKit Go.Sort
set_option maxRecDepth 8000
/-- A struct of two cells in a block of the call's own. -/
theorem row2 {w : World} {p : Nat} {v0 v1 : Value} {T : TypeId} (h : w.heap[p]? = some (.cells #[v0, v1] T (0, 0))) :
    (w.cell? ⟨p, 0, none⟩ = some v0 ∧ w.cell? ⟨p, 1, none⟩ = some v1) ∧ ∀ j : Nat, w.frozen? ⟨p, j, none⟩ = false :=
  ⟨⟨cell_of_row _ _ _ _ _ _ h, cell_of_row _ _ _ _ _ _ h⟩, fun _ => frozen_of_row _ _ _ _ _ h⟩
/-- Four slices of bytes. -/
theorem Byts.new4 (w : World) {v1 v2 v3 v4 : Value} {l1 l2 l3 l4 : List UInt8} (h1 : Byt w v1 l1) (h2 : Byt w v2 l2) (h3 : Byt w v3 l3) (h4 : Byt w v4 l4) : Byts (w.alloc (.cells #[v1, v2, v3, v4] 23)) (.slice (some ⟨w.heap.size, 0, none⟩) 4 4) [l1, l2, l3, l4] := by
  refine ⟨_, 4, rfl, Or.inr ⟨_, 0, rfl, by simp, fun j hj => ?_⟩⟩
  match j, hj with
  | 0, _ => exact ⟨v1, World.cell?_alloc_at _ _ _ _ rfl, h1.on (below_alloc _ _)⟩
  | 1, _ => exact ⟨v2, World.cell?_alloc_at _ _ _ _ rfl, h2.on (below_alloc _ _)⟩
  | 2, _ => exact ⟨v3, World.cell?_alloc_at _ _ _ _ rfl, h3.on (below_alloc _ _)⟩
  | 3, _ => exact ⟨v4, World.cell?_alloc_at _ _ _ _ rfl, h4.on (below_alloc _ _)⟩
  | j + 4, hj => simp at hj; omega
theorem Byts.new3 (w : World) {v1 v2 v3 : Value} {l1 l2 l3 : List UInt8} (h1 : Byt w v1 l1) (h2 : Byt w v2 l2) (h3 : Byt w v3 l3) : Byts (w.alloc (.cells #[v1, v2, v3] 23)) (.slice (some ⟨w.heap.size, 0, none⟩) 3 3) [l1, l2, l3] := by
  refine ⟨_, 3, rfl, Or.inr ⟨_, 0, rfl, by simp, fun j hj => ?_⟩⟩
  match j, hj with
  | 0, _ => exact ⟨v1, World.cell?_alloc_at _ _ _ _ rfl, h1.on (below_alloc _ _)⟩
  | 1, _ => exact ⟨v2, World.cell?_alloc_at _ _ _ _ rfl, h2.on (below_alloc _ _)⟩
  | 2, _ => exact ⟨v3, World.cell?_alloc_at _ _ _ _ rfl, h3.on (below_alloc _ _)⟩
  | j + 3, hj => simp at hj; omega
/-- Bytes lie in no block. -/
theorem Byt.storedK {w : World} {v : Value} {l : List UInt8} (h : Byt w v l) {p : Nat} {k0 : Int} {a0 : Option Addr} {n0 c0 : Nat} {T : TypeId} (hp : w.heap[p]? = some (.cells #[.int .u32 k0, .slice a0 n0 c0] T (0, 0))) (u0 u1 : Value) :
    Byt ((w.setCell ⟨p, 0, none⟩ u0).setCell ⟨p, 1, none⟩ u1) v l := by
  obtain ⟨a, c, e, hc, h⟩ := h
  refine ⟨a, c, e, hc, ?_⟩
  rcases h with h | ⟨g, o, ea, hg, hx⟩
  · exact Or.inl h
  · right
    refine ⟨g, o, ea, by simpa using hg, fun j hj => ?_⟩
    have hj' := hx j hj
    have ne : p ≠ g := by
      rintro rfl
      rw [cell_of_row _ _ _ _ _ _ hp] at hj'
      match o + j, hj' with
      | 0, hj' => simp at hj'
      | 1, hj' => simp at hj'
      | k + 2, hj' => simp at hj'
    rw [World.cell?_setCell_other _ _ _ _ (fun e => ne (congrArg Addr.block e)), World.cell?_setCell_other _ _ _ _ (fun e => ne (congrArg Addr.block e))]
    exact hj'
def frameE (l : List UInt8) : Nat := if l.length % 4 = 0 then 0 else 2
def frameR (kind : Nat) (l : List UInt8) (b : Bool) : List UInt8 := if l.length % 4 = 0 then frameB kind l b else []
def FrOut (w : World) (kind : Nat) (l : List UInt8) (b : Bool) (e : Ending) (w' : World) : Prop :=
  ∃ v, e = .returned (.tuple #[v, .int .i64 (frameE l)]) ∧ Byt w' v (frameR kind l b) ∧ Below w.heap.size w w'
set_option maxHeartbeats 2000000 in
theorem t_frame_no (kind : Nat) (v : Value) (l : List UInt8) (b : Bool) (hl : l.length ≤ 900) (h4 : l.length % 4 ≠ 0) (w : World) (hB : Byt w v l) :
    Calls Tryd.prog 5 #[.agg #[.int .u32 kind, v], .bool b] w (FrOut w kind l b) := by
  have E := Lib.hid (show frameE l = 2 ∧ frameR kind l b = [] from ⟨if_neg h4, if_neg h4⟩)
  unfold FrOut
  rw [E.out.1, E.out.2]
  obtain ⟨ad, c, rfl, hc, hA⟩ := hB.open
  clear hB hA
  have S0 := Lib.hid (KSt.new w (.cells #[.int .u32 kind, .slice ad l.length c] 25 (0, 0)))
  generalize l.length = n at *
  have g1 : decide ((1048576 : Int) < (n : Nat)) = false := by simp; omega
  have g3 : (((n : Int) % 4 == 0) : Bool) = false := by simp; omega
  clear E
  go_enter Tryd.func5, Tryd.ntmps5
  go_upto_region 1 with fail
  generalize hw0 : w.alloc (.cells _ 25 (0, 0)) = w0 at *
  clear hw0
  obtain ⟨⟨c0, c1⟩, _⟩ := row2 S0.out.1
  go_wp2
  go_ret2
  exact ⟨_, rfl, byt_nil _, S0.out.2⟩
set_option maxHeartbeats 4000000 in
theorem t_frame_yes (kind : Nat) (v : Value) (l : List UInt8) (b : Bool) (hk : kind < 4294967296) (hl : l.length ≤ 900) (h4 : l.length % 4 = 0) (w : World) (hB : Byt w v l) :
    Calls Tryd.prog 5 #[.agg #[.int .u32 kind, v], .bool b] w (FrOut w kind l b) := by
  have E := Lib.hid (show frameE l = 0 ∧ frameR kind l b = [ord b (lowB kind 4), ord b (lowB (12 + l.length) 4), l, ord b (lowB (12 + l.length) 4)].flatten from ⟨if_pos h4, by unfold frameR frameB; rw [if_pos h4]; simp⟩)
  unfold FrOut
  rw [E.out.1, E.out.2]
  have P1 := Lib.hid (fun w => put_next b (.slice none 0 0) [] (ord b (lowB (12 + l.length) 4)) (12 + l.length) 4 (by omega) (by omega) (by simp) rfl (12 + l.length : Nat) 4 rfl rfl w (byt_nil w))
  have P2 := Lib.hid (fun w => put_next b (.slice none 0 0) [] (ord b (lowB kind 4)) kind 4 (by omega) (by omega) (by simp) rfl kind 4 rfl rfl w (byt_nil w))
  have LN : ([ord b (lowB kind 4), ord b (lowB (12 + l.length) 4), l, ord b (lowB (12 + l.length) 4)].flatten).length ≤ 1000 := by simp [ord_length, low_length]; omega
  have CC := Lib.hid (fun v w h => t_concat9 v [ord b (lowB kind 4), ord b (lowB (12 + l.length) 4), l, ord b (lowB (12 + l.length) 4)] (by simp) LN w h)
  generalize ord b (lowB (12 + l.length) 4) = q1 at *
  generalize ord b (lowB kind 4) = q0 at *
  obtain ⟨ad, c, rfl, hc, hA⟩ := hB.open
  have HB := Lib.hid (hB.on (below_alloc w (.cells #[.int .u32 kind, .slice ad l.length c] 25 (0, 0))))
  have S0 := Lib.hid (KSt.new w (.cells #[.int .u32 kind, .slice ad l.length c] 25 (0, 0)))
  clear hB hA E LN
  generalize l.length = n at *
  have g1 : decide ((1048576 : Int) < (n : Nat)) = false := by simp; omega
  have g3 : (((n : Int) % 4 == 0) : Bool) = true := by simp; omega
  have cs : IntKind.u64.wrap ((n : Int) + 12) = ((12 + n : Nat) : Int) := by rw [show (n : Int) + 12 = ((12 + n : Nat) : Int) by omega]; exact wrap_small _ (by omega)
  have ck : IntKind.u64.wrap (kind : Int) = (kind : Int) := wrap_small kind (by omega)
  go_enter Tryd.func5, Tryd.ntmps5
  go_upto_region 1 with fail
  generalize hw0 : w.alloc (.cells _ 25 (0, 0)) = w0 at *
  clear hw0
  obtain ⟨⟨c0, c1⟩, _⟩ := row2 S0.out.1
  go_upto_region 6 with fail
  have S1 := Lib.hid (S0.out.on (below_alloc w0 (.cells #[.slice none 0 0, .bool b] 42)))
  have B1 := Lib.hid (HB.out.on (below_alloc w0 (.cells #[.slice none 0 0, .bool b] 42)))
  have G1 := Lib.hid (row_new w0 (.cells #[.slice none 0 0, .bool b] 42) rfl)
  clear S0 HB c0 c1
  generalize w0.alloc (.cells #[.slice none 0 0, .bool b] 42) = w1 at *
  generalize w0.heap.size = q at *
  obtain ⟨⟨c0, c1⟩, _⟩ := row2 S1.out.1
  obtain ⟨⟨d0, d1⟩, _⟩ := row2 G1.out
  go_wp2_with fail
  refine (P1.out _).mono ?_
  rintro e w2 ⟨v2, rfl, hY, hb⟩
  have S2 := Lib.hid (S1.out.on hb)
  have B2 := Lib.hid (B1.out.on hb)
  have G2 := Lib.hid (keepRow G1.out hb)
  have Y2 := Lib.hid hY
  obtain ⟨a2, n2, d2, rfl⟩ := hY.slice
  clear hb hY S1 B1 G1 c0 c1 d0 d1 P1
  have FLD := run_field_B
  go_upto_region 7 with fail
  obtain ⟨⟨c0, c1⟩, _⟩ := row2 S2.out.1
  obtain ⟨⟨d0, d1⟩, _⟩ := row2 G2.out
  go_region_held3 (fun W' => (W'.cell? ⟨w.heap.size, 0, none⟩ = some (.int .u32 kind) ∧ W'.cell? ⟨w.heap.size, 1, none⟩ = some (.slice ad n c)) ∧ W'.cell? ⟨q, 0, none⟩ = some (.slice none 0 0) ∧ W'.cell? ⟨q, 1, none⟩ = some (.bool b))
    (first
      | exact ⟨⟨c0, c1⟩, d0, d1⟩
      | exact ⟨⟨y0, y1⟩, e0, e1⟩
      | exact ⟨⟨z0, z1⟩, g0, g1⟩
      | go_keep)
    (first
      | (go_at_call 10; refine (P2.out _).mono ?_; rintro e w3 ⟨v3, rfl, hY, hb0⟩; have hb := Below.trans (Below.refl w2.heap.size _).drew (hb0.mono (by simp)); have Y3 := Lib.hid hY; have S3 := Lib.hid (S2.out.on hb); have B3 := Lib.hid (B2.out.on hb); have Z3 := Lib.hid (Y2.out.on hb); have G3 := Lib.hid (keepRow G2.out hb); obtain ⟨a3, n3, d3, rfl⟩ := hY.slice; obtain ⟨⟨y0, y1⟩, _⟩ := row2 S3.out.1; obtain ⟨⟨e0, e1⟩, _⟩ := row2 G3.out)
      | (go_at_call 11; refine (CC.out _ _ (Byts.new4 _ Y3.out Z3.out B3.out Z3.out)).mono ?_; rintro e w4 ⟨v4, rfl, hO⟩; have hb4 := (below_alloc w3 _).trans (hO.below.mono (by simp)); have S4 := Lib.hid (S3.out.on hb4); have G4 := Lib.hid (keepRow G3.out hb4); have O4 := Lib.hid hO.byt; obtain ⟨a4, n4, d4, rfl⟩ := hO.byt.slice; obtain ⟨⟨z0, z1⟩, _⟩ := row2 S4.out.1; obtain ⟨⟨g0, g1⟩, _⟩ := row2 G4.out))
  go_wp2
  go_ret2
  exact ⟨_, rfl, O4.out, S4.out.2⟩
theorem t_frame (kind : Nat) (v : Value) (l : List UInt8) (b : Bool) (hk : kind < 4294967296) (hl : l.length ≤ 900) (w : World) (hB : Byt w v l) :
    Calls Tryd.prog 5 #[.agg #[.int .u32 kind, v], .bool b] w (FrOut w kind l b) := by
  by_cases h4 : l.length % 4 = 0
  · exact t_frame_yes kind v l b hk hl h4 w hB
  · exact t_frame_no kind v l b hl h4 w hB
/-! ### The document's -/
end Go.Proofs.YtjdnekkbmanmdaaDoor
