/-
  Package block: a section head's Block. Written by tools/gen9k.py.
-/
import Derived.Test.YtjdnekkbmanmdaaBSec9
namespace Go.Proofs.Ytjdnekkbmanmdaa
open Go.RowKit Go.Sort
set_option maxRecDepth 8000
theorem put_nil (b : Bool) (l : List UInt8) (n : Nat) (hn : n < 18446744073709551616) (hl : l = [] ++ ord b (lowB n 4)) (zn : Int) (en : zn = n) (w : World) :
    Calls Try.prog 20 #[.agg #[.slice none 0 0, .bool b], .int .u64 zn, .int .i64 4] w (PutOut w b l) := put_next b (.slice none 0 0) [] l n 4 (by omega) hn (by simp) hl zn 4 en rfl w (byt_nil w)
theorem pad_nat (n : Nat) : padV (n : Int) = (((4 - n % 4) % 4 : Nat) : Int) := by unfold padV; rw [if_neg (by omega)]; omega
theorem ScSt.put2 {w wr : World} {p q : Nat} {o1 o2 : Obj} {v0 v1 : Value} {T : TypeId} (h : ScSt w wr p q o1 o2 (.cells #[v0, v1] T (0, 0))) (hq : w.heap.size ≤ q) (ne : ¬ w.heap.size = q) (np : ¬ p = q) (u0 u1 : Value) :
    ScSt w ((wr.setCell ⟨q, 0, none⟩ u0).setCell ⟨q, 1, none⟩ u1) p q o1 o2 (.cells #[u0, u1] T (0, 0)) :=
  ⟨(h.1.setCell (by exact hq) _).setCell (by exact hq) _, (two_far ne _ _).trans h.2.1, (two_far np _ _).trans h.2.2.1, two_row h.2.2.2 _ _⟩
/-- Bytes lie in no block. -/
theorem Byt.storedK {w : World} {v : Value} {l : List UInt8} (h : Byt w v l) {p : Nat} {k0 : Int} {a0 : Option Addr} {n0 c0 : Nat} {T : TypeId} (hp : w.heap[p]? = some (.cells #[.int .u32 k0, .slice a0 n0 c0] T (0, 0))) (u0 u1 : Value) :
    Byt ((w.setCell ⟨p, 0, none⟩ u0).setCell ⟨p, 1, none⟩ u1) v l := by
  obtain ⟨a, c, e, hc, h⟩ := h
  refine ⟨a, c, e, hc, ?_⟩
  rcases h with h | ⟨g, o, ea, hg, hx⟩
  · exact Or.inl h
  · right
    refine ⟨g, o, ea, by simpa using hg, fun j hj => ?_⟩
    have hj' := hx j hj
    have ne : p ≠ g := by
      rintro rfl
      rw [cell_of_row _ _ _ _ _ _ hp] at hj'
      match o + j, hj' with
      | 0, hj' => simp at hj'
      | 1, hj' => simp at hj'
      | k + 2, hj' => simp at hj'
    rw [World.cell?_setCell_other _ _ _ _ (fun e => ne (congrArg Addr.block e)), World.cell?_setCell_other _ _ _ _ (fun e => ne (congrArg Addr.block e))]
    exact hj'
def BlkOut (w : World) (l : List UInt8) (e : Ending) (w' : World) : Prop := ∃ v, e = .returned (.agg #[.int .u32 168627466, v]) ∧ Byt w' v l ∧ Below w.heap.size w w'
set_option maxHeartbeats 4000000 in
theorem t_block (major minor : Nat) (len : Int) (long : Nat) (v : Value) (opts : List UInt8) (b : Bool) (h1 : major < 65536) (h2 : minor < 65536) (h3 : long < 18446744073709551616) (hL : IntKind.u64.wrap len = (long : Int)) (hl : opts.length ≤ 900) (w : World) (hB : Byt w v opts) :
    Calls Try.prog 12 #[.agg #[.int .u16 major, .int .u16 minor, .int .i64 len, v], .bool b] w (BlkOut w (bodyB major minor long opts b)) := by
  obtain ⟨ad, c, rfl, hc, hA⟩ := hB.open
  obtain ⟨l1, e1⟩ : ∃ l1, l1 = [] ++ ord b (lowB 439041101 4) := ⟨_, rfl⟩
  obtain ⟨l2, e2⟩ : ∃ l2, l2 = l1 ++ ord b (lowB major 2) := ⟨_, rfl⟩
  obtain ⟨l3, e3⟩ : ∃ l3, l3 = l2 ++ ord b (lowB minor 2) := ⟨_, rfl⟩
  obtain ⟨l4, e4⟩ : ∃ l4, l4 = l3 ++ ord b (lowB long 8) := ⟨_, rfl⟩
  have E := Lib.hid (show [l4, opts, List.replicate ((4 - opts.length % 4) % 4) 0].flatten = bodyB major minor long opts b by
    subst e4 e3 e2 e1
    unfold bodyB padZ
    simp)
  have L : l1.length = 4 ∧ l2.length = 6 ∧ l3.length = 8 ∧ l4.length = 16 := by subst e4 e3 e2 e1; simp [ord_length, low_length]
  obtain ⟨L1, L2, L3, L4⟩ := L
  have P1 := Lib.hid (fun w => put_nil b l1 439041101 (by omega) e1 439041101 rfl w)
  have P2 := Lib.hid (fun v w hB => put_next b v l1 l2 major 2 (by omega) (by omega) (by omega) e2 major 2 rfl rfl w hB)
  have P3 := Lib.hid (fun v w hB => put_next b v l2 l3 minor 2 (by omega) (by omega) (by omega) e3 minor 2 rfl rfl w hB)
  have P4 := Lib.hid (fun v w hB => put_next b v l3 l4 long 8 (by omega) h3 (by omega) e4 long 8 rfl rfl w hB)
  have ZP : (4 - opts.length % 4) % 4 ≤ 3 := by omega
  have CC := Lib.hid (fun v w h => t_concat9 v [l4, opts, List.replicate ((4 - opts.length % 4) % 4) 0] (by simp) (by simp; omega) w h)
  rw [E.out] at CC
  have PD := Lib.hid (t_pad opts.length (by omega))
  rw [pad_nat] at PD
  have MK := Lib.hid (fun w => run_make_all w ((4 - opts.length % 4) % 4) (by omega))
  generalize bodyB major minor long opts b = body at *
  have wa : IntKind.u64.wrap (major : Int) = (major : Int) := wrap_small major (by omega)
  have wi : IntKind.u64.wrap (minor : Int) = (minor : Int) := wrap_small minor (by omega)
  clear e1 e2 e3 e4 E L1 L2 L3 L4
  have HB := Lib.hid hB
  clear hB hA
  generalize (4 - opts.length % 4) % 4 = z at *
  generalize hn : opts.length = n at *
  clear hn
  obtain ⟨o1, ho1⟩ : ∃ o, o = Obj.cells #[.int .u16 major, .int .u16 minor, .int .i64 len, .slice ad n c] 35 (0, 0) := ⟨_, rfl⟩
  obtain ⟨o2, ho2⟩ : ∃ o, o = Obj.cells #[.int .u32 0, .slice none 0 0] 32 (0, 0) := ⟨_, rfl⟩
  obtain ⟨o3, ho3⟩ : ∃ o, o = Obj.cells #[.slice none 0 0, .bool b] 55 (0, 0) := ⟨_, rfl⟩
  have S0 := Lib.hid (ScSt.new w o1 o2 o3)
  go_enter Try.func12, Try.ntmps12
  go_upto_region 2 with fail
  rw [← ho1, ← ho2, ← ho3]
  generalize ((w.alloc o1).alloc o2).alloc o3 = w0 at *
  obtain ⟨p, hp⟩ : ∃ p, p = w.heap.size + 1 := ⟨_, rfl⟩
  obtain ⟨q, hq⟩ : ∃ q, q = w.heap.size + 1 + 1 := ⟨_, rfl⟩
  have PS := Lib.hid (show w.heap.size ≤ p ∧ w.heap.size ≤ q by omega)
  have NE := Lib.hid (show ¬ p = w.heap.size ∧ ¬ w.heap.size = p ∧ ¬ p = q ∧ ¬ q = p ∧ ¬ w.heap.size = q ∧ ¬ q = w.heap.size by omega)
  rw [← hq, ← hp] at S0 ⊢
  clear hp hq
  rw [ho1, ho2, ho3] at S0
  clear ho1 ho2 ho3
  have KEEP : ∀ {W'}, Hid (ScSt w W' p q (.cells #[.int .u16 major, .int .u16 minor, .int .i64 len, .slice ad n c] 35 (0, 0)) (.cells #[.int .u32 0, .slice none 0 0] 32 (0, 0)) (.cells #[.slice none 0 0, .bool b] 55 (0, 0))) →
      W'.cell? ⟨w.heap.size, 0, none⟩ = some (.int .u16 major) ∧ W'.cell? ⟨w.heap.size, 1, none⟩ = some (.int .u16 minor) ∧ W'.cell? ⟨w.heap.size, 2, none⟩ = some (.int .i64 len) := fun h => ⟨(row4 h.out.2.1).1.1, (row4 h.out.2.1).1.2.1, (row4 h.out.2.1).1.2.2.1⟩
  have SD := Lib.hid (S0.out.on (Below.refl _ _).drew)
  clear S0
  refine wp_region_held_drew (S := fun W' => W'.cell? ⟨w.heap.size, 0, none⟩ = some (.int .u16 major) ∧ W'.cell? ⟨w.heap.size, 1, none⟩ = some (.int .u16 minor) ∧ W'.cell? ⟨w.heap.size, 2, none⟩ = some (.int .i64 len)) (by kernel_rfl) (KEEP SD) (fun hHeld => ?_)
  refine wpAnyH_take (i := 2) (v := .pointer (some ⟨w.heap.size, 0, none⟩)) rfl (by kernel_rfl) (by kernel_rfl) (by kernel_rfl) (fun _ _ _ h => h) (Or.inl ⟨by rfl, ?_⟩) (by assumption) ?_
  · intro W' hS; go_simp
  refine castP (d := 11) rfl (by simp only [List.set_cons_succ, List.set_cons_zero]; exact rfl) ?_
  refine wpAnyH_take (i := 3) (v := .int .u16 major) rfl (by kernel_rfl) (by kernel_rfl) (by kernel_rfl) (fun _ _ _ h => h) (Or.inl ⟨by rfl, ?_⟩) (by assumption) ?_
  · intro W' hS; obtain ⟨s0, s1, s2⟩ := hS; go_simp
  refine castP (d := 12) rfl (by simp only [List.set_cons_succ, List.set_cons_zero]; exact rfl) ?_
  refine wpAnyH_take (i := 4) (v := .int .u64 major) rfl (by kernel_rfl) (by kernel_rfl) (by kernel_rfl) (fun _ _ _ h => h) (Or.inl ⟨by rfl, ?_⟩) (by assumption) ?_
  · intro W' hS; go_simp
  refine castP (d := 13) rfl (by simp only [List.set_cons_succ, List.set_cons_zero]; exact rfl) ?_
  refine wpAnyH_take (i := 6) (v := .pointer (some ⟨w.heap.size, 1, none⟩)) rfl (by kernel_rfl) (by kernel_rfl) (by kernel_rfl) (fun _ _ _ h => h) (Or.inl ⟨by rfl, ?_⟩) (by assumption) ?_
  · intro W' hS; go_simp
  refine castP (d := 15) rfl (by simp only [List.set_cons_succ, List.set_cons_zero]; exact rfl) ?_
  refine wpAnyH_take (i := 7) (v := .int .u16 minor) rfl (by kernel_rfl) (by kernel_rfl) (by kernel_rfl) (fun _ _ _ h => h) (Or.inl ⟨by rfl, ?_⟩) (by assumption) ?_
  · intro W' hS; obtain ⟨s0, s1, s2⟩ := hS; go_simp
  refine castP (d := 16) rfl (by simp only [List.set_cons_succ, List.set_cons_zero]; exact rfl) ?_
  refine wpAnyH_take (i := 8) (v := .int .u64 minor) rfl (by kernel_rfl) (by kernel_rfl) (by kernel_rfl) (fun _ _ _ h => h) (Or.inl ⟨by rfl, ?_⟩) (by assumption) ?_
  · intro W' hS; go_simp
  refine castP (d := 17) rfl (by simp only [List.set_cons_succ, List.set_cons_zero]; exact rfl) ?_
  refine wpAnyH_take (i := 10) (v := .pointer (some ⟨w.heap.size, 2, none⟩)) rfl (by kernel_rfl) (by kernel_rfl) (by kernel_rfl) (fun _ _ _ h => h) (Or.inl ⟨by rfl, ?_⟩) (by assumption) ?_
  · intro W' hS; go_simp
  refine castP (d := 19) rfl (by simp only [List.set_cons_succ, List.set_cons_zero]; exact rfl) ?_
  refine wpAnyH_take (i := 11) (v := .int .i64 len) rfl (by kernel_rfl) (by kernel_rfl) (by kernel_rfl) (fun _ _ _ h => h) (Or.inl ⟨by rfl, ?_⟩) (by assumption) ?_
  · intro W' hS; obtain ⟨s0, s1, s2⟩ := hS; go_simp
  refine castP (d := 20) rfl (by simp only [List.set_cons_succ, List.set_cons_zero]; exact rfl) ?_
  refine wpAnyH_take (i := 12) (v := .int .u64 long) rfl (by kernel_rfl) (by kernel_rfl) (by kernel_rfl) (fun _ _ _ h => h) (Or.inl ⟨by rfl, ?_⟩) (by assumption) ?_
  · intro W' hS; go_simp
  refine castP (d := 21) rfl (by simp only [List.set_cons_succ, List.set_cons_zero]; exact rfl) ?_
  obtain ⟨⟨d0, d1⟩, _⟩ := row2 SD.out.2.2.2
  refine wpAnyH_ready (rs := [0]) (by kernel_rfl) (by simp) ?_
  refine AllReadyH.cons rfl (fun K hK => ?_) AllReadyH.nil
  go_simp
  refine hK.out _ _ hHeld (fun hHeld0 => ?_)
  clear hK K d0 d1
  refine wpAnyH_ready (rs := [1]) (by kernel_rfl) (by simp) ?_
  refine AllReadyH.cons rfl (fun K hK => ?_) AllReadyH.nil
  go_simp
  go_at_call 20
  refine (P1.out _).mono ?_
  rintro e x1 ⟨v1, rfl, hY, hb⟩
  obtain ⟨a1, n1, c1, rfl⟩ := hY.slice
  have S1 := Lib.hid (SD.out.on hb)
  have Y1 := Lib.hid hY
  refine hK.out _ _ (KEEP S1) (fun hHeld1 => ?_)
  clear hK K hY hb SD hHeld hHeld0
  refine wpAnyH_ready (rs := [5]) (by kernel_rfl) (by simp) ?_
  refine AllReadyH.cons rfl (fun K hK => ?_) AllReadyH.nil
  go_simp
  go_at_call 20
  refine (P2.out _ _ Y1.out).mono ?_
  rintro e x2 ⟨v2, rfl, hY, hb⟩
  obtain ⟨a2, n2, c2, rfl⟩ := hY.slice
  have S2 := Lib.hid (S1.out.on hb)
  have Y2 := Lib.hid hY
  refine hK.out _ _ (KEEP S2) (fun hHeld2 => ?_)
  clear hK K hY hb S1 Y1 hHeld1
  refine wpAnyH_ready (rs := [9]) (by kernel_rfl) (by simp) ?_
  refine AllReadyH.cons rfl (fun K hK => ?_) AllReadyH.nil
  go_simp
  go_at_call 20
  refine (P3.out _ _ Y2.out).mono ?_
  rintro e x3 ⟨v3, rfl, hY, hb⟩
  obtain ⟨a3, n3, c3, rfl⟩ := hY.slice
  have S3 := Lib.hid (S2.out.on hb)
  have Y3 := Lib.hid hY
  refine hK.out _ _ (KEEP S3) (fun hHeld3 => ?_)
  clear hK K hY hb S2 Y2 hHeld2
  refine wpAnyH_ready (rs := [13]) (by kernel_rfl) (by simp) ?_
  refine AllReadyH.cons rfl (fun K hK => ?_) AllReadyH.nil
  go_simp
  go_at_call 20
  refine (P4.out _ _ Y3.out).mono ?_
  rintro e x4 ⟨v4, rfl, hY, hb⟩
  obtain ⟨a4, n4, c4, rfl⟩ := hY.slice
  have S4 := Lib.hid (S3.out.on hb)
  have Y4 := Lib.hid hY
  refine hK.out _ _ (KEEP S4) (fun hHeld4 => ?_)
  clear hK K hY hb S3 Y3 hHeld3
  obtain ⟨⟨d0, d1⟩, f⟩ := row2 S4.out.2.2.2
  have f0 := f 0
  have f1 := f 1
  clear f
  refine wpAnyH_ready (rs := [14]) (by kernel_rfl) (by simp) ?_
  refine AllReadyH.cons rfl (fun K hK => ?_) AllReadyH.nil
  go_simp
  have S5 := Lib.hid (S4.out.put2 PS.out.2 NE.out.2.2.2.2.1 NE.out.2.2.1 (.slice a4 n4 c4) (.bool b))
  have Y5 := Lib.hid (Y4.out.stored S4.out.2.2.2 (.slice a4 n4 c4) (.bool b))
  clear d0 d1 f0 f1 S4 Y4
  generalize (x4.setCell ⟨q, 0, none⟩ (.slice a4 n4 c4)).setCell ⟨q, 1, none⟩ (.bool b) = x5 at *
  refine hK.out _ _ ⟨(row4 S5.out.2.1).1.1, (row4 S5.out.2.1).1.2.1, (row4 S5.out.2.1).1.2.2.1⟩ (fun hHeld5 => ?_)
  clear hK K hHeld4 hHeld5
  refine wpAnyH_done (by kernel_rfl) ?_ _
  obtain ⟨⟨b0, b1, b2, b3⟩, _⟩ := row4 S5.out.2.1
  have mk := MK.out
  go_upto_region 4 with (go_at_call 23; refine (PD.out _).mono ?_; rintro e x6 ⟨rfl, rfl⟩)
  clear mk MK b0 b1 b2 b3
  have S6 := Lib.hid (S5.out.on (below_alloc x5 (.cells (cellsOf (List.replicate z 0)).toArray 5)))
  have Y6 := Lib.hid (Y5.out.on (below_alloc x5 (.cells (cellsOf (List.replicate z 0)).toArray 5)))
  have Z6 := Lib.hid ((RowB.new x5 (List.replicate z 0) (cs := (cellsOf (List.replicate z 0)).toArray) rfl).byt (n := z) (c := z) (by simp) (Nat.le_refl _))
  clear S5 Y5
  generalize x5.alloc (.cells (cellsOf (List.replicate z 0)).toArray 5) = x6 at *
  generalize x5.heap.size = g6 at *
  have B6 := Lib.hid (HB.out.on S6.out.1)
  obtain ⟨⟨b0, b1, b2, b3⟩, _⟩ := row4 S6.out.2.1
  obtain ⟨⟨d0, d1⟩, _⟩ := row2 S6.out.2.2.2
  go_wp2_with fail
  refine (CC.out _ _ (Byts.new3 _ Y6.out B6.out Z6.out)).mono ?_
  rintro e x7 ⟨v7, rfl, hO⟩
  have hb := (below_alloc x6 _).trans (hO.below.mono (by simp))
  have S7 := Lib.hid (S6.out.on hb)
  have O7 := Lib.hid hO.byt
  obtain ⟨a7, n7, c7, rfl⟩ := hO.byt.slice
  clear hO hb S6 Y6 Z6 B6 b0 b1 b2 b3 d0 d1
  obtain ⟨⟨e0, e1⟩, f⟩ := row2 S7.out.2.2.1
  have f0 := f 0
  have f1 := f 1
  clear f
  go_wp2_with fail
  have B8 := Lib.hid ((S7.out.1.setCell (p := ⟨p, 0, none⟩) (by exact PS.out.1) (.int .u32 168627466)).setCell (p := ⟨p, 1, none⟩) (by exact PS.out.1) (.slice a7 n7 c7))
  have R8 := Lib.hid (two_row S7.out.2.2.1 (.int .u32 168627466) (.slice a7 n7 c7))
  have O8 := Lib.hid (O7.out.storedK S7.out.2.2.1 (.int .u32 168627466) (.slice a7 n7 c7))
  clear S7 O7 e0 e1 f0 f1
  generalize (x7.setCell ⟨p, 0, none⟩ (.int .u32 168627466)).setCell ⟨p, 1, none⟩ (.slice a7 n7 c7) = x8 at *
  obtain ⟨⟨e0, e1⟩, _⟩ := row2 R8.out
  refine bodyPost_ret (v := .agg #[.int .u32 168627466, .slice a7 n7 c7]) (by simp [results, Try.results12, go_sem, e0, e1]) rfl ⟨_, rfl, O8.out, B8.out⟩
end Go.Proofs.Ytjdnekkbmanmdaa
