/-
  Package block: Sec.
-/
import Derived.Test.YtjdnekkbmanmdaaBTurn9
import Derived.Test.YtjdnekkbmanmdaaCut
namespace Go.Proofs.Ytjdnekkbmanmdaa
open Go.RowKit Go.Sort
set_option maxRecDepth 8000
def secV (o : (Nat × Nat × Nat × List UInt8) × Nat) (v : Value) : Value := .tuple #[.agg #[.int .u16 o.1.1, .int .u16 o.1.2.1, .int .i64 (IntKind.i64.wrap o.1.2.2.1), v], .int .i64 o.2]
def SecOut (w : World) (o : (Nat × Nat × Nat × List UInt8) × Nat) (e : Ending) (w' : World) : Prop := ∃ v, e = .returned (secV o v) ∧ Byt w' v o.1.2.2.2 ∧ Below w.heap.size w w'
theorem secB_ways (kind : Nat) (l : List UInt8) (b : Bool) : (kind ≠ 168627466 ∧ secB kind l b = ((0, 0, 0, []), 2)) ∨ (kind = 168627466 ∧ l.length < 16 ∧ secB kind l b = ((0, 0, 0, []), 123)) ∨ (kind = 168627466 ∧ ¬ l.length < 16 ∧ gv l b 0 4 ≠ 439041101 ∧ secB kind l b = ((0, 0, 0, []), 120)) ∨
    (kind = 168627466 ∧ ¬ l.length < 16 ∧ gv l b 0 4 = 439041101 ∧ gv l b 4 2 ≠ 1 ∧ secB kind l b = ((0, 0, 0, []), 125)) ∨ (kind = 168627466 ∧ ¬ l.length < 16 ∧ gv l b 0 4 = 439041101 ∧ gv l b 4 2 = 1 ∧ secB kind l b = ((gv l b 4 2, gv l b 6 2, gv l b 8 8, l.drop 16), 0)) := by
  unfold secB
  by_cases h1 : kind = 168627466
  · right
    rw [if_neg (by simp [h1])]
    by_cases h2 : l.length < 16
    · left; exact ⟨h1, h2, if_pos h2⟩
    · right
      rw [if_neg h2]
      by_cases h3 : gv l b 0 4 = 439041101
      · right
        rw [if_neg (by simp [h3])]
        by_cases h4 : gv l b 4 2 = 1
        · right; exact ⟨h1, h2, h3, h4, if_neg (by simp [h4])⟩
        · left; exact ⟨h1, h2, h3, h4, if_pos h4⟩
      · left; exact ⟨h1, h2, h3, if_pos h3⟩
  · left; exact ⟨h1, if_pos h1⟩
/-- What stays: the block, the result's own variable, the row. -/
def ScSt (w wr : World) (p q : Nat) (o1 o2 o3 : Obj) : Prop := Below w.heap.size w wr ∧ wr.heap[w.heap.size]? = some o1 ∧ wr.heap[p]? = some o2 ∧ wr.heap[q]? = some o3
theorem ScSt.on {w wr w2 : World} {p q : Nat} {o1 o2 o3 : Obj} (h : ScSt w wr p q o1 o2 o3) (hb : Below wr.heap.size wr w2) : ScSt w w2 p q o1 o2 o3 :=
  ⟨h.1.trans (hb.mono h.1.size), keepRow h.2.1 hb, keepRow h.2.2.1 hb, keepRow h.2.2.2 hb⟩
theorem ScSt.new (w : World) (o1 o2 o3 : Obj) : ScSt w (((w.alloc o1).alloc o2).alloc o3) (w.heap.size + 1) (w.heap.size + 1 + 1) o1 o2 o3 :=
  ⟨((below_alloc w o1).trans ((below_alloc _ o2).mono (by simp))).trans ((below_alloc _ o3).mono (by simp; omega)), keepRow (keepRow (row_new w o1 rfl) (below_alloc _ o2)) (below_alloc _ o3), keepRow (row_new (w.alloc o1) o2 (by simp)) (below_alloc _ o3), row_new _ o3 (by simp)⟩
def put4 (w : World) (p : Nat) (u0 u1 u2 u3 : Value) : World := (((w.setCell ⟨p, 0, none⟩ u0).setCell ⟨p, 1, none⟩ u1).setCell ⟨p, 2, none⟩ u2).setCell ⟨p, 3, none⟩ u3
theorem four_row {w : World} {p : Nat} {v0 v1 v2 v3 : Value} {T : TypeId} (hp : w.heap[p]? = some (.cells #[v0, v1, v2, v3] T (0, 0))) (u0 u1 u2 u3 : Value) : (put4 w p u0 u1 u2 u3).heap[p]? = some (.cells #[u0, u1, u2, u3] T (0, 0)) := by
  have h1 := heap_setCell_same w p 0 _ _ u0 hp
  have h2 := heap_setCell_same _ p 1 _ _ u1 h1
  have h3 := heap_setCell_same _ p 2 _ _ u2 h2
  have h4 := heap_setCell_same _ p 3 _ _ u3 h3
  unfold put4
  rw [h4]; rfl
theorem four_far {w : World} {p r : Nat} (h : r ≠ p) (u0 u1 u2 u3 : Value) : (put4 w p u0 u1 u2 u3).heap[r]? = w.heap[r]? := by
  unfold put4
  rw [heap_setCell_other _ _ _ _ (by simpa using h), heap_setCell_other _ _ _ _ (by simpa using h), heap_setCell_other _ _ _ _ (by simpa using h), heap_setCell_other _ _ _ _ (by simpa using h)]
theorem below_put4 {n : Nat} {w wr : World} {p : Nat} (hb : Below n w wr) (h : n ≤ p) (u0 u1 u2 u3 : Value) : Below n w (put4 wr p u0 u1 u2 u3) :=
  (((hb.setCell (by exact h) _).setCell (by exact h) _).setCell (by exact h) _).setCell (by exact h) _
theorem ScSt.put {w wr : World} {p q : Nat} {o1 o3 : Obj} {v0 v1 v2 v3 : Value} {T : TypeId} (h : ScSt w wr p q o1 (.cells #[v0, v1, v2, v3] T (0, 0)) o3) (hp : w.heap.size ≤ p) (ne : ¬ w.heap.size = p) (nq : ¬ q = p) (u0 u1 u2 u3 : Value) :
    ScSt w (put4 wr p u0 u1 u2 u3) p q o1 (.cells #[u0, u1, u2, u3] T (0, 0)) o3 :=
  ⟨below_put4 h.1 hp _ _ _ _, (four_far ne _ _ _ _).trans h.2.1, four_row h.2.2.1 _ _ _ _, (four_far nq _ _ _ _).trans h.2.2.2⟩
/-- Bytes lie in no section's head. -/
theorem Byt.put4 {w : World} {v : Value} {l : List UInt8} (h : Byt w v l) {p : Nat} {n0 n1 n2 : Int} {a0 : Option Addr} {k0 c0 : Nat} {T : TypeId} (hp : w.heap[p]? = some (.cells #[.int .u16 n0, .int .u16 n1, .int .i64 n2, .slice a0 k0 c0] T (0, 0))) (u0 u1 u2 u3 : Value) :
    Byt (put4 w p u0 u1 u2 u3) v l := by
  obtain ⟨a, c, e, hc, h⟩ := h
  refine ⟨a, c, e, hc, ?_⟩
  rcases h with h | ⟨g, o, ea, hg, hx⟩
  · exact Or.inl h
  · right
    refine ⟨g, o, ea, by unfold Go.Proofs.Ytjdnekkbmanmdaa.put4; simpa using hg, fun j hj => ?_⟩
    have hj' := hx j hj
    have ne : p ≠ g := by
      rintro rfl
      rw [cell_of_row _ _ _ _ _ _ hp] at hj'
      match o + j, hj' with
      | 0, hj' => simp at hj'
      | 1, hj' => simp at hj'
      | 2, hj' => simp at hj'
      | 3, hj' => simp at hj'
      | k + 4, hj' => simp at hj'
    unfold Go.Proofs.Ytjdnekkbmanmdaa.put4
    rw [World.cell?_setCell_other _ _ _ _ (fun e => ne (congrArg Addr.block e)), World.cell?_setCell_other _ _ _ _ (fun e => ne (congrArg Addr.block e)), World.cell?_setCell_other _ _ _ _ (fun e => ne (congrArg Addr.block e)), World.cell?_setCell_other _ _ _ _ (fun e => ne (congrArg Addr.block e))]
    exact hj'
theorem secV_none (e : Nat) : secV ((0, 0, 0, []), e) (.slice none 0 0) = .tuple #[.agg #[.int .u16 0, .int .u16 0, .int .i64 0, .slice none 0 0], .int .i64 e] := by unfold secV; simp [IntKind.wrap_i64]
set_option maxHeartbeats 4000000 in
theorem t_sec (kind : Nat) (v : Value) (l : List UInt8) (b : Bool) (hk : kind < 4294967296) (hl : l.length ≤ 900) (w : World) (hB : Byt w v l) :
    Calls Try.prog 16 #[.agg #[.int .u32 kind, v], .bool b] w (SecOut w (secB kind l b)) := by
  obtain ⟨ad, c, rfl, hc, hA⟩ := hB.open
  have hz : l.length ≤ 140737488355328 := by omega
  have HA := Lib.hid hA
  have U0 := Lib.hid (fun w hB => t_u32 ad l c b 0 hc (by omega) hz w hB)
  have U4 := Lib.hid (fun w hB => t_u16 ad l c b 4 hc (by omega) hz w hB)
  have U6 := Lib.hid (fun w hB => t_u16 ad l c b 6 hc (by omega) hz w hB)
  have U8 := Lib.hid (fun w hB => t_u64 ad l c b 8 hc (by omega) hz w hB)
  have CL := Lib.hid (fun v w hB => t_clone9 v (l.drop 16) (by rw [List.length_drop]; omega) w hB)
  have HP := Lib.hid (fun (h : 16 ≤ l.length) W' (hb : Below w.heap.size w W') => (show Byt W' (.slice (if c = 16 then ad else ad.map (·.add 16)) (l.length - 16) (c - 16)) (l.drop 16) by
    have e : (l.drop 16).take (l.length - 16) = l.drop 16 := List.take_of_length_le (by rw [List.length_drop]; exact Nat.le_refl _)
    have := (hA.sub 16 (l.length - 16) c (by omega) hc).on hb
    rw [e] at this
    exact this.byt (by rw [List.length_drop]) (by omega)))
  have SL := Lib.hid (fun (h : 16 ≤ l.length) W' => (show (Instr.slice 22 (.slice ad l.length c) (some (.int .i64 16)) none none).run Try.prog W' = .ok (.slice (if c = 16 then ad else ad.map (·.add 16)) (l.length - 16) (c - 16)) W' from run_from W' ad l.length c 16 h))
  have V := secB_ways kind l b
  clear hB hA
  obtain ⟨o1, ho1⟩ : ∃ o, o = Obj.cells #[.int .u32 kind, .slice ad l.length c] 32 (0, 0) := ⟨_, rfl⟩
  obtain ⟨o2, ho2⟩ : ∃ o, o = Obj.cells #[.int .u16 0, .int .u16 0, .int .i64 0, .slice none 0 0] 35 (0, 0) := ⟨_, rfl⟩
  obtain ⟨o3, ho3⟩ : ∃ o, o = Obj.cells #[.slice ad l.length c, .bool b] 55 (0, 0) := ⟨_, rfl⟩
  have S0 := Lib.hid (ScSt.new w o1 o2 o3)
  have bd4 := gv_16 l b 4
  have bd6 := gv_16 l b 6
  have bd8 := gv_64 l b 8
  have bd0 := gv_32 l b 0
  generalize secB kind l b = o at *
  generalize gv l b 0 4 = x0 at *
  generalize gv l b 4 2 = x4 at *
  generalize gv l b 6 2 = x6 at *
  generalize gv l b 8 8 = x8 at *
  generalize l.drop 16 = r at *
  generalize hn : l.length = n at *
  clear hn
  unfold SecOut
  go_enter Try.func16, Try.ntmps16
  go_upto_region 2 with fail
  rw [← ho1, ← ho2, ← ho3]
  generalize ((w.alloc o1).alloc o2).alloc o3 = w0 at *
  obtain ⟨p, hp⟩ : ∃ p, p = w.heap.size + 1 := ⟨_, rfl⟩
  obtain ⟨q, hq⟩ : ∃ q, q = w.heap.size + 1 + 1 := ⟨_, rfl⟩
  have PS := Lib.hid (show w.heap.size ≤ p by omega)
  have NE := Lib.hid (show ¬ p = w.heap.size ∧ ¬ w.heap.size = p ∧ ¬ p = q ∧ ¬ q = p by omega)
  rw [← hq, ← hp] at S0 ⊢
  clear hp hq
  rw [ho1, ho2, ho3] at S0
  clear ho1 ho2 ho3
  obtain ⟨⟨c0, c1⟩, _⟩ := row2 S0.out.2.1
  rcases V with ⟨g1, rfl⟩ | ⟨rfl, g2, rfl⟩ | V
  · have g1 : ((kind : Int) == 168627466) = false := by simp; omega
    obtain ⟨⟨d0, d1, d2, d3⟩, f⟩ := row4 S0.out.2.2.1
    have f0 := f 0
    have f1 := f 1
    have f2 := f 2
    have f3 := f 3
    clear f
    go_wp2
    refine bodyPost_ret (v := secV ((0, 0, 0, []), 2) (.slice none 0 0)) (by rw [secV_none]; simp [results, Try.results16, go_sem, d0, d1, d2, d3]) rfl ⟨_, rfl, byt_nil _, ?_⟩
    have B2 := S0.out.1
    have P5 := PS.out
    (repeat (first | (with_reducible exact Below.refl _ _) | (with_reducible assumption) | (with_reducible refine Below.drew ?_) | (with_reducible refine below_drewN ?_ _) | ((with_reducible refine Below.alloc ?_ ?_ _); rotate_left; (focus (first | (simp; done) | (simp; omega) | omega))) | ((with_reducible refine Below.setCell ?_ ?_ _); rotate_left; (focus (first | (simp; done) | (simp; omega) | omega))) | ((with_reducible refine Below.trans ?_ (Below.mono (by assumption) ?_)); rotate_left; (focus (first | (simp; done) | (simp; omega) | omega)))))
  · have g2 : decide ((n : Int) < 16) = true := by simp; omega
    obtain ⟨⟨d0, d1, d2, d3⟩, f⟩ := row4 S0.out.2.2.1
    have f0 := f 0
    have f1 := f 1
    have f2 := f 2
    have f3 := f 3
    clear f
    go_wp2
    refine bodyPost_ret (v := secV ((0, 0, 0, []), 123) (.slice none 0 0)) (by rw [secV_none]; simp [results, Try.results16, go_sem, d0, d1, d2, d3]) rfl ⟨_, rfl, byt_nil _, ?_⟩
    have B2 := S0.out.1
    have P5 := PS.out
    (repeat (first | (with_reducible exact Below.refl _ _) | (with_reducible assumption) | (with_reducible refine Below.drew ?_) | (with_reducible refine below_drewN ?_ _) | ((with_reducible refine Below.alloc ?_ ?_ _); rotate_left; (focus (first | (simp; done) | (simp; omega) | omega))) | ((with_reducible refine Below.setCell ?_ ?_ _); rotate_left; (focus (first | (simp; done) | (simp; omega) | omega))) | ((with_reducible refine Below.trans ?_ (Below.mono (by assumption) ?_)); rotate_left; (focus (first | (simp; done) | (simp; omega) | omega)))))
  have V0 := V
  have VV : x0 ≠ 439041101 ∧ o = ((0, 0, 0, []), 120) ∨ x0 = 439041101 ∧ (x4 ≠ 1 ∧ o = ((0, 0, 0, []), 125) ∨ x4 = 1 ∧ o = ((x4, x6, x8, r), 0)) := by
    rcases V with ⟨_, _, h, e⟩ | ⟨_, _, h, h', e⟩ | ⟨_, _, h, h', e⟩
    · exact Or.inl ⟨h, e⟩
    · exact Or.inr ⟨h, Or.inl ⟨h', e⟩⟩
    · exact Or.inr ⟨h, Or.inr ⟨h', e⟩⟩
  have g16 : kind = 168627466 ∧ 16 ≤ n := by rcases V0 with ⟨h, g, _⟩ | ⟨h, g, _⟩ | ⟨h, g, _⟩ <;> exact ⟨h, by omega⟩
  obtain ⟨rfl, g16⟩ := g16
  have HP := Lib.hid (HP.out g16)
  have SL := SL.out g16
  obtain ⟨PV, hPV⟩ : ∃ PV, PV = Value.slice (if c = 16 then ad else ad.map (·.add 16)) (n - 16) (c - 16) := ⟨_, rfl⟩
  rw [← hPV] at HP SL
  clear hPV
  have g2 : decide ((n : Int) < 16) = false := by simp; omega
  clear V0 V
  obtain ⟨⟨e0, e1⟩, _⟩ := row2 S0.out.2.2.2
  rcases VV with ⟨g3, rfl⟩ | ⟨g3, V⟩
  · have g3 : ((x0 : Int) == 439041101) = false := by simp; omega
    go_upto_region 7 with (go_at_call 18; refine (U0.out _ (HA.out.on S0.out.1)).mono ?_; rintro e u1 ⟨rfl, hb⟩; have S1 := Lib.hid (S0.out.on hb); clear hb S0 c0 c1 e0 e1)
    obtain ⟨⟨d0, d1, d2, d3⟩, f⟩ := row4 S1.out.2.2.1
    have f0 := f 0
    have f1 := f 1
    have f2 := f 2
    have f3 := f 3
    clear f
    go_wp2
    refine bodyPost_ret (v := secV ((0, 0, 0, []), 120) (.slice none 0 0)) (by rw [secV_none]; simp [results, Try.results16, go_sem, d0, d1, d2, d3]) rfl ⟨_, rfl, byt_nil _, ?_⟩
    have B2 := S1.out.1
    have P5 := PS.out
    (repeat (first | (with_reducible exact Below.refl _ _) | (with_reducible assumption) | (with_reducible refine Below.drew ?_) | (with_reducible refine below_drewN ?_ _) | ((with_reducible refine Below.alloc ?_ ?_ _); rotate_left; (focus (first | (simp; done) | (simp; omega) | omega))) | ((with_reducible refine Below.setCell ?_ ?_ _); rotate_left; (focus (first | (simp; done) | (simp; omega) | omega))) | ((with_reducible refine Below.trans ?_ (Below.mono (by assumption) ?_)); rotate_left; (focus (first | (simp; done) | (simp; omega) | omega)))))
  have g3 : ((x0 : Int) == 439041101) = true := by simp; omega
  go_upto_region 8 with (go_at_call 18; refine (U0.out _ (HA.out.on S0.out.1)).mono ?_; rintro e u1 ⟨rfl, hb⟩; have S1 := Lib.hid (S0.out.on hb); clear hb S0 c0 c1 e0 e1)
  obtain ⟨⟨e0, e1⟩, _⟩ := row2 S1.out.2.2.2
  rcases V with ⟨g4, rfl⟩ | ⟨g4, rfl⟩
  · have g4 : ((x4 : Int) == 1) = false := by simp; omega
    go_upto_region 9 with (go_at_call 25; refine (U4.out _ (HA.out.on S1.out.1)).mono ?_; rintro e u2 ⟨rfl, hb⟩; have S2 := Lib.hid (S1.out.on hb); clear hb S1 e0 e1)
    obtain ⟨⟨d0, d1, d2, d3⟩, f⟩ := row4 S2.out.2.2.1
    have f0 := f 0
    have f1 := f 1
    have f2 := f 2
    have f3 := f 3
    clear f
    go_wp2
    refine bodyPost_ret (v := secV ((0, 0, 0, []), 125) (.slice none 0 0)) (by rw [secV_none]; simp [results, Try.results16, go_sem, d0, d1, d2, d3]) rfl ⟨_, rfl, byt_nil _, ?_⟩
    have B2 := S2.out.1
    have P5 := PS.out
    (repeat (first | (with_reducible exact Below.refl _ _) | (with_reducible assumption) | (with_reducible refine Below.drew ?_) | (with_reducible refine below_drewN ?_ _) | ((with_reducible refine Below.alloc ?_ ?_ _); rotate_left; (focus (first | (simp; done) | (simp; omega) | omega))) | ((with_reducible refine Below.setCell ?_ ?_ _); rotate_left; (focus (first | (simp; done) | (simp; omega) | omega))) | ((with_reducible refine Below.trans ?_ (Below.mono (by assumption) ?_)); rotate_left; (focus (first | (simp; done) | (simp; omega) | omega)))))
  have g4 : ((x4 : Int) == 1) = true := by simp; omega
  go_upto_region 10 with (go_at_call 25; refine (U4.out _ (HA.out.on S1.out.1)).mono ?_; rintro e u2 ⟨rfl, hb⟩; have S2 := Lib.hid (S1.out.on hb); clear hb S1 e0 e1)
  have SD := Lib.hid (S2.out.on (Below.refl _ _).drew)
  obtain ⟨⟨c0, c1⟩, _⟩ := row2 SD.out.2.1
  obtain ⟨⟨e0, e1⟩, _⟩ := row2 SD.out.2.2.2
  clear S2
  go_region_held3 (fun W' => W'.cell? ⟨w.heap.size, 1, none⟩ = some (.slice ad n c) ∧ W'.cell? ⟨q, 0, none⟩ = some (.slice ad n c) ∧ W'.cell? ⟨q, 1, none⟩ = some (.bool b))
    (first
      | with_reducible exact ⟨c1, e0, e1⟩
      | with_reducible exact ⟨y1, y2, y3⟩
      | with_reducible exact ⟨z1, z2, z3⟩
      | with_reducible exact ⟨m1, m2, m3⟩
      | with_reducible exact ⟨k1, k2, k3⟩
      | with_reducible exact ⟨t1, t2, t3⟩)
    (first
      | (go_at_call 27; refine (CL.out _ _ (HP.out _ S5.out.1)).mono ?_; rintro e u6 ⟨v6, rfl, hO⟩; have S6 := Lib.hid (S5.out.on hO.below); have O6 := Lib.hid hO.byt; obtain ⟨a6, n6, d6, rfl⟩ := hO.byt.slice; clear hO; obtain ⟨⟨k0, k1⟩, _⟩ := row2 S6.out.2.1; obtain ⟨⟨k2, k3⟩, _⟩ := row2 S6.out.2.2.2; have S7 := Lib.hid (S6.out.put PS.out NE.out.2.1 NE.out.2.2.2 (.int .u16 1) (.int .u16 x6) (.int .i64 (IntKind.i64.wrap x8)) (.slice a6 n6 d6)); obtain ⟨⟨t0, t1⟩, _⟩ := row2 S7.out.2.1; obtain ⟨⟨t2, t3⟩, _⟩ := row2 S7.out.2.2.2; unfold put4 at S7 t0 t1 t2 t3; obtain ⟨⟨d0, d1, d2, d3⟩, f⟩ := row4 S6.out.2.2.1; have f0 := f 0; have f1 := f 1; have f2 := f 2; have f3 := f 3; clear f; obtain ⟨ne1, ne2, ne3, ne4⟩ := NE.out)
      | (go_at_call 26; refine (U8.out _ (HA.out.on S4.out.1)).mono ?_; rintro e u5 ⟨rfl, hb⟩; have S5 := Lib.hid (S4.out.on hb); clear hb; obtain ⟨⟨m0, m1⟩, _⟩ := row2 S5.out.2.1; obtain ⟨⟨m2, m3⟩, _⟩ := row2 S5.out.2.2.2)
      | (go_at_call 25; refine (U6.out _ (HA.out.on S3.out.1)).mono ?_; rintro e u4 ⟨rfl, hb⟩; have S4 := Lib.hid (S3.out.on hb); clear hb; obtain ⟨⟨z0, z1⟩, _⟩ := row2 S4.out.2.1; obtain ⟨⟨z2, z3⟩, _⟩ := row2 S4.out.2.2.2)
      | (go_at_call 25; refine (U4.out _ (HA.out.on SD.out.1)).mono ?_; rintro e u3 ⟨rfl, hb⟩; have S3 := Lib.hid (SD.out.on hb); clear hb; obtain ⟨⟨y0, y1⟩, _⟩ := row2 S3.out.2.1; obtain ⟨⟨y2, y3⟩, _⟩ := row2 S3.out.2.2.2))
  have Y7 := Lib.hid (O6.out.put4 S6.out.2.2.1 (.int .u16 1) (.int .u16 x6) (.int .i64 (IntKind.i64.wrap x8)) (.slice a6 n6 d6))
  unfold put4 at Y7
  clear c0 c1 e0 e1 y0 y1 y2 y3 z0 z1 z2 z3 m0 m1 m2 m3 k0 k1 k2 k3 t0 t1 t2 t3 d0 d1 d2 d3 f0 f1 f2 f3 S3 S4 S5 S6 SD O6
  generalize (((u6.setCell ⟨p, 0, none⟩ (.int .u16 1)).setCell ⟨p, 1, none⟩ (.int .u16 x6)).setCell ⟨p, 2, none⟩ (.int .i64 (IntKind.i64.wrap x8))).setCell ⟨p, 3, none⟩ (.slice a6 n6 d6) = w7 at *
  obtain ⟨⟨d0, d1, d2, d3⟩, _⟩ := row4 S7.out.2.2.1
  go_wp2_with fail
  refine bodyPost_ret (v := secV ((1, x6, x8, r), 0) (.slice a6 n6 d6)) (by unfold secV; simp [results, Try.results16, go_sem, d0, d1, d2, d3]) rfl ⟨_, rfl, Y7.out, S7.out.1⟩
end Go.Proofs.Ytjdnekkbmanmdaa
