/-
  The moments of records: plain lemmas.
  Package pcap: At, When.
-/
import Derived.Test.YthmkfkmcamjnoaaDoorPcap
import Derived.Test.YthmkfkmcamjnoaaDoorFixN
import Derived.Test.YthmkfkmcamjnoaaDoorNear
import Derived.Test.YthmkfkmcamjnoaaDoorPOpen8
import Derived.Test.YthmkfkmcamjnoaaDoorOctD
namespace Go.Proofs.YthmkfkmcamjnoaaDoor
/-- The moment of a record. -/
def atS (nano : Bool) (sec part : Int) : Int := unixI sec (if part < den nano then fracI part (den nano) else 4294967295)
/-- Whole seconds and parts of a moment. -/
def whenOk (x : Int) : Bool := backOk x && decide (backS x < 4294967296)
def whenS (x : Int) : Int := if whenOk x then backS x else 0
def whenP (nano : Bool) (x : Int) : Int := if whenOk x then partsI (backF x) (den nano) else 0
theorem den_within (nano : Bool) (part : Int) (h : part < den nano) : withinB part (den nano) = true := by
  unfold withinB
  cases nano <;> simp [den] at * <;> omega
theorem at_frac (nano : Bool) (part : Int) (h0 : 0 ≤ part) : 0 ≤ (if part < den nano then fracI part (den nano) else 4294967295) ∧ (if part < den nano then fracI part (den nano) else 4294967295) ≤ 4294967295 := by
  split
  · rename_i h; exact frac_bd h0 (den_within nano part h)
  · omega
theorem at_in (nano : Bool) (sec part : Int) (hs : 0 ≤ sec ∧ sec ≤ 4294967295) (hp : 0 ≤ part) : In (atS nano sec part) := unix_in (by omega) (at_frac nano part hp)
theorem when_at (nano : Bool) (sec part : Int) (hs : 0 ≤ sec ∧ sec ≤ 4294967295) (hp : 0 ≤ part) (h : part < den nano) : whenOk (atS nano sec part) = true ∧ whenS (atS nano sec part) = sec ∧ whenP nano (atS nano sec part) = part := by
  have hf := at_frac nano part hp
  obtain ⟨a, b, c⟩ := unix_back (s := sec) (by omega) hf
  have ok : whenOk (atS nano sec part) = true := by unfold whenOk atS; rw [a, c]; simp; omega
  refine ⟨ok, ?_, ?_⟩
  · unfold whenS; rw [ok]; exact a
  · unfold whenP; rw [ok, if_pos rfl]
    have b : backF (atS nano sec part) = _ := b
    rw [b, if_pos h]
    exact frac_parts hp (den_within nano part h) (by cases nano <;> simp [den])
theorem frac_lt {n m d : Int} (h0 : 0 ≤ n) (h : n < m) (hm : withinB m d = true) (hd : d ≤ 4294967296) : fracI n d < fracI m d := by
  have hn : withinB n d = true := by unfold withinB at *; simp at *; omega
  have a := frac_mono h0 (show n ≤ m by omega) hn hm
  have b := frac_parts h0 hn hd
  have c := frac_parts (show 0 ≤ m by omega) hm hd
  rcases Int.lt_or_eq_of_le a with e | e
  · exact e
  · rw [e, c] at b; omega
/-- A later record's moment is later. -/
theorem at_lt (nano : Bool) (s p t q : Int) (hp : 0 ≤ p ∧ p < den nano) (hq : 0 ≤ q ∧ q < den nano) : atS nano s p < atS nano t q ↔ (s < t ∨ (s = t ∧ p < q)) := by
  have h1 := at_frac nano p hp.1
  have h2 := at_frac nano q hq.1
  unfold atS
  rw [unix_lt h1 h2, if_pos hp.2, if_pos hq.2]
  have d9 : (den nano : Int) ≤ 4294967296 := by cases nano <;> simp [den]
  constructor
  · rintro (h | ⟨h, g⟩)
    · exact Or.inl h
    · right
      refine ⟨h, ?_⟩
      by_cases e : p < q
      · exact e
      · have := frac_mono hq.1 (show q ≤ p by omega) (den_within nano q hq.2) (den_within nano p hp.2)
        omega
  · rintro (h | ⟨h, g⟩)
    · exact Or.inl h
    · exact Or.inr ⟨h, frac_lt hp.1 g (den_within nano q hq.2) d9⟩
end Go.Proofs.YthmkfkmcamjnoaaDoor
namespace Go.Proofs.YthmkfkmcamjnoaaDoor
open Go.RowKit Go.Sort
set_option maxRecDepth 8000
theorem den_bd (b : Bool) : 0 ≤ ((den b : Nat) : Int) ∧ ((den b : Nat) : Int) ≤ 18446744073709551615 := by cases b <;> simp [den]
theorem within_no (b : Bool) (y : Nat) (h : ¬ (y : Int) < den b) : withinB y (den b) = false := by unfold withinB; simp; omega
set_option maxHeartbeats 4000000 in
theorem t_at (a b : Bool) (k s : Nat) (y0 y1 y2 y3 : Nat) (h0 : y0 < 4294967296) (h1 : y1 < 4294967296) (w : World) (hg : Glob w) :
    Calls Tryd.prog 20 #[(.agg #[.bool a, .bool b, .int .u16 k, .int .u32 s]), (.agg #[.int .u32 y0, .int .u32 y1, .int .u32 y2, .int .u32 y3])] w fun e w' => e = .returned (wideV (atS b y0 y1)) ∧ Below w.heap.size w w' := by
  have G := Lib.hid hg
  have TD := Lib.hid (fun w => t_den a b k s w)
  have TF := Lib.hid (f_frac y1 (den b) (by omega) (den_bd b))
  have fb := at_frac b y1 (by omega)
  have w1 : IntKind.u64.wrap (y1 : Int) = (y1 : Int) := wrap_small y1 (by omega)
  have w0 : IntKind.u64.wrap (y0 : Int) = (y0 : Int) := wrap_small y0 (by omega)
  unfold atS
  clear hg
  obtain ⟨z, hz⟩ : ∃ z, z = if (y1 : Int) < den b then fracI y1 (den b) else 4294967295 := ⟨_, rfl⟩
  obtain ⟨i, hi⟩ : ∃ i, i = fracI y1 (den b) := ⟨_, rfl⟩
  obtain ⟨ok, hok⟩ : ∃ ok, ok = withinB y1 (den b) := ⟨_, rfl⟩
  have Z : (ok = true ∧ z = i) ∨ (ok = false ∧ z = 4294967295) := by
    by_cases h : (y1 : Int) < den b
    · left; rw [hok, hz, hi, if_pos h]; exact ⟨den_within b y1 h, rfl⟩
    · right; rw [hok, hz, if_neg h]; exact ⟨within_no b y1 h, rfl⟩
  rw [← hz] at fb ⊢
  rw [← hi, ← hok] at TF
  clear hz hi hok
  have TU := Lib.hid (e_unix y0 z (by omega) fb)
  generalize den b = dn at *
  unfold wideV at TU ⊢
  go_enter Tryd.func20, Tryd.ntmps20
  go_upto_region 1 with fail
  obtain ⟨o0, ho0⟩ : ∃ o, o = Obj.cells #[.bool a, .bool b, .int .u16 k, .int .u32 s] 26 (0, 0) := ⟨_, rfl⟩
  obtain ⟨o1, ho1⟩ : ∃ o, o = Obj.cells #[.int .u32 y0, .int .u32 y1, .int .u32 y2, .int .u32 y3] 43 (0, 0) := ⟨_, rfl⟩
  obtain ⟨o2, ho2⟩ : ∃ o, o = Obj.cells #[.int .i64 0, .int .u64 0] 52 (0, 0) := ⟨_, rfl⟩
  rw [← ho0, ← ho1, ← ho2]
  have F0 := Lib.hid (keepRow (keepRow (row_new w o0 rfl) (below_alloc _ o1)) (below_alloc _ o2))
  have H0 := Lib.hid (keepRow (row_new (w.alloc o0) o1 (b := w.heap.size + 1) (by simp)) (below_alloc _ o2))
  have R0 := Lib.hid (row_new ((w.alloc o0).alloc o1) o2 (b := w.heap.size + 1 + 1) (by simp))
  have B0 := Lib.hid (((below_alloc w o0).trans ((below_alloc _ o1).mono (by simp))).trans ((below_alloc _ o2).mono (by simp; omega)))
  generalize ((w.alloc o0).alloc o1).alloc o2 = u0 at *
  rw [ho0] at F0
  rw [ho1] at H0
  rw [ho2] at R0
  have QP := Lib.hid (show w.heap.size ≤ w.heap.size + 1 + 1 by omega)
  clear ho0 ho1 ho2
  obtain ⟨⟨c0, c1, c2, c3⟩, _⟩ := row4 F0.out
  obtain ⟨⟨d0, d1, d2, d3⟩, _⟩ := row4 H0.out
  generalize hp : w.heap.size + 1 + 1 = p2 at *
  generalize hp1 : w.heap.size + 1 = p1 at *
  go_region_held3 (fun W' => (W'.cell? ⟨w.heap.size, 0, none⟩ = some (.bool a) ∧ W'.cell? ⟨w.heap.size, 1, none⟩ = some (.bool b) ∧ W'.cell? ⟨w.heap.size, 2, none⟩ = some (.int .u16 k) ∧ W'.cell? ⟨w.heap.size, 3, none⟩ = some (.int .u32 s)) ∧ W'.cell? ⟨p1, 1, none⟩ = some (.int .u32 y1))
    (first
      | exact ⟨⟨c0, c1, c2, c3⟩, d1⟩
      | exact ⟨⟨x0, x1, x2, x3⟩, x4⟩
      | exact ⟨⟨z0, z1, z2, z3⟩, z4⟩
      | go_keep)
    (first
      | (go_at_call 36; refine (TF.out _ (G.out.below B1.out)).mono ?_; rintro e u2 ⟨rfl, hb⟩; have F2 := Lib.hid (keepRow F1.out hb); have H2 := Lib.hid (keepRow H1.out hb); have R2 := Lib.hid (keepRow R1.out hb); have B2 := Lib.hid (B1.out.trans (hb.mono B1.out.size)); obtain ⟨⟨z0, z1, z2, z3⟩, _⟩ := row4 F2.out; obtain ⟨⟨_, z4, _, _⟩, _⟩ := row4 H2.out)
      | (go_at_call 12; refine (TD.out _).mono ?_; rintro e u1 ⟨rfl, hb0⟩; have hb := Below.trans (Below.refl u0.heap.size _).drew (hb0.mono (by simp)); have F1 := Lib.hid (keepRow F0.out hb); have H1 := Lib.hid (keepRow H0.out hb); have R1 := Lib.hid (keepRow R0.out hb); have B1 := Lib.hid (B0.out.trans (hb.mono B0.out.size)); obtain ⟨⟨x0, x1, x2, x3⟩, _⟩ := row4 F1.out; obtain ⟨⟨_, x4, _, _⟩, _⟩ := row4 H1.out))
  clear F0 H0 R0 B0 F1 H1 R1 B1 F2 TF TD c0 c1 c2 c3 d0 d1 d2 d3 x0 x1 x2 x3 x4 z0 z1 z2 z3 z4
  obtain ⟨⟨d0, d1, d2, d3⟩, _⟩ := row4 H2.out
  have P2 := Lib.hid (show w.heap.size ≤ p2 by omega)
  clear hp hp1
  rcases Z with ⟨rfl, rfl⟩ | ⟨rfl, rfl⟩
  all_goals
    go_wp2_with (go_at_call 23; refine (TU.out _ (G.out.below B2.out)).mono ?_; rintro e u3 ⟨rfl, hb⟩; have R3 := Lib.hid (keepRow R2.out hb); have B3 := Lib.hid (B2.out.trans (hb.mono B2.out.size)); clear hb R2 B2 H2 d0 d1 d2 d3; have c0 := cell_of_row _ p2 0 _ _ _ R3.out; have c1 := cell_of_row _ p2 1 _ _ _ R3.out; have f0 := frozen_of_row _ p2 0 _ _ R3.out; have f1 := frozen_of_row _ p2 1 _ _ R3.out)
    refine bodyPost_ret (by simp [results, Tryd.results20, go_sem, c0, c1]) rfl ⟨rfl, ?_⟩
    exact below_two B3.out P2.out _ _
set_option maxHeartbeats 4000000 in
theorem t_when (a b : Bool) (k s : Nat) (x : Int) (hx : In x) (w : World) (hg : Glob w) :
    Calls Tryd.prog 18 #[(.agg #[.bool a, .bool b, .int .u16 k, .int .u32 s]), wideV x] w fun e w' => e = .returned (.tuple #[.int .u32 (whenS x), .int .u32 (whenP b x), .bool (whenOk x)]) ∧ Below w.heap.size w w' := by
  have G := Lib.hid hg
  have TD := Lib.hid (fun w => t_den a b k s w)
  have TB := Lib.hid (e_back x hx)
  have bd : 0 ≤ backS x ∧ backS x ≤ 18446744073709551615 ∧ 0 ≤ backF x ∧ backF x ≤ 4294967295 := by
    unfold backS backF
    split
    · unfold loOf; omega
    · omega
  have TP := Lib.hid (f_parts (backF x) (den b) ⟨bd.2.2.1, bd.2.2.2⟩ (den_bd b))
  have PB : 0 ≤ partsI (backF x) (den b) ∧ partsI (backF x) (den b) < den b := parts_lt ⟨bd.2.2.1, bd.2.2.2⟩ (by cases b <;> decide)
  have db : (den b : Int) ≤ 1000000000 := by cases b <;> simp [den]
  have V : (backOk x = false ∧ whenS x = 0 ∧ whenP b x = 0 ∧ whenOk x = false) ∨ (backOk x = true ∧ ¬ backS x ≤ 4294967295 ∧ whenS x = 0 ∧ whenP b x = 0 ∧ whenOk x = false) ∨ (backOk x = true ∧ backS x ≤ 4294967295 ∧ whenS x = backS x ∧ whenP b x = partsI (backF x) (den b) ∧ whenOk x = true) := by
    unfold whenS whenP whenOk
    cases h : backOk x with
    | false => left; simp
    | true =>
      right
      by_cases g : backS x ≤ 4294967295
      · right
        have e : decide (backS x < 4294967296) = true := by simp; omega
        rw [e]; simp; omega
      · left
        have e : decide (backS x < 4294967296) = false := by simp; omega
        rw [e]; simp; omega
  generalize whenS x = ws at *
  generalize whenP b x = wp at *
  generalize whenOk x = wo at *
  generalize partsI (backF x) (den b) = pp at *
  generalize withinB 0 (den b) = po at *
  generalize den b = dn at *
  generalize backS x = bs at *
  generalize backF x = bf at *
  generalize backOk x = bo at *
  obtain ⟨o0, ho0⟩ : ∃ o, o = Obj.cells #[.bool a, .bool b, .int .u16 k, .int .u32 s] 26 (0, 0) := ⟨_, rfl⟩
  have F0 := Lib.hid (keepRow (row_new w o0 rfl) (below_alloc _ (wideO x)))
  have H0 := Lib.hid (show WideAt ((w.alloc o0).alloc (wideO x)) (w.heap.size + 1) x from row_new (w.alloc o0) (wideO x) (by simp))
  have B0 := Lib.hid ((below_alloc w o0).trans ((below_alloc _ (wideO x)).mono (by simp)))
  clear hg hx
  unfold wideV at TB ⊢
  rcases V with ⟨rfl, rfl, rfl, rfl⟩ | ⟨rfl, V, rfl, rfl, rfl⟩ | ⟨rfl, V, rfl, rfl, rfl⟩
  case' inl => have g : True := trivial
  case' inr.inl => have g : decide (4294967295 < bs) = true := by simp; omega
  case' inr.inr =>
    have g : decide (4294967295 < ws) = false := by simp; omega
    have e1 : IntKind.u32.wrap ws = ws := by rw [IntKind.wrap_u32]; omega
    have e2 : IntKind.u32.wrap wp = wp := by rw [IntKind.wrap_u32]; omega
  all_goals
    go_enter Tryd.func18, Tryd.ntmps18
    go_upto_region 1 with fail
    rw [show Obj.cells #[.int .i64 (hiOf x), .int .u64 (loOf x)] 52 (0, 0) = wideO x from rfl, ← ho0]
    generalize (w.alloc o0).alloc (wideO x) = u0 at *
    rw [ho0] at F0
    clear ho0
    obtain ⟨e0, e1', _⟩ := H0.out.at
    go_upto_region 2 with (go_at_call 32; refine (TB.out _ (G.out.below B0.out)).mono ?_; rintro e u1 ⟨rfl, hb⟩; have F1 := Lib.hid (keepRow F0.out hb); have B1 := Lib.hid (B0.out.trans (hb.mono B0.out.size)); clear hb F0 B0 H0 e0 e1' TB)
    obtain ⟨⟨c0, c1, c2, c3⟩, _⟩ := row4 F1.out
  · go_upto_region 5 with (first | (go_at_call 12; refine (TD.out _).mono ?_; rintro e u2 ⟨rfl, hb⟩; have B2 := Lib.hid (B1.out.trans (hb.mono B1.out.size)); clear hb c0 c1 c2 c3 F1 B1) | (go_at_call 33; refine (TP.out _ (G.out.below B2.out)).mono ?_; rintro e u3 ⟨rfl, hb⟩; have B3 := Lib.hid (B2.out.trans (hb.mono B2.out.size)); clear hb B2))
    go_wp2
    exact bodyPost_ret (by simp [results, Tryd.results18, go_sem]) rfl ⟨rfl, B3.out⟩
  · go_wp2
    exact bodyPost_ret (by simp [results, Tryd.results18, go_sem]) rfl ⟨rfl, B1.out⟩
  · go_wp2
    exact bodyPost_ret (by simp [results, Tryd.results18, go_sem]) rfl ⟨rfl, B1.out⟩
end Go.Proofs.YthmkfkmcamjnoaaDoor
