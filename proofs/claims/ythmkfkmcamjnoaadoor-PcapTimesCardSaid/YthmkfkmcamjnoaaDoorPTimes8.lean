/-
  The document's answers of layer 8: Den, At, When (horologeref08).
  PROVED HERE (the walk): the statement PcapTimes: the moment of any record, and the seconds and parts of any moment, are the document's.
-/
import Derived.Test.YthmkfkmcamjnoaaDoorPAt8
import Derived.Test.YthmkfkmcamjnoaaDoorRef2d
import Derived.Test.YthmkfkmcamjnoaaDoorRef3b
import Derived.Test.YthmkfkmcamjnoaaDoorPKnown8
namespace Go.Proofs.YthmkfkmcamjnoaaDoor
open Go.RowKit Go.Sort
set_option maxRecDepth 8000
set_option maxHeartbeats 1000000 in
theorem r_den (b : Bool) (w : World) : Calls Tryd.prog 13 #[.bool b] w fun e w' => e = .returned (.int .u64 (den b)) ∧ w = w' := by
  cases b
  all_goals
    go_enter Tryd.func13, Tryd.ntmps13
    go_wp2
    go_ret
    exact ⟨rfl, rfl⟩
set_option maxHeartbeats 4000000 in
theorem r_at (b : Bool) (y0 y1 : Nat) (h0 : y0 < 4294967296) (h1 : y1 < 4294967296) (w : World) (hg : Glob w) :
    Calls Tryd.prog 21 #[.bool b, .int .u32 y0, .int .u32 y1] w fun e w' => e = .returned (wideV (atS b y0 y1)) ∧ Below w.heap.size w w' := by
  have G := Lib.hid hg
  have TD := Lib.hid (fun w => r_den b w)
  have TF := Lib.hid (r2_frac y1 (den b) (by omega) (den_bd b))
  have fb := at_frac b y1 (by omega)
  have w1 : IntKind.u64.wrap (y1 : Int) = (y1 : Int) := wrap_small y1 (by omega)
  have w0 : IntKind.u64.wrap (y0 : Int) = (y0 : Int) := wrap_small y0 (by omega)
  unfold atS
  clear hg
  obtain ⟨z, hz⟩ : ∃ z, z = if (y1 : Int) < den b then fracI y1 (den b) else 4294967295 := ⟨_, rfl⟩
  obtain ⟨i, hi⟩ : ∃ i, i = fracI y1 (den b) := ⟨_, rfl⟩
  obtain ⟨ok, hok⟩ : ∃ ok, ok = withinB y1 (den b) := ⟨_, rfl⟩
  have Z : (ok = true ∧ z = i) ∨ (ok = false ∧ z = 4294967295) := by
    by_cases h : (y1 : Int) < den b
    · left; rw [hok, hz, hi, if_pos h]; exact ⟨den_within b y1 h, rfl⟩
    · right; rw [hok, hz, if_neg h]; exact ⟨within_no b y1 h, rfl⟩
  rw [← hz] at fb ⊢
  rw [← hi, ← hok] at TF
  clear hz hi hok
  have TU := Lib.hid (r3_unix y0 z (by omega) fb)
  generalize den b = dn at *
  have R0 := Lib.hid (row_new w (wideO 0) rfl)
  have B0 := Lib.hid (below_alloc w (wideO 0))
  unfold wideV at TU ⊢
  rcases Z with ⟨rfl, rfl⟩ | ⟨rfl, rfl⟩
  all_goals
    go_enter Tryd.func21, Tryd.ntmps21
    go_upto_region 1 with fail
    rw [show Obj.cells #[.int .i64 0, .int .u64 0] 52 (0, 0) = wideO 0 from rfl]
    generalize w.alloc (wideO 0) = u0 at *
    go_upto_region 4 with (first | (go_at_call 13; refine (TD.out _).mono ?_; rintro e u1 ⟨rfl, rfl⟩) | (go_at_call 37; refine (TF.out _ (G.out.below B0.out)).mono ?_; rintro e u2 ⟨rfl, hb⟩; have R2 := Lib.hid (keepRow R0.out hb); have B2 := Lib.hid (B0.out.trans (hb.mono B0.out.size)); clear hb R0 B0))
    go_wp2_with (go_at_call 38; refine (TU.out _ (G.out.below B2.out)).mono ?_; rintro e u3 ⟨rfl, hb⟩; have R3 := Lib.hid (keepRow R2.out hb); have B3 := Lib.hid (B2.out.trans (hb.mono B2.out.size)); clear hb R2 B2; have c0 := cell_of_row _ w.heap.size 0 _ _ _ R3.out; have c1 := cell_of_row _ w.heap.size 1 _ _ _ R3.out; have f0 := frozen_of_row _ w.heap.size 0 _ _ R3.out; have f1 := frozen_of_row _ w.heap.size 1 _ _ R3.out)
    refine bodyPost_ret (by simp [results, Tryd.results21, go_sem, c0, c1]) rfl ⟨rfl, ?_⟩
    exact below_two B3.out (Nat.le_refl _) _ _
set_option maxHeartbeats 4000000 in
theorem r_when (b : Bool) (x : Int) (hx : In x) (w : World) (hg : Glob w) :
    Calls Tryd.prog 19 #[.bool b, wideV x] w fun e w' => e = .returned (.tuple #[.int .u32 (whenS x), .int .u32 (whenP b x), .bool (whenOk x)]) ∧ Below w.heap.size w w' := by
  have G := Lib.hid hg
  have TD := Lib.hid (fun w => r_den b w)
  have TB := Lib.hid (r3_back x hx)
  have bd : 0 ≤ backS x ∧ backS x ≤ 18446744073709551615 ∧ 0 ≤ backF x ∧ backF x ≤ 4294967295 := by
    unfold backS backF
    split
    · unfold loOf; omega
    · omega
  have TP := Lib.hid (r2_parts (backF x) (den b) ⟨bd.2.2.1, bd.2.2.2⟩ (den_bd b))
  have PB : 0 ≤ partsI (backF x) (den b) ∧ partsI (backF x) (den b) < den b := parts_lt ⟨bd.2.2.1, bd.2.2.2⟩ (by cases b <;> decide)
  have db : (den b : Int) ≤ 1000000000 := by cases b <;> simp [den]
  have V : (backOk x = false ∧ whenS x = 0 ∧ whenP b x = 0 ∧ whenOk x = false) ∨ (backOk x = true ∧ ¬ backS x ≤ 4294967295 ∧ whenS x = 0 ∧ whenP b x = 0 ∧ whenOk x = false) ∨ (backOk x = true ∧ backS x ≤ 4294967295 ∧ whenS x = backS x ∧ whenP b x = partsI (backF x) (den b) ∧ whenOk x = true) := by
    unfold whenS whenP whenOk
    cases h : backOk x with
    | false => left; simp
    | true =>
      right
      by_cases g : backS x ≤ 4294967295
      · right
        have e : decide (backS x < 4294967296) = true := by simp; omega
        rw [e]; simp; omega
      · left
        have e : decide (backS x < 4294967296) = false := by simp; omega
        rw [e]; simp; omega
  generalize whenS x = ws at *
  generalize whenP b x = wp at *
  generalize whenOk x = wo at *
  generalize partsI (backF x) (den b) = pp at *
  generalize withinB 0 (den b) = po at *
  generalize den b = dn at *
  generalize backS x = bs at *
  generalize backF x = bf at *
  generalize backOk x = bo at *
  have H0 := Lib.hid (show WideAt (w.alloc (wideO x)) w.heap.size x from row_new w (wideO x) rfl)
  have B0 := Lib.hid (below_alloc w (wideO x))
  clear hg hx
  unfold wideV at TB ⊢
  rcases V with ⟨rfl, rfl, rfl, rfl⟩ | ⟨rfl, V, rfl, rfl, rfl⟩ | ⟨rfl, V, rfl, rfl, rfl⟩
  case' inl => have g : True := trivial
  case' inr.inl => have g : decide (4294967296 ≤ bs) = true := by simp; omega
  case' inr.inr =>
    have g : decide (4294967296 ≤ ws) = false := by simp; omega
    have e1 : IntKind.u32.wrap ws = ws := by rw [IntKind.wrap_u32]; omega
    have e2 : IntKind.u32.wrap wp = wp := by rw [IntKind.wrap_u32]; omega
  all_goals
    go_enter Tryd.func19, Tryd.ntmps19
    go_upto_region 1 with fail
    rw [show Obj.cells #[.int .i64 (hiOf x), .int .u64 (loOf x)] 52 (0, 0) = wideO x from rfl]
    generalize w.alloc (wideO x) = u0 at *
    obtain ⟨e0, e1', _⟩ := H0.out.at
    go_upto_region 2 with (go_at_call 34; refine (TB.out _ (G.out.below B0.out)).mono ?_; rintro e u1 ⟨rfl, hb⟩; have B1 := Lib.hid (B0.out.trans (hb.mono B0.out.size)); clear hb B0 H0 e0 e1' TB)
  · go_upto_region 5 with (first | (go_at_call 13; refine (TD.out _).mono ?_; rintro e u2 ⟨rfl, rfl⟩) | (go_at_call 35; refine (TP.out _ (G.out.below B1.out)).mono ?_; rintro e u3 ⟨rfl, hb⟩; have B3 := Lib.hid (B1.out.trans (hb.mono B1.out.size)); clear hb B1))
    go_wp2
    exact bodyPost_ret (by simp [results, Tryd.results19, go_sem]) rfl ⟨rfl, B3.out⟩
  · go_wp2
    exact bodyPost_ret (by simp [results, Tryd.results19, go_sem]) rfl ⟨rfl, B1.out⟩
  · go_wp2
    exact bodyPost_ret (by simp [results, Tryd.results19, go_sem]) rfl ⟨rfl, B1.out⟩
end Go.Proofs.YthmkfkmcamjnoaaDoor
namespace Go.Proofs.YthmkfkmcamjnoaaDoor
open Go.RowKit Go.Sort
set_option maxRecDepth 100000
set_option maxHeartbeats 4000000 in
theorem pcapTimes_any (a b : Bool) (k s : Nat) (y0 y1 y2 y3 : Nat) (h0 : y0 < 4294967296) (h1 : y1 < 4294967296) (x : Int) (hx : In x) (w : World) (hE : EnvP w) :
    Calls Tryd.prog 5 #[(.agg #[.bool a, .bool b, .int .u16 k, .int .u32 s]), (.agg #[.int .u32 y0, .int .u32 y1, .int .u32 y2, .int .u32 y3]), (.agg #[.int .i64 (hiOf x), .int .u64 (loOf x)])] w fun e w' => e = .returned (.bool true) ∧ Below w.heap.size w w' := by
  have TW := Lib.hid (fun w hg => t_when a b k s x hx w hg)
  have RW := Lib.hid (fun w hg => r_when b x hx w hg)
  have TA := Lib.hid (fun w hg => t_at a b k s y0 y1 y2 y3 h0 h1 w hg)
  have RA := Lib.hid (fun w hg => r_at b y0 y1 h0 h1 w hg)
  unfold wideV at TW RW TA RA
  generalize whenS x = ws at *
  generalize whenP b x = wp at *
  generalize whenOk x = wo at *
  generalize atS b y0 y1 = z at *
  obtain ⟨o0, ho0⟩ : ∃ o, o = Obj.cells #[.bool a, .bool b, .int .u16 k, .int .u32 s] 26 (0, 0) := ⟨_, rfl⟩
  obtain ⟨o1, ho1⟩ : ∃ o, o = Obj.cells #[.int .u32 y0, .int .u32 y1, .int .u32 y2, .int .u32 y3] 43 (0, 0) := ⟨_, rfl⟩
  have F0 := Lib.hid (keepRow (keepRow (row_new w o0 rfl) (below_alloc _ o1)) (below_alloc _ (wideO x)))
  have H0 := Lib.hid (keepRow (row_new (w.alloc o0) o1 (b := w.heap.size + 1) (by simp)) (below_alloc _ (wideO x)))
  have R0 := Lib.hid (show WideAt (((w.alloc o0).alloc o1).alloc (wideO x)) (w.heap.size + 1 + 1) x from row_new ((w.alloc o0).alloc o1) (wideO x) (by simp))
  have S0 := Lib.hid (((show KeepP w w from ⟨hE, Below.refl _ _⟩).alloc o0).alloc o1 |>.alloc (wideO x))
  clear hE h0 h1 hx
  go_enter Tryd.func5, Tryd.ntmps5
  go_upto_region 1 with fail
  rw [← ho0, ← ho1, show Obj.cells #[.int .i64 (hiOf x), .int .u64 (loOf x)] 52 (0, 0) = wideO x from rfl]
  generalize ((w.alloc o0).alloc o1).alloc (wideO x) = u0 at *
  rw [ho0] at F0
  rw [ho1] at H0
  clear ho0 ho1
  generalize w.heap.size + 1 + 1 = p2 at *
  generalize w.heap.size + 1 = p1 at *
  go_upto_region 3 with (go_at_call 7; refine (t_known _ S0.out.1).mono ?_; rintro e u1 ⟨rfl, hb⟩; have S1 := Lib.hid (S0.out.on hb); have F1 := Lib.hid (keepRow F0.out hb); have H1 := Lib.hid (keepRow H0.out hb); have R1 := Lib.hid (R0.out.on hb); clear hb S0 F0 H0 R0)
  obtain ⟨⟨c0, c1, c2, c3⟩, _⟩ := row4 F1.out
  obtain ⟨r0, r1, _⟩ := R1.out.at
  go_upto_region 4 with (go_at_call 18; refine (TW.out _ S1.out.1.1).mono ?_; rintro e u2 ⟨rfl, hb⟩; have S2 := Lib.hid (S1.out.on hb); have F2 := Lib.hid (keepRow F1.out hb); have H2 := Lib.hid (keepRow H1.out hb); have R2 := Lib.hid (R1.out.on hb); clear hb S1 F1 H1 R1 c0 c1 c2 c3 r0 r1)
  obtain ⟨⟨c0, c1, c2, c3⟩, _⟩ := row4 F2.out
  obtain ⟨r0, r1, _⟩ := R2.out.at
  go_upto_region 5 with (go_at_call 19; refine (RW.out _ S2.out.1.1).mono ?_; rintro e u3 ⟨rfl, hb⟩; have S3 := Lib.hid (S2.out.on hb); have F3 := Lib.hid (keepRow F2.out hb); have H3 := Lib.hid (keepRow H2.out hb); clear hb S2 F2 H2 R2 c0 c1 c2 c3 r0 r1)
  obtain ⟨⟨c0, c1, c2, c3⟩, _⟩ := row4 F3.out
  obtain ⟨⟨d0, d1, d2, d3⟩, _⟩ := row4 H3.out
  have e1 : (ws == ws) = true := by simp
  have e2 : (wp == wp) = true := by simp
  have e3 : (wo == wo) = true := by simp
  go_region_held3 (fun W' => (W'.cell? ⟨w.heap.size, 0, none⟩ = some (.bool a) ∧ W'.cell? ⟨w.heap.size, 1, none⟩ = some (.bool b) ∧ W'.cell? ⟨w.heap.size, 2, none⟩ = some (.int .u16 k) ∧ W'.cell? ⟨w.heap.size, 3, none⟩ = some (.int .u32 s)) ∧ W'.cell? ⟨p1, 0, none⟩ = some (.int .u32 y0) ∧ W'.cell? ⟨p1, 1, none⟩ = some (.int .u32 y1) ∧ W'.cell? ⟨p1, 2, none⟩ = some (.int .u32 y2) ∧ W'.cell? ⟨p1, 3, none⟩ = some (.int .u32 y3))
    (first
      | exact ⟨⟨c0, c1, c2, c3⟩, d0, d1, d2, d3⟩
      | exact ⟨⟨x0, x1, x2, x3⟩, q0, q1, q2, q3⟩
      | exact ⟨⟨z0, z1, z2, z3⟩, v0, v1, v2, v3⟩
      | go_keep)
    (first
      | (go_at_call 21; refine (RA.out _ S4.out.1.1).mono ?_; rintro e u5 ⟨rfl, hb⟩; have S5 := Lib.hid (S4.out.on hb); have F5 := Lib.hid (keepRow F4.out hb); have H5 := Lib.hid (keepRow H4.out hb); obtain ⟨⟨z0, z1, z2, z3⟩, _⟩ := row4 F5.out; obtain ⟨⟨v0, v1, v2, v3⟩, _⟩ := row4 H5.out)
      | (go_at_call 20; refine (TA.out _ (S3.out.1.1.below (Below.refl _ _).drew)).mono ?_; rintro e u4 ⟨rfl, hb0⟩; have hb := Below.trans (Below.refl u3.heap.size _).drew (hb0.mono (by simp)); have S4 := Lib.hid (S3.out.on hb); have F4 := Lib.hid (keepRow F3.out hb); have H4 := Lib.hid (keepRow H3.out hb); obtain ⟨⟨x0, x1, x2, x3⟩, _⟩ := row4 F4.out; obtain ⟨⟨q0, q1, q2, q3⟩, _⟩ := row4 H4.out))
  go_wp2
  go_ret
  exact ⟨rfl, S5.out.2⟩
end Go.Proofs.YthmkfkmcamjnoaaDoor
