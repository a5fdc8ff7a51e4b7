/-
  EraBack: walked.
-/
import Derived.Test.YtcpnlifcjdahgaaDoorKnown3
import Derived.Test.YtcpnlifcjdahgaaDoorNear
namespace Go.Proofs.YtcpnlifcjdahgaaDoor
open Go.RowKit Go.Sort
theorem row_on {w w' : World} {b : Nat} {o : Obj} (h : w.heap[b]? = some o) (hb : Below w.heap.size w w') : w'.heap[b]? = some o := by
  have lt : b < w.heap.size := by
    rcases Nat.lt_or_ge b w.heap.size with g | g
    · exact g
    · rw [Array.getElem?_eq_none g] at h; cases h
  exact (hb.block b lt).trans h
/-- The row over which the statement ranges. -/
def Row2 (w : World) (p : Nat) (x y : Int) : Prop := w.heap[p]? = some (.cells #[.int .i64 (hiOf x), .int .u64 (loOf x), .int .i64 (hiOf y), .int .u64 (loOf y)] 25 (0, 0))
theorem Row2.on {w w' : World} {p : Nat} {x y : Int} (h : Row2 w p x y) (hb : Below w.heap.size w w') : Row2 w' p x y := row_on h hb
def sel2 (x y : Int) (k : Nat) : Int := match k with | 0 => x | _ => y
theorem row_sel2 {w : World} {p : Nat} {x y : Int} (h : Row2 w p x y) {k : Nat} (hk : k < 2) :
    ∃ z, z = sel2 x y k ∧ w.cell? ⟨p, 2 * k, none⟩ = some (.int .i64 (hiOf z)) ∧ w.cell? ⟨p, 2 * k + 1, none⟩ = some (.int .u64 (loOf z)) := by
  refine ⟨_, rfl, ?_, ?_⟩
  all_goals
    rw [cell_of_row w p _ _ _ _ h]
    obtain rfl | rfl : k = 0 ∨ k = 1 := by omega
    all_goals rfl
set_option maxHeartbeats 4000000 in
theorem eraBack_any (s n x : Int) (hs : 0 ≤ s ∧ s ≤ 18446744073709551615) (hn : In n) (hx : In x) (w : World) (hg : Glob w) :
    Calls Tryd.prog 4 #[.int .u64 s, wideV n, wideV x] w fun e w' => e = .returned (.bool true) ∧ Below w.heap.size w w' := by
  have K := Lib.hid g_known3
  have U := Lib.hid (e_unfold s n hs hn)
  obtain ⟨hu, us⟩ := unfold_words hs hn
  have uc := Lib.hid (fun h => dist_le (unfold_close hs hn h))
  generalize unfoldI s n = u at *
  have F := Lib.hid ((e_fold u).as rfl (v' := .int .u64 s) (by rw [us]))
  have S1 := Lib.hid (g_sub u n hu hn)
  have A1 := Lib.hid ((g_abs (sat (u - n)) (sat_in _)).as rfl (v' := wideV (distI u n)) rfl)
  have C1 := Lib.hid ((g_cmp (distI u n) 9223372036854775808).as (args' := #[wideV (distI u n), .agg #[.int .i64 0, .int .u64 9223372036854775808]]) rfl rfl)
  have N2 := Lib.hid (hi_bd hn)
  have E := Lib.hid (fun y (hy : In y) (h : distI x y < 9223372036854775808) => unfold_eq hx hy (dist_lt h))
  have HN := Lib.hid hn
  have HX := Lib.hid hx
  have HU := Lib.hid hu
  have G := Lib.hid hg
  clear hs hn hx hu us hg
  have W : Hid (WideAt ((w.alloc (wideO n)).alloc (wideO x)) w.heap.size n ∧ WideAt ((w.alloc (wideO n)).alloc (wideO x)) (w.heap.size + 1) x ∧ Below w.heap.size w ((w.alloc (wideO n)).alloc (wideO x))) := Lib.hid (by
    unfold WideAt
    refine ⟨?_, ?_, by unfold wideO; (repeat (first | (with_reducible exact Below.refl _ _) | (with_reducible assumption) | (with_reducible refine Below.drew ?_) | (with_reducible refine below_drewN ?_ _) | ((with_reducible refine Below.alloc ?_ ?_ _); rotate_left; (focus (first | (simp; done) | (simp; omega) | omega))) | ((with_reducible refine Below.setCell ?_ ?_ _); rotate_left; (focus (first | (simp; done) | (simp; omega) | omega))) | ((with_reducible refine Below.trans ?_ (Below.mono (by assumption) ?_)); rotate_left; (focus (first | (simp; done) | (simp; omega) | omega)))))⟩
    · rw [heap_alloc_old _ _ (by first | (simp; done) | (simp; omega) | omega)]; exact row_new _ _ rfl
    · exact row_new _ _ (by first | (simp; done) | (simp; omega) | omega))
  unfold wideO at W
  unfold wideV at *
  go_enter Tryd.func4, Tryd.ntmps4
  go_upto_region 1 with fail
  generalize (w.alloc (.cells #[.int .i64 (hiOf n), .int .u64 (loOf n)] 25)).alloc (.cells #[.int .i64 (hiOf x), .int .u64 (loOf x)] 25) = w0 at *
  go_wp2_with fail
  refine (K.out _ (G.out.below W.out.2.2)).mono ?_
  rintro e w1 ⟨rfl, hb⟩
  have W1 := Lib.hid (show WideAt w1 w.heap.size n ∧ WideAt w1 (w.heap.size + 1) x ∧ Below w.heap.size w w1 from ⟨W.out.1.on hb, W.out.2.1.on hb, W.out.2.2.trans (hb.mono W.out.2.2.size)⟩)
  clear hb W
  obtain ⟨a0, a1, _⟩ := W1.out.1.at
  go_wp2_with fail
  refine (U.out _ (G.out.below W1.out.2.2)).mono ?_
  rintro e w2 ⟨rfl, hb⟩
  have W2 := Lib.hid (show WideAt (w2.alloc (wideO u)) w.heap.size n ∧ WideAt (w2.alloc (wideO u)) (w.heap.size + 1) x ∧ WideAt (w2.alloc (wideO u)) w2.heap.size u ∧ w.heap.size + 2 ≤ w2.heap.size ∧ Below w.heap.size w (w2.alloc (wideO u)) from
    ⟨(W1.out.1.on hb).alloc _, (W1.out.2.1.on hb).alloc _, row_new _ _ rfl, (W1.out.2.1.on hb).at.2.2, (W1.out.2.2.trans (hb.mono W1.out.2.2.size)).trans ((below_alloc _ _).mono ((W1.out.2.2.trans (hb.mono W1.out.2.2.size)).size))⟩)
  unfold wideO at W2
  clear hb W1 a0 a1
  go_upto_region 4 with fail
  generalize w2.alloc (.cells #[.int .i64 (hiOf u), .int .u64 (loOf u)] 25) = w3 at *
  generalize w2.heap.size = p at *
  obtain ⟨b0, b1, _⟩ := W2.out.2.2.1.at
  go_wp2_with fail
  refine (F.out _ (G.out.below W2.out.2.2.2.2)).mono ?_
  rintro e w4 ⟨rfl, hb⟩
  have W4 := Lib.hid (show WideAt w4 w.heap.size n ∧ WideAt w4 (w.heap.size + 1) x ∧ WideAt w4 p u ∧ w.heap.size + 2 ≤ p ∧ Below w.heap.size w w4 from
    ⟨W2.out.1.on hb, W2.out.2.1.on hb, W2.out.2.2.1.on hb, W2.out.2.2.2.1, W2.out.2.2.2.2.trans (hb.mono W2.out.2.2.2.2.size)⟩)
  clear hb W2 b0 b1
  obtain ⟨a0, a1, _⟩ := W4.out.1.at
  go_upto_region 6 with fail
  go_cut [28] from 21 to 28 (fun v wr => v = .bool (decide (-9223372036854775808 < hiOf n ∧ hiOf n < 9223372036854775807)) ∧ wr = w4)
  case first =>
    by_cases c1 : -9223372036854775808 < hiOf n
    · by_cases c2 : hiOf n < 9223372036854775807
      · have j1 : decide (-9223372036854775808 < hiOf n ∧ hiOf n < 9223372036854775807) = true := by simp; omega
        have j1 := Lib.hid j1
        go_wp2
        go_meet
        exact ⟨by rw [j1.out], rfl⟩
      · have j1 : decide (-9223372036854775808 < hiOf n ∧ hiOf n < 9223372036854775807) = false := by simp; omega
        have j1 := Lib.hid j1
        go_wp2
        go_meet
        exact ⟨by rw [j1.out], rfl⟩
    · have j1 : decide (-9223372036854775808 < hiOf n ∧ hiOf n < 9223372036854775807) = false := by simp; omega
      have j1 := Lib.hid j1
      go_wp2
      go_meet
      exact ⟨by rw [j1.out], rfl⟩
  case rest =>
  obtain ⟨rfl, rfl⟩ := hcut
  go_upto_if 28 with fail
  clear a0 a1
  go_cut [8] from 28 to 36 (fun _ wr => Hid (WideAt wr w.heap.size n ∧ WideAt wr (w.heap.size + 1) x ∧ WideAt wr p u ∧ w.heap.size + 2 ≤ p ∧ Below w.heap.size w wr))
  case first =>
    by_cases c : -9223372036854775808 < hiOf n ∧ hiOf n < 9223372036854775807
    · have j1 : decide (-9223372036854775808 < hiOf n ∧ hiOf n < 9223372036854775807) = true := by simpa using c
      have c2 := uc.out c
      have j2 : ¬ 0 < sgn (distI u n) 9223372036854775808 := by unfold sgn; split <;> (try split) <;> omega
      rw [j1]
      clear j1 c c2
      obtain ⟨a0, a1, _⟩ := W4.out.1.at
      obtain ⟨b0, b1, _⟩ := W4.out.2.2.1.at
      go_wp2_with fail
      refine (S1.out _ (G.out.below W4.out.2.2.2.2)).mono ?_
      rintro e w5 ⟨rfl, hb⟩
      have W5 := Lib.hid (show WideAt w5 w.heap.size n ∧ WideAt w5 (w.heap.size + 1) x ∧ WideAt w5 p u ∧ w.heap.size + 2 ≤ p ∧ Below w.heap.size w w5 from
        ⟨W4.out.1.on hb, W4.out.2.1.on hb, W4.out.2.2.1.on hb, W4.out.2.2.2.1, W4.out.2.2.2.2.trans (hb.mono W4.out.2.2.2.2.size)⟩)
      clear hb W4 a0 a1 b0 b1
      go_wp2_with fail
      refine (A1.out _ (G.out.below W5.out.2.2.2.2)).mono ?_
      rintro e w6 ⟨rfl, hb⟩
      have W6 := Lib.hid (show WideAt (w6.alloc (wideO (distI u n))) w.heap.size n ∧ WideAt (w6.alloc (wideO (distI u n))) (w.heap.size + 1) x ∧ WideAt (w6.alloc (wideO (distI u n))) p u ∧ w.heap.size + 2 ≤ p ∧ Below w.heap.size w (w6.alloc (wideO (distI u n))) ∧ WideAt (w6.alloc (wideO (distI u n))) w6.heap.size (distI u n) from
        ⟨(W5.out.1.on hb).alloc _, (W5.out.2.1.on hb).alloc _, (W5.out.2.2.1.on hb).alloc _, W5.out.2.2.2.1, (W5.out.2.2.2.2.trans (hb.mono W5.out.2.2.2.2.size)).trans ((below_alloc _ _).mono (W5.out.2.2.2.2.trans (hb.mono W5.out.2.2.2.2.size)).size), row_new _ _ rfl⟩)
      unfold wideO at W6
      clear hb W5
      go_upto_region 8 with fail
      generalize w6.alloc (.cells #[.int .i64 (hiOf (distI u n)), .int .u64 (loOf (distI u n))] 25) = w7 at *
      obtain ⟨a0, a1, _⟩ := W6.out.2.2.2.2.2.at
      go_wp2_with fail
      refine (C1.out _ (G.out.below W6.out.2.2.2.2.1)).mono ?_
      rintro e w8 ⟨rfl, hb⟩
      have W8 := Lib.hid (show WideAt w8 w.heap.size n ∧ WideAt w8 (w.heap.size + 1) x ∧ WideAt w8 p u ∧ w.heap.size + 2 ≤ p ∧ Below w.heap.size w w8 from
        ⟨W6.out.1.on hb, W6.out.2.1.on hb, W6.out.2.2.1.on hb, W6.out.2.2.2.1, W6.out.2.2.2.2.1.trans (hb.mono W6.out.2.2.2.2.1.size)⟩)
      clear hb W6 a0 a1
      go_wp2
      go_meet
      exact W8
    · have j1 : decide (-9223372036854775808 < hiOf n ∧ hiOf n < 9223372036854775807) = false := by simp; omega
      rw [j1]
      clear j1 c
      go_wp2
      go_meet
      exact W4
  case rest =>
  have W5 := hcut
  clear hcut W4 S1 A1 C1 uc N2 F U K
  obtain ⟨a0, a1, _⟩ := W5.out.1.at
  obtain ⟨b0, b1, _⟩ := W5.out.2.2.1.at
  have E := Lib.hid (fun k (_ : k < 2) (h : distI x (sel2 n u k) < 9223372036854775808) => E.out (sel2 n u k) (by unfold sel2; split; exact HN.out; exact HU.out) h)
  have I2 := Lib.hid (fun k => (show In (sel2 n u k) by unfold sel2; split; exact HN.out; exact HU.out))
  go_wp2_with fail
  have R := Lib.hid (show Row2 _ wc.heap.size n u from row_new wc _ rfl)
  have W6 := Lib.hid (show WideAt (wc.alloc (.cells #[.int .i64 (hiOf n), .int .u64 (loOf n), .int .i64 (hiOf u), .int .u64 (loOf u)] 25)) (w.heap.size + 1) x ∧ Below w.heap.size w (wc.alloc (.cells #[.int .i64 (hiOf n), .int .u64 (loOf n), .int .i64 (hiOf u), .int .u64 (loOf u)] 25)) from
    ⟨W5.out.2.1.alloc _, W5.out.2.2.2.2.trans ((below_alloc _ _).mono W5.out.2.2.2.2.size)⟩)
  clear W5 a0 a1 b0 b1
  generalize wc.alloc (.cells #[.int .i64 (hiOf n), .int .u64 (loOf n), .int .i64 (hiOf u), .int .u64 (loOf u)] 25) = w6 at *
  generalize wc.heap.size = g at *
  go_loopw [41] (fun i wr => ∃ k : Nat, k ≤ 2 ∧ i = .int .i64 k ∧ Hid (Row2 wr g n u) ∧ Hid (WideAt wr (w.heap.size + 1) x ∧ Below w.heap.size w wr)) (fun i _ => 2 - (intOf i).toNat)
  case atStart => exact ⟨0, by omega, rfl, R, W6⟩
  case round =>
    clear R W6
    obtain ⟨k, hk, rfl, R, W6⟩ := hrel
    by_cases hlt : k < 2
    · obtain ⟨y, hy, c0, c1⟩ := row_sel2 R.out hlt
      have hy2 := I2.out k
      have E2 := Lib.hid (E.out k hlt)
      rw [← hy] at hy2 E2
      have HY := Lib.hid hy2
      have S := Lib.hid (g_sub x y HX.out hy2)
      have A := Lib.hid ((g_abs (sat (x - y)) (sat_in _)).as rfl (v' := wideV (distI x y)) rfl)
      have C := Lib.hid ((g_cmp (distI x y) 9223372036854775808).as (args' := #[wideV (distI x y), .agg #[.int .i64 0, .int .u64 9223372036854775808]]) rfl rfl)
      unfold wideV at A C
      clear hy E I2 hy2
      have W7 := Lib.hid (show WideAt (wr.alloc (wideO y)) (w.heap.size + 1) x ∧ WideAt (wr.alloc (wideO y)) wr.heap.size y ∧ Row2 (wr.alloc (wideO y)) g n u ∧ Below w.heap.size w (wr.alloc (wideO y)) from
        ⟨W6.out.1.alloc _, row_new _ _ rfl, R.out.on (below_alloc _ _), W6.out.2.trans ((below_alloc _ _).mono W6.out.2.size)⟩)
      unfold wideO at W7
      clear W6 R
      obtain rfl | rfl : k = 0 ∨ k = 1 := by omega
      all_goals
        go_upto_region 13 with fail
        clear c0 c1
        generalize wr.alloc (.cells #[.int .i64 (hiOf y), .int .u64 (loOf y)] 25) = w7 at *
        generalize wr.heap.size = q at *
        obtain ⟨a0, a1, _⟩ := W7.out.1.at
        obtain ⟨b0, b1, _⟩ := W7.out.2.1.at
        go_wp2_with fail
        refine (S.out _ (G.out.below W7.out.2.2.2)).mono ?_
        rintro e w8 ⟨rfl, hb⟩
        have W8 := Lib.hid (show WideAt w8 (w.heap.size + 1) x ∧ WideAt w8 q y ∧ Row2 w8 g n u ∧ Below w.heap.size w w8 from
          ⟨W7.out.1.on hb, W7.out.2.1.on hb, W7.out.2.2.1.on hb, W7.out.2.2.2.trans (hb.mono W7.out.2.2.2.size)⟩)
        clear hb W7 a0 a1 b0 b1
        go_wp2_with fail
        refine (A.out _ (G.out.below W8.out.2.2.2)).mono ?_
        rintro e w9 ⟨rfl, hb⟩
        have W9 := Lib.hid (show WideAt (w9.alloc (wideO (distI x y))) (w.heap.size + 1) x ∧ WideAt (w9.alloc (wideO (distI x y))) q y ∧ Row2 (w9.alloc (wideO (distI x y))) g n u ∧ Below w.heap.size w (w9.alloc (wideO (distI x y))) ∧ WideAt (w9.alloc (wideO (distI x y))) w9.heap.size (distI x y) from
          ⟨(W8.out.1.on hb).alloc _, (W8.out.2.1.on hb).alloc _, (W8.out.2.2.1.on hb).on (below_alloc _ _), (W8.out.2.2.2.trans (hb.mono W8.out.2.2.2.size)).trans ((below_alloc _ _).mono (W8.out.2.2.2.trans (hb.mono W8.out.2.2.2.size)).size), row_new _ _ rfl⟩)
        unfold wideO at W9
        clear hb W8
        go_upto_region 14 with fail
        generalize w9.alloc (.cells #[.int .i64 (hiOf (distI x y)), .int .u64 (loOf (distI x y))] 25) = wa at *
        generalize w9.heap.size = r at *
        obtain ⟨a0, a1⟩ := W9.out.1.at.q
        obtain ⟨b0, b1⟩ := W9.out.2.1.at.q
        obtain ⟨d0, d1⟩ := W9.out.2.2.2.2.at.q
        have G1 := Lib.hid (G.out.below W9.out.2.2.2.1)
        by_cases hd : distI x y < 9223372036854775808
        · have j1 : decide (sgn (distI x y) 9223372036854775808 < 0) = true := by simp; unfold sgn; split <;> (try split) <;> omega
          have F := Lib.hid (e_fold x)
          have U := Lib.hid ((e_unfold (loOf x) y (lo_bd x) HY.out).as rfl (v' := (.agg #[.int .i64 (hiOf x), .int .u64 (loOf x)])) (by rw [E2.out hd]; rfl))
          unfold wideV at U
          clear hd
          refine wp_region_quiet_below (by kernel_rfl) (by kernel_rfl) ?_
          repeat (go_big_quiet_step (first | (with_reducible exact (C.out.quiet G1.out _ _)) | (with_reducible exact (F.out.quiet G1.out _ _)) | (with_reducible exact (U.out.quiet G1.out _ _))))
          (refine wpQuiet_nil ?_; intro _ hw'; obtain ⟨⟨dq, osq⟩, hw''⟩ := hw'; subst hw'')
          have W10 := Lib.hid (show Row2 (grow (redrawn wa dq) osq) g n u ∧ WideAt (grow (redrawn wa dq) osq) (w.heap.size + 1) x ∧ Below w.heap.size w (grow (redrawn wa dq) osq) from
            ⟨W9.out.2.2.1.on (below_quiet dq osq), W9.out.1.on (below_quiet dq osq), W9.out.2.2.2.1.trans ((below_quiet dq osq).mono W9.out.2.2.2.1.size)⟩)
          clear a0 a1 b0 b1 d0 d1 W9 G1
          generalize grow (redrawn wa dq) osq = wb at *
          go_wp2
          go_roundw
          case rel => first | exact ⟨1, by omega, by go_num, Lib.hid W10.out.1, Lib.hid W10.out.2⟩ | exact ⟨2, by omega, by go_num, Lib.hid W10.out.1, Lib.hid W10.out.2⟩
          case measure => simp [intOf]
        · have j1 : decide (sgn (distI x y) 9223372036854775808 < 0) = false := by simp; unfold sgn; split <;> (try split) <;> omega
          clear hd
          refine wp_region_quiet_below (by kernel_rfl) (by kernel_rfl) ?_
          repeat (go_big_quiet_step (first | (with_reducible exact (C.out.quiet G1.out _ _))))
          (refine wpQuiet_nil ?_; intro _ hw'; obtain ⟨⟨dq, osq⟩, hw''⟩ := hw'; subst hw'')
          have W10 := Lib.hid (show Row2 (grow (redrawn wa dq) osq) g n u ∧ WideAt (grow (redrawn wa dq) osq) (w.heap.size + 1) x ∧ Below w.heap.size w (grow (redrawn wa dq) osq) from
            ⟨W9.out.2.2.1.on (below_quiet dq osq), W9.out.1.on (below_quiet dq osq), W9.out.2.2.2.1.trans ((below_quiet dq osq).mono W9.out.2.2.2.1.size)⟩)
          clear a0 a1 b0 b1 d0 d1 W9 G1
          generalize grow (redrawn wa dq) osq = wb at *
          go_wp2
          go_roundw
          case rel => first | exact ⟨1, by omega, by go_num, Lib.hid W10.out.1, Lib.hid W10.out.2⟩ | exact ⟨2, by omega, by go_num, Lib.hid W10.out.1, Lib.hid W10.out.2⟩
          case measure => simp [intOf]
    · obtain rfl : k = 2 := by omega
      clear R E I2
      have F := Lib.hid (e_fold x)
      have U := Lib.hid ((e_unfold (loOf x) x (lo_bd x) HX.out).as rfl (v' := (.agg #[.int .i64 (hiOf x), .int .u64 (loOf x)])) (by rw [unfold_eq HX.out HX.out (by omega)]; rfl))
      unfold wideV at U
      obtain ⟨a0, a1⟩ := W6.out.1.at.q
      have G1 := Lib.hid (G.out.below W6.out.2)
      go_upto_region 17 with fail
      refine wp_region_quiet_below (by kernel_rfl) (by kernel_rfl) ?_
      repeat (go_big_quiet_step (first | (with_reducible exact (F.out.quiet G1.out _ _)) | (with_reducible exact (U.out.quiet G1.out _ _))))
      (refine wpQuiet_nil ?_; intro _ hw'; obtain ⟨⟨dq, osq⟩, hw''⟩ := hw'; subst hw'')
      go_wp2
      go_ret
      exact ⟨rfl, W6.out.2.trans ((below_quiet dq osq).mono W6.out.2.size)⟩
end Go.Proofs.YtcpnlifcjdahgaaDoor
