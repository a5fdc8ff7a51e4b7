/-
  FixMoves: walked.
-/
import Derived.Test.YtpjmngolnobomaaDoorMoveFn
namespace Go.Proofs.YtpjmngolnobomaaDoor
open Go.RowKit Go.Sort
/-- What lies where: five numbers, a span. -/
structure Mv (w : World) (x1 x2 x3 x4 xa b : Int) (W : World) : Prop where
  a1 : WideAt W w.heap.size x1
  a2 : WideAt W (w.heap.size + 1) x2
  a3 : WideAt W (w.heap.size + 1 + 1) x3
  a4 : WideAt W (w.heap.size + 1 + 1 + 1) x4
  aa : WideAt W (w.heap.size + 1 + 1 + 1 + 1) xa
  ab : W.heap[w.heap.size + 1 + 1 + 1 + 1 + 1]? = some (.cells #[.int .i64 b] 2 (0, 0))
  s : Below w.heap.size w W
theorem Mv.on {w w1 w2 : World} {x1 x2 x3 x4 xa b : Int} (h : Mv w x1 x2 x3 x4 xa b w1) (hb : Below w1.heap.size w1 w2) : Mv w x1 x2 x3 x4 xa b w2 :=
  ⟨h.a1.on hb, h.a2.on hb, h.a3.on hb, h.a4.on hb, h.aa.on hb, row_on h.ab hb, h.s.trans (hb.mono h.s.size)⟩
theorem mv_new (w : World) (x1 x2 x3 x4 xa b : Int) : Mv w x1 x2 x3 x4 xa b ((((((w.alloc (wideO x1)).alloc (wideO x2)).alloc (wideO x3)).alloc (wideO x4)).alloc (wideO xa)).alloc (.cells #[.int .i64 b] 2)) := by
  refine ⟨?_, ?_, ?_, ?_, ?_, ?_, by unfold wideO; (repeat (first | (with_reducible exact Below.refl _ _) | (with_reducible assumption) | (with_reducible refine Below.drew ?_) | (with_reducible refine below_drewN ?_ _) | ((with_reducible refine Below.alloc ?_ ?_ _); rotate_left; (focus (first | (simp; done) | (simp; omega) | omega))) | ((with_reducible refine Below.setCell ?_ ?_ _); rotate_left; (focus (first | (simp; done) | (simp; omega) | omega))) | ((with_reducible refine Below.trans ?_ (Below.mono (by assumption) ?_)); rotate_left; (focus (first | (simp; done) | (simp; omega) | omega)))))⟩
  · unfold WideAt; rw [heap_alloc_old _ _ (by first | (simp; done) | (simp; omega) | omega), heap_alloc_old _ _ (by first | (simp; done) | (simp; omega) | omega), heap_alloc_old _ _ (by first | (simp; done) | (simp; omega) | omega), heap_alloc_old _ _ (by first | (simp; done) | (simp; omega) | omega), heap_alloc_old _ _ (by first | (simp; done) | (simp; omega) | omega)]; exact row_new _ _ rfl
  · unfold WideAt; rw [heap_alloc_old _ _ (by first | (simp; done) | (simp; omega) | omega), heap_alloc_old _ _ (by first | (simp; done) | (simp; omega) | omega), heap_alloc_old _ _ (by first | (simp; done) | (simp; omega) | omega), heap_alloc_old _ _ (by first | (simp; done) | (simp; omega) | omega)]; exact row_new _ _ (by first | (simp; done) | (simp; omega) | omega)
  · unfold WideAt; rw [heap_alloc_old _ _ (by first | (simp; done) | (simp; omega) | omega), heap_alloc_old _ _ (by first | (simp; done) | (simp; omega) | omega), heap_alloc_old _ _ (by first | (simp; done) | (simp; omega) | omega)]; exact row_new _ _ (by first | (simp; done) | (simp; omega) | omega)
  · unfold WideAt; rw [heap_alloc_old _ _ (by first | (simp; done) | (simp; omega) | omega), heap_alloc_old _ _ (by first | (simp; done) | (simp; omega) | omega)]; exact row_new _ _ (by first | (simp; done) | (simp; omega) | omega)
  · unfold WideAt; rw [heap_alloc_old _ _ (by first | (simp; done) | (simp; omega) | omega)]; exact row_new _ _ (by first | (simp; done) | (simp; omega) | omega)
  · exact row_new _ _ (by first | (simp; done) | (simp; omega) | omega)
/-- A number that is within the bounds of the statement. -/
def Mid (x : Int) : Prop := -268435456 ≤ hiOf x ∧ hiOf x < 268435456
/-- The row over which the statement ranges. -/
def RowAt (w : World) (p : Nat) (x1 x2 x3 x4 xa : Int) : Prop :=
  w.heap[p]? = some (.cells #[.int .i64 (hiOf x1), .int .u64 (loOf x1), .int .i64 (hiOf x2), .int .u64 (loOf x2), .int .i64 (hiOf x3), .int .u64 (loOf x3), .int .i64 (hiOf x4), .int .u64 (loOf x4), .int .i64 (hiOf xa), .int .u64 (loOf xa)] 25 (0, 0))
theorem RowAt.on {w w' : World} {p : Nat} {x1 x2 x3 x4 xa : Int} (h : RowAt w p x1 x2 x3 x4 xa) (hb : Below w.heap.size w w') : RowAt w' p x1 x2 x3 x4 xa := row_on h hb
theorem row_cell {w : World} {g : Nat} {v : Value} {t : TypeId} (h : w.heap[g]? = some (.cells #[v] t (0, 0))) : w.cell? ⟨g, 0, none⟩ = some v := cell_of_row w g 0 _ _ _ h
def selM (x1 x2 x3 x4 xa : Int) (k : Nat) : Int := match k with | 0 => x1 | 1 => x2 | 2 => x3 | 3 => x4 | _ => xa
theorem row_sel {w : World} {p : Nat} {x1 x2 x3 x4 xa : Int} (h : RowAt w p x1 x2 x3 x4 xa) {k : Nat} (hk : k < 5) :
    ∃ y, y = selM x1 x2 x3 x4 xa k ∧ w.cell? ⟨p, 2 * k, none⟩ = some (.int .i64 (hiOf y)) ∧ w.cell? ⟨p, 2 * k + 1, none⟩ = some (.int .u64 (loOf y)) := by
  refine ⟨_, rfl, ?_, ?_⟩
  all_goals
    rw [cell_of_row w p _ _ _ _ h]
    obtain rfl | rfl | rfl | rfl | rfl : k = 0 ∨ k = 1 ∨ k = 2 ∨ k = 3 ∨ k = 4 := by omega
    all_goals rfl
theorem mid_bd {x : Int} (h : Mid x) : -4951760157141521099596496896 ≤ x ∧ x < 4951760157141521099596496896 := by unfold Mid hiOf at h; omega
theorem mid_in {x : Int} (h : -39614081257132168796771975168 ≤ x ∧ x ≤ 39614081257132168796771975168) : In x := by unfold In; omega
/-- Offset and delay, where nothing saturates. -/
def offM (x1 x2 x3 x4 : Int) : Int := clip ((x2 - x1 + (x3 - x4)) / 2)
def delM (x1 x2 x3 x4 : Int) : Int := clip (x4 - x1 - (x3 - x2))
theorem off_mid {x1 x2 x3 x4 : Int} (h : -9903520314283042199192993792 ≤ x1 ∧ x1 ≤ 9903520314283042199192993792 ∧ -9903520314283042199192993792 ≤ x2 ∧ x2 ≤ 9903520314283042199192993792 ∧ -9903520314283042199192993792 ≤ x3 ∧ x3 ≤ 9903520314283042199192993792 ∧ -9903520314283042199192993792 ≤ x4 ∧ x4 ≤ 9903520314283042199192993792) :
    clip (sat (sat (x2 - x1) + sat (x3 - x4)) / 2) = offM x1 x2 x3 x4 ∧ clip (sat (sat (x4 - x1) - sat (x3 - x2))) = delM x1 x2 x3 x4 := by
  unfold offM delM
  rw [sat_id (x := x2 - x1) (mid_in (by omega)), sat_id (x := x3 - x4) (mid_in (by omega)), sat_id (x := x4 - x1) (mid_in (by omega)), sat_id (x := x3 - x2) (mid_in (by omega)), sat_id (x := x2 - x1 + (x3 - x4)) (mid_in (by omega)), sat_id (x := x4 - x1 - (x3 - x2)) (mid_in (by omega))]
  exact ⟨rfl, rfl⟩
theorem clip_small {x : Int} (h : -4611686018427387904 ≤ x ∧ x ≤ 4611686018427387904) : clip x = x := by unfold clip; rw [if_neg (by omega), if_neg (by omega)]
theorem clip_bd (x : Int) : -9223372036854775808 ≤ clip x ∧ clip x ≤ 9223372036854775807 := by unfold clip; (repeat' split) <;> omega
theorem off_late {x1 x2 x3 x4 b : Int} (hb : -1152921504606846976 ≤ b ∧ b ≤ 1152921504606846976) (h : offM x1 x2 x3 x4 < 2305843009213693952 ∧ -2305843009213693952 < offM x1 x2 x3 x4) : offM x1 (x2 + b) (x3 + b) x4 = offM x1 x2 x3 x4 + b := by
  unfold offM clip at *
  (repeat' split) <;> (repeat' split at h) <;> omega
theorem del_late (x1 x2 x3 x4 b : Int) : delM x1 (x2 + b) (x3 + b) x4 = delM x1 x2 x3 x4 := by
  unfold delM; congr 1; omega
theorem off_on (x1 x2 x3 x4 a : Int) : offM (x1 + a) (x2 + a) (x3 + a) (x4 + a) = offM x1 x2 x3 x4 := by
  unfold offM; congr 2; omega
theorem del_on (x1 x2 x3 x4 a : Int) : delM (x1 + a) (x2 + a) (x3 + a) (x4 + a) = delM x1 x2 x3 x4 := by
  unfold delM; congr 1; omega
theorem mv_last {x1 x2 x3 x4 : Int} (ho : offM x1 x2 x3 x4 < 2305843009213693952 ∧ -2305843009213693952 < offM x1 x2 x3 x4) (hd : delM x1 x2 x3 x4 < 2305843009213693952 ∧ -2305843009213693952 < delM x1 x2 x3 x4) :
    -4611686018427387904 ≤ x2 - x1 ∧ x2 - x1 ≤ 4611686018427387904 ∧ -4611686018427387904 ≤ x3 - x4 ∧ x3 - x4 ≤ 4611686018427387904 ∧ x2 - x1 - (x3 - x4) = delM x1 x2 x3 x4 ∧ (x2 - x1 + (x3 - x4) = 2 * offM x1 x2 x3 x4 ∨ x2 - x1 + (x3 - x4) = 2 * offM x1 x2 x3 x4 + 1) := by
  unfold offM delM clip at *
  (repeat' split at ho) <;> (repeat' split at hd) <;> (repeat' split) <;> omega
set_option maxHeartbeats 8000000 in
set_option maxRecDepth 100000 in
theorem fixMoves_any (x1 x2 x3 x4 xa b : Int) (h1 : In x1) (h2 : In x2) (h3 : In x3) (h4 : In x4) (ha : In xa) (hb : -9223372036854775808 ≤ b ∧ b ≤ 9223372036854775807) (w : World) (hg : Glob w) :
    Calls Tryd.prog 7 #[wideV x1, wideV x2, wideV x3, wideV x4, wideV xa, .int .i64 b] w fun e w' => e = .returned (.bool true) ∧ Below w.heap.size w w' := by
  have K := Lib.hid g_known2
  have G := Lib.hid hg
  unfold wideV
  clear hg
  go_enter Tryd.func7, Tryd.ntmps7
  go_upto_region 1 with fail
  have W := Lib.hid (mv_new w x1 x2 x3 x4 xa b)
  unfold wideO at W
  generalize (((((w.alloc (.cells #[.int .i64 (hiOf x1), .int .u64 (loOf x1)] 25)).alloc (.cells #[.int .i64 (hiOf x2), .int .u64 (loOf x2)] 25)).alloc (.cells #[.int .i64 (hiOf x3), .int .u64 (loOf x3)] 25)).alloc (.cells #[.int .i64 (hiOf x4), .int .u64 (loOf x4)] 25)).alloc (.cells #[.int .i64 (hiOf xa), .int .u64 (loOf xa)] 25)).alloc (.cells #[.int .i64 b] 2) = w0 at *
  go_wp2_with fail
  refine (K.out _ (G.out.below W.out.s)).mono ?_
  rintro e w1 ⟨rfl, hb⟩
  have W1 := Lib.hid (W.out.on hb)
  clear hb W
  obtain ⟨a0, a1, _⟩ := W1.out.a1.at
  obtain ⟨b0, b1, _⟩ := W1.out.a2.at
  obtain ⟨c0, c1, _⟩ := W1.out.a3.at
  obtain ⟨d0, d1, _⟩ := W1.out.a4.at
  obtain ⟨e0, e1, _⟩ := W1.out.aa.at
  go_wp2_with fail
  have R1 := Lib.hid (show RowAt _ w1.heap.size x1 x2 x3 x4 xa from row_new w1 _ rfl)
  have W2 := Lib.hid (W1.out.on (below_alloc w1 (.cells #[.int .i64 (hiOf x1), .int .u64 (loOf x1), .int .i64 (hiOf x2), .int .u64 (loOf x2), .int .i64 (hiOf x3), .int .u64 (loOf x3), .int .i64 (hiOf x4), .int .u64 (loOf x4), .int .i64 (hiOf xa), .int .u64 (loOf xa)] 25)))
  generalize w1.alloc (.cells #[.int .i64 (hiOf x1), .int .u64 (loOf x1), .int .i64 (hiOf x2), .int .u64 (loOf x2), .int .i64 (hiOf x3), .int .u64 (loOf x3), .int .i64 (hiOf x4), .int .u64 (loOf x4), .int .i64 (hiOf xa), .int .u64 (loOf xa)] 25) = w2 at *
  generalize w1.heap.size = p at *
  clear W1 a0 a1 b0 b1 c0 c1 d0 d1 e0 e1
  go_loopw [30] (fun i wr => ∃ k : Nat, k ≤ 5 ∧ i = .int .i64 k ∧ Hid (∀ j, j < k → Mid (selM x1 x2 x3 x4 xa j)) ∧ Hid (RowAt wr p x1 x2 x3 x4 xa) ∧ Hid (Mv w x1 x2 x3 x4 xa b wr)) (fun i _ => 5 - (intOf i).toNat)
  case atStart => exact ⟨0, by omega, rfl, Lib.hid (fun j h => absurd h (by omega)), R1, W2⟩
  case round =>
    clear R1 W2
    obtain ⟨k, hk, rfl, A, R1, W2⟩ := hrel
    by_cases hlt : k < 5
    · obtain ⟨y, hy, c0, c1⟩ := row_sel R1.out hlt
      have A2 := Lib.hid (fun (h : Mid y) j (hj : j < k + 1) => if e : j = k then (show Mid (selM x1 x2 x3 x4 xa j) by rw [e, ← hy]; exact h) else A.out j (by omega))
      have WW := Lib.hid W2.out.s
      clear hy A
      by_cases m1 : 268435456 ≤ hiOf y
      · have j1 : decide (268435456 ≤ hiOf y) = true := by simpa using m1
        clear m1 A2
        obtain rfl | rfl | rfl | rfl | rfl : k = 0 ∨ k = 1 ∨ k = 2 ∨ k = 3 ∨ k = 4 := by omega
        all_goals
          go_wp2
          go_ret
          exact ⟨rfl, WW.out.trans (Below.mono (show Below wr.heap.size wr _ by (repeat (first | (with_reducible exact Below.refl _ _) | (with_reducible assumption) | (with_reducible refine Below.drew ?_) | (with_reducible refine below_drewN ?_ _) | ((with_reducible refine Below.alloc ?_ ?_ _); rotate_left; (focus (first | (simp; done) | (simp; omega) | omega))) | ((with_reducible refine Below.setCell ?_ ?_ _); rotate_left; (focus (first | (simp; done) | (simp; omega) | omega))) | ((with_reducible refine Below.trans ?_ (Below.mono (by assumption) ?_)); rotate_left; (focus (first | (simp; done) | (simp; omega) | omega)))))) WW.out.size)⟩
      · by_cases m2 : hiOf y < -268435456
        · have j1 : decide (268435456 ≤ hiOf y) = false := by simpa using m1
          have j2 : decide (hiOf y < -268435456) = true := by simpa using m2
          clear m1 m2 A2
          obtain rfl | rfl | rfl | rfl | rfl : k = 0 ∨ k = 1 ∨ k = 2 ∨ k = 3 ∨ k = 4 := by omega
          all_goals
            go_wp2
            go_ret
            exact ⟨rfl, WW.out.trans (Below.mono (show Below wr.heap.size wr _ by (repeat (first | (with_reducible exact Below.refl _ _) | (with_reducible assumption) | (with_reducible refine Below.drew ?_) | (with_reducible refine below_drewN ?_ _) | ((with_reducible refine Below.alloc ?_ ?_ _); rotate_left; (focus (first | (simp; done) | (simp; omega) | omega))) | ((with_reducible refine Below.setCell ?_ ?_ _); rotate_left; (focus (first | (simp; done) | (simp; omega) | omega))) | ((with_reducible refine Below.trans ?_ (Below.mono (by assumption) ?_)); rotate_left; (focus (first | (simp; done) | (simp; omega) | omega)))))) WW.out.size)⟩
        · have j1 : decide (268435456 ≤ hiOf y) = false := by simpa using m1
          have j2 : decide (hiOf y < -268435456) = false := by simpa using m2
          have A3 := Lib.hid (A2.out ⟨by omega, by omega⟩)
          clear m1 m2 A2
          obtain rfl | rfl | rfl | rfl | rfl : k = 0 ∨ k = 1 ∨ k = 2 ∨ k = 3 ∨ k = 4 := by omega
          all_goals
            go_wp2
            go_roundw
            case rel => exact ⟨_, by omega, by go_num, A3, Lib.hid (R1.out.on (show Below wr.heap.size wr _ by (repeat (first | (with_reducible exact Below.refl _ _) | (with_reducible assumption) | (with_reducible refine Below.drew ?_) | (with_reducible refine below_drewN ?_ _) | ((with_reducible refine Below.alloc ?_ ?_ _); rotate_left; (focus (first | (simp; done) | (simp; omega) | omega))) | ((with_reducible refine Below.setCell ?_ ?_ _); rotate_left; (focus (first | (simp; done) | (simp; omega) | omega))) | ((with_reducible refine Below.trans ?_ (Below.mono (by assumption) ?_)); rotate_left; (focus (first | (simp; done) | (simp; omega) | omega))))))), Lib.hid (W2.out.on (show Below wr.heap.size wr _ by (repeat (first | (with_reducible exact Below.refl _ _) | (with_reducible assumption) | (with_reducible refine Below.drew ?_) | (with_reducible refine below_drewN ?_ _) | ((with_reducible refine Below.alloc ?_ ?_ _); rotate_left; (focus (first | (simp; done) | (simp; omega) | omega))) | ((with_reducible refine Below.setCell ?_ ?_ _); rotate_left; (focus (first | (simp; done) | (simp; omega) | omega))) | ((with_reducible refine Below.trans ?_ (Below.mono (by assumption) ?_)); rotate_left; (focus (first | (simp; done) | (simp; omega) | omega)))))))⟩
            case measure => simp [intOf]
    · obtain rfl : k = 5 := by omega
      have N1 := Lib.hid (A.out 0 (by omega))
      have N2 := Lib.hid (A.out 1 (by omega))
      have N3 := Lib.hid (A.out 2 (by omega))
      have N4 := Lib.hid (A.out 3 (by omega))
      have NA := Lib.hid (A.out 4 (by omega))
      have bb := row_cell W2.out.ab
      clear A R1
      by_cases b1 : 1152921504606846976 < b
      · have j1 : decide (1152921504606846976 < b) = true := by simpa using b1
        clear b1
        go_wp2
        go_ret
        exact ⟨rfl, W2.out.s⟩
      · by_cases b2 : b < -1152921504606846976
        · have j1 : decide (1152921504606846976 < b) = false := by simpa using b1
          have j2 : decide (b < -1152921504606846976) = true := by simpa using b2
          clear b1 b2
          go_wp2
          go_ret
          exact ⟨rfl, W2.out.s⟩
        · have j1 : decide (1152921504606846976 < b) = false := by simpa using b1
          have j2 : decide (b < -1152921504606846976) = false := by simpa using b2
          have B1 := Lib.hid (show -1152921504606846976 ≤ b ∧ b ≤ 1152921504606846976 by omega)
          clear b1 b2
          have m1 := mid_bd N1.out
          have m2 := mid_bd N2.out
          have m3 := mid_bd N3.out
          have m4 := mid_bd N4.out
          have ma := mid_bd NA.out
          simp only [selM] at m1 m2 m3 m4 ma
          have bb1 := B1.out
          -- the contracts
          have q0 := off_mid (x1 := x1) (x2 := x2) (x3 := x3) (x4 := x4) (by omega)
          have q1 := off_mid (x1 := x1 + xa) (x2 := x2 + xa) (x3 := x3 + xa) (x4 := x4 + xa) (by omega)
          have q2 := off_mid (x1 := x1) (x2 := x2 + b) (x3 := x3 + b) (x4 := x4) (by omega)
          rw [off_on, del_on] at q1
          rw [del_late] at q2
          have O1 := Lib.hid ((f_offset x1 x2 x3 x4 h1 h2 h3 h4).as (args' := #[.agg #[.int .i64 (hiOf x1), .int .u64 (loOf x1)], .agg #[.int .i64 (hiOf x2), .int .u64 (loOf x2)], .agg #[.int .i64 (hiOf x3), .int .u64 (loOf x3)], .agg #[.int .i64 (hiOf x4), .int .u64 (loOf x4)]]) rfl (v' := .int .i64 (offM x1 x2 x3 x4)) (by rw [q0.1]))
          have D1 := Lib.hid ((f_delay x1 x2 x3 x4 h1 h2 h3 h4).as (args' := #[.agg #[.int .i64 (hiOf x1), .int .u64 (loOf x1)], .agg #[.int .i64 (hiOf x2), .int .u64 (loOf x2)], .agg #[.int .i64 (hiOf x3), .int .u64 (loOf x3)], .agg #[.int .i64 (hiOf x4), .int .u64 (loOf x4)]]) rfl (v' := .int .i64 (delM x1 x2 x3 x4)) (by rw [q0.2]))
          have O2 := Lib.hid ((f_offset (x1 + xa) (x2 + xa) (x3 + xa) (x4 + xa) (mid_in (by omega)) (mid_in (by omega)) (mid_in (by omega)) (mid_in (by omega))).as (args' := #[.agg #[.int .i64 (hiOf (x1 + xa)), .int .u64 (loOf (x1 + xa))], .agg #[.int .i64 (hiOf (x2 + xa)), .int .u64 (loOf (x2 + xa))], .agg #[.int .i64 (hiOf (x3 + xa)), .int .u64 (loOf (x3 + xa))], .agg #[.int .i64 (hiOf (x4 + xa)), .int .u64 (loOf (x4 + xa))]]) rfl (v' := .int .i64 (offM x1 x2 x3 x4)) (by rw [q1.1]))
          have D2 := Lib.hid ((f_delay (x1 + xa) (x2 + xa) (x3 + xa) (x4 + xa) (mid_in (by omega)) (mid_in (by omega)) (mid_in (by omega)) (mid_in (by omega))).as (args' := #[.agg #[.int .i64 (hiOf (x1 + xa)), .int .u64 (loOf (x1 + xa))], .agg #[.int .i64 (hiOf (x2 + xa)), .int .u64 (loOf (x2 + xa))], .agg #[.int .i64 (hiOf (x3 + xa)), .int .u64 (loOf (x3 + xa))], .agg #[.int .i64 (hiOf (x4 + xa)), .int .u64 (loOf (x4 + xa))]]) rfl (v' := .int .i64 (delM x1 x2 x3 x4)) (by rw [q1.2]))
          have O3 := Lib.hid ((f_offset x1 (x2 + b) (x3 + b) x4 h1 (mid_in (by omega)) (mid_in (by omega)) h4).as (args' := #[.agg #[.int .i64 (hiOf x1), .int .u64 (loOf x1)], .agg #[.int .i64 (hiOf (x2 + b)), .int .u64 (loOf (x2 + b))], .agg #[.int .i64 (hiOf (x3 + b)), .int .u64 (loOf (x3 + b))], .agg #[.int .i64 (hiOf x4), .int .u64 (loOf x4)]]) rfl (v' := .int .i64 (offM x1 (x2 + b) (x3 + b) x4)) (by rw [q2.1]))
          have D3 := Lib.hid ((f_delay x1 (x2 + b) (x3 + b) x4 h1 (mid_in (by omega)) (mid_in (by omega)) h4).as (args' := #[.agg #[.int .i64 (hiOf x1), .int .u64 (loOf x1)], .agg #[.int .i64 (hiOf (x2 + b)), .int .u64 (loOf (x2 + b))], .agg #[.int .i64 (hiOf (x3 + b)), .int .u64 (loOf (x3 + b))], .agg #[.int .i64 (hiOf x4), .int .u64 (loOf x4)]]) rfl (v' := .int .i64 (delM x1 x2 x3 x4)) (by rw [q2.2]))
          have i1 := Lib.hid (show In (x1 + xa) from mid_in (by omega))
          have i2 := Lib.hid (show In (x2 + xa) from mid_in (by omega))
          have i3 := Lib.hid (show In (x3 + xa) from mid_in (by omega))
          have i4 := Lib.hid (show In (x4 + xa) from mid_in (by omega))
          have l2 := Lib.hid (show In (x2 + b) from mid_in (by omega))
          have l3 := Lib.hid (show In (x3 + b) from mid_in (by omega))
          have OL := Lib.hid (off_late (x1 := x1) (x2 := x2) (x3 := x3) (x4 := x4) bb1)
          have LT := Lib.hid (mv_last (x1 := x1) (x2 := x2) (x3 := x3) (x4 := x4))
          have T1 := Lib.hid ((g_sub x2 x1 h2 h1).as (args' := #[.agg #[.int .i64 (hiOf x2), .int .u64 (loOf x2)], .agg #[.int .i64 (hiOf x1), .int .u64 (loOf x1)]]) rfl (v' := .agg #[.int .i64 (hiOf (x2 - x1)), .int .u64 (loOf (x2 - x1))]) (by rw [sat_id (mid_in (by omega))]))
          have T2 := Lib.hid ((g_sub x3 x4 h3 h4).as (args' := #[.agg #[.int .i64 (hiOf x3), .int .u64 (loOf x3)], .agg #[.int .i64 (hiOf x4), .int .u64 (loOf x4)]]) rfl (v' := .agg #[.int .i64 (hiOf (x3 - x4)), .int .u64 (loOf (x3 - x4))]) (by rw [sat_id (mid_in (by omega))]))
          have V1 := Lib.hid (g_clip (x2 - x1) (mid_in (by omega)))
          have V2 := Lib.hid (g_clip (x3 - x4) (mid_in (by omega)))
          have H1 := Lib.hid h1
          have H2 := Lib.hid h2
          have H3 := Lib.hid h3
          have H4 := Lib.hid h4
          have HA := Lib.hid ha
          have HB := Lib.hid hb
          have G1 := Lib.hid (G.out.below W2.out.s)
          obtain ⟨a0, a1⟩ := W2.out.a1.at.q
          obtain ⟨b0, b1⟩ := W2.out.a2.at.q
          obtain ⟨c0, c1⟩ := W2.out.a3.at.q
          obtain ⟨d0, d1⟩ := W2.out.a4.at.q
          have oc := clip_bd ((x2 - x1 + (x3 - x4)) / 2)
          have dc := clip_bd (x4 - x1 - (x3 - x2))
          rw [show clip ((x2 - x1 + (x3 - x4)) / 2) = offM x1 x2 x3 x4 from rfl] at oc
          rw [show clip (x4 - x1 - (x3 - x2)) = delM x1 x2 x3 x4 from rfl] at dc
          generalize offM x1 (x2 + b) (x3 + b) x4 = o3 at *
          generalize offM x1 x2 x3 x4 = o at *
          generalize delM x1 x2 x3 x4 = dl at *
          clear h1 h2 h3 h4 ha hb q0 q1 q2 m1 m2 m3 m4 ma N1 N2 N3 N4 NA K
          go_upto_region 11 with fail
          refine wp_region_quiet_below (by kernel_rfl) (by kernel_rfl) ?_
          repeat (go_big_quiet_step (first | (with_reducible exact (O1.out.quiet G1.out _ _)) | (with_reducible exact (D1.out.quiet G1.out _ _))))
          (refine wpQuiet_nil ?_; intro _ hw'; obtain ⟨⟨dq, osq⟩, hw''⟩ := hw'; subst hw'')
          have W3 := Lib.hid (W2.out.on (below_quiet dq osq))
          clear a0 a1 b0 b1 c0 c1 d0 d1 O1 D1 G1
          generalize grow (redrawn wr dq) osq = w3 at *
          clear W2
          have G1 := Lib.hid (G.out.below W3.out.s)
          obtain ⟨a0, a1⟩ := W3.out.a1.at.q
          obtain ⟨b0, b1⟩ := W3.out.a2.at.q
          obtain ⟨c0, c1⟩ := W3.out.a3.at.q
          obtain ⟨d0, d1⟩ := W3.out.a4.at.q
          go_upto_region 13 with fail
          refine wp_region_quiet_below (by kernel_rfl) (by kernel_rfl) ?_
          repeat (go_big_quiet_step (first | (with_reducible exact (on_quiet x1 xa H1.out HA.out i1.out G1.out W3.out.aa _ _)) | (with_reducible exact (on_quiet x2 xa H2.out HA.out i2.out G1.out W3.out.aa _ _)) | (with_reducible exact (on_quiet x3 xa H3.out HA.out i3.out G1.out W3.out.aa _ _)) | (with_reducible exact (on_quiet x4 xa H4.out HA.out i4.out G1.out W3.out.aa _ _)) | (with_reducible exact (O2.out.quiet G1.out _ _)) | (with_reducible exact (D2.out.quiet G1.out _ _))))
          (refine wpQuiet_nil ?_; intro _ hw'; obtain ⟨⟨dq, osq⟩, hw''⟩ := hw'; subst hw'')
          have W4 := Lib.hid (W3.out.on (below_quiet dq osq))
          clear a0 a1 b0 b1 c0 c1 d0 d1 O2 D2 G1
          generalize grow (redrawn w3 dq) osq = w4 at *
          clear W3 i1 i2 i3 i4 HA
          have G1 := Lib.hid (G.out.below W4.out.s)
          obtain ⟨a0, a1⟩ := W4.out.a1.at.q
          obtain ⟨b0, b1⟩ := W4.out.a2.at.q
          obtain ⟨c0, c1⟩ := W4.out.a3.at.q
          obtain ⟨d0, d1⟩ := W4.out.a4.at.q
          have g0 := cell_regrown (row_cell W4.out.ab)
          by_cases k1 : o < 2305843009213693952
          · by_cases k2 : -2305843009213693952 < o
            · have E3 : o3 = o + b := OL.out ⟨k1, k2⟩
              subst E3
              have ow : IntKind.i64.wrap (o + b) = o + b := by rw [IntKind.wrap_i64]; omega
              have n1 : decide (o < 2305843009213693952) = true := by simpa using k1
              have n2 : decide (-2305843009213693952 < o) = true := by simpa using k2
              go_upto_region 16 with fail
              refine wp_region_quiet_below (by kernel_rfl) (by kernel_rfl) ?_
              repeat (go_big_quiet_step (first | (with_reducible exact (late_quiet x2 b H2.out HB.out l2.out G1.out W4.out.ab _ _)) | (with_reducible exact (late_quiet x3 b H3.out HB.out l3.out G1.out W4.out.ab _ _)) | (with_reducible exact (O3.out.quiet G1.out _ _)) | (with_reducible exact (D3.out.quiet G1.out _ _))))
              (refine wpQuiet_nil ?_; intro _ hw'; obtain ⟨⟨dq, osq⟩, hw''⟩ := hw'; subst hw'')
              have W5 := Lib.hid (W4.out.on (below_quiet dq osq))
              clear a0 a1 b0 b1 c0 c1 d0 d1 g0 O3 D3 G1
              generalize grow (redrawn w4 dq) osq = w5 at *
              clear W4
              have n3 : decide (2305843009213693952 ≤ o) = false := by simp; omega
              have n4 : decide (o ≤ -2305843009213693952) = false := by simp; omega
              by_cases k3 : 2305843009213693952 ≤ dl
              · have n5 : decide (2305843009213693952 ≤ dl) = true := by simpa using k3
                clear k1 k2 k3 ow
                go_wp2
                go_ret
                exact ⟨rfl, W5.out.s⟩
              · have n5 : decide (2305843009213693952 ≤ dl) = false := by simpa using k3
                by_cases k4 : dl ≤ -2305843009213693952
                · have n6 : decide (dl ≤ -2305843009213693952) = true := by simpa using k4
                  clear k1 k2 k3 k4 ow
                  go_wp2
                  go_ret
                  exact ⟨rfl, W5.out.s⟩
                · have n6 : decide (dl ≤ -2305843009213693952) = false := by simpa using k4
                  obtain ⟨u0, u1, v0, v1, uv, us⟩ := LT.out ⟨by omega, by omega⟩ ⟨by omega, by omega⟩
                  rw [clip_small ⟨u0, u1⟩] at V1
                  rw [clip_small ⟨v0, v1⟩] at V2
                  generalize x2 - x1 = u at *
                  generalize x3 - x4 = v at *
                  have ow1 : IntKind.i64.wrap (u - v) = dl := by rw [uv, IntKind.wrap_i64]; omega
                  have ow2 : IntKind.i64.wrap (u + v) = u + v := by rw [IntKind.wrap_i64]; omega
                  have ow3 : IntKind.i64.wrap (2 * o) = 2 * o := by rw [IntKind.wrap_i64]; omega
                  have ow4 : IntKind.i64.wrap (2 * o + 1) = 2 * o + 1 := by rw [IntKind.wrap_i64]; omega
                  have G1 := Lib.hid (G.out.below W5.out.s)
                  obtain ⟨a0, a1⟩ := W5.out.a1.at.q
                  obtain ⟨b0, b1⟩ := W5.out.a2.at.q
                  obtain ⟨c0, c1⟩ := W5.out.a3.at.q
                  obtain ⟨d0, d1⟩ := W5.out.a4.at.q
                  go_upto_region 20 with fail
                  refine wp_region_quiet_below (by kernel_rfl) (by kernel_rfl) ?_
                  repeat (go_big_quiet_step (first | (with_reducible exact (T1.out.quiet G1.out _ _)) | (with_reducible exact (T2.out.quiet G1.out _ _)) | (with_reducible exact (V1.out.quiet G1.out _ _)) | (with_reducible exact (V2.out.quiet G1.out _ _))))
                  (refine wpQuiet_nil ?_; intro _ hw'; obtain ⟨⟨dq, osq⟩, hw''⟩ := hw'; subst hw'')
                  have S6 := Lib.hid (W5.out.s.trans ((below_quiet dq osq).mono W5.out.s.size))
                  clear a0 a1 b0 b1 c0 c1 d0 d1
                  rcases us with us | us
                  · have n7 : (u + v == 2 * o) = true := by simpa using us
                    clear us uv
                    go_wp2
                    go_ret
                    exact ⟨rfl, S6.out⟩
                  · have n7 : (u + v == 2 * o) = false := by simp; omega
                    have n8 : (u + v == 2 * o + 1) = true := by simpa using us
                    clear us uv
                    go_wp2
                    go_ret
                    exact ⟨rfl, S6.out⟩
            · have n1 : decide (o < 2305843009213693952) = true := by simpa using k1
              have n2 : decide (-2305843009213693952 < o) = false := by simpa using k2
              go_upto_region 16 with fail
              refine wp_region_quiet_below (by kernel_rfl) (by kernel_rfl) ?_
              repeat (go_big_quiet_step (first | (with_reducible exact (late_quiet x2 b H2.out HB.out l2.out G1.out W4.out.ab _ _)) | (with_reducible exact (late_quiet x3 b H3.out HB.out l3.out G1.out W4.out.ab _ _)) | (with_reducible exact (O3.out.quiet G1.out _ _)) | (with_reducible exact (D3.out.quiet G1.out _ _))))
              (refine wpQuiet_nil ?_; intro _ hw'; obtain ⟨⟨dq, osq⟩, hw''⟩ := hw'; subst hw'')
              have W5 := Lib.hid (W4.out.on (below_quiet dq osq))
              clear a0 a1 b0 b1 c0 c1 d0 d1 g0 O3 D3 G1
              generalize grow (redrawn w4 dq) osq = w5 at *
              clear W4
              have n3 : decide (2305843009213693952 ≤ o) = false := by simp; omega
              have n4 : decide (o ≤ -2305843009213693952) = true := by simp; omega
              clear k1 k2
              go_wp2
              go_ret
              exact ⟨rfl, W5.out.s⟩
          · have n1 : decide (o < 2305843009213693952) = false := by simpa using k1
            go_upto_region 16 with fail
            refine wp_region_quiet_below (by kernel_rfl) (by kernel_rfl) ?_
            repeat (go_big_quiet_step (first | (with_reducible exact (late_quiet x2 b H2.out HB.out l2.out G1.out W4.out.ab _ _)) | (with_reducible exact (late_quiet x3 b H3.out HB.out l3.out G1.out W4.out.ab _ _)) | (with_reducible exact (O3.out.quiet G1.out _ _)) | (with_reducible exact (D3.out.quiet G1.out _ _))))
            (refine wpQuiet_nil ?_; intro _ hw'; obtain ⟨⟨dq, osq⟩, hw''⟩ := hw'; subst hw'')
            have W5 := Lib.hid (W4.out.on (below_quiet dq osq))
            clear a0 a1 b0 b1 c0 c1 d0 d1 g0 O3 D3 G1
            generalize grow (redrawn w4 dq) osq = w5 at *
            clear W4
            have n3 : decide (2305843009213693952 ≤ o) = true := by simp; omega
            clear k1
            go_wp2
            go_ret
            exact ⟨rfl, W5.out.s⟩
end Go.Proofs.YtpjmngolnobomaaDoor
