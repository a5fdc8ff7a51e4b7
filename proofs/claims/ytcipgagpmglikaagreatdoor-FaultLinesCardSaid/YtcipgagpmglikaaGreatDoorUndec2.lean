/-
  Undec, Ununsigned.
-/
import Derived.Test.YtcipgagpmglikaaGreatDoorUndec
namespace Go.Proofs.YtcipgagpmglikaaGreatDoor
open Go.RowKit Go.Sort
set_option maxRecDepth 8000
theorem neq_wide (x y : Int) (W : World) : (binOp .neq 108 (wideV x) (wideV y)).run Tryz.prog W = .ok (.bool (!decide (x = y))) W := by
  unfold wideV
  have e := split_eq x
  have f := split_eq y
  by_cases h : hiOf x = hiOf y
  · by_cases h2 : loOf x = loOf y
    · have : x = y := by omega
      subst this
      go_simp
    · have hn : ¬ x = y := by rintro rfl; exact h2 rfl
      have k1 : (hiOf x == hiOf y) = true := by simpa using h
      have k2 : (loOf x == loOf y) = false := by simpa using h2
      rw [decide_eq_false hn]
      clear h h2 hn e f
      go_simp
  · have hn : ¬ x = y := by rintro rfl; exact h rfl
    have k1 : (hiOf x == hiOf y) = false := by simpa using h
    rw [decide_eq_false hn]
    clear h hn e f
    go_simp
def num64 (l : List UInt8) : Option Int := num? (-9223372036854775808) 9223372036854775807 l
def numU (l : List UInt8) : Option Int := num? 0 18446744073709551615 l
def und64 (l : List UInt8) : Value := .tuple #[.int .i64 ((num64 l).getD 0), .bool (num64 l).isSome]
def undU (l : List UInt8) : Value := .tuple #[.int .u64 ((numU l).getD 0), .bool (numU l).isSome]
theorem numW_in (l : List UInt8) : In ((numW l).getD 0) := by
  cases h : numW l with
  | none => unfold In; simp
  | some n => exact in_iff.2 (num?_some h).2
theorem num64_cases (l : List UInt8) : (clip ((numW l).getD 0) = (numW l).getD 0 ∧ und64 l = .tuple #[.int .i64 ((numW l).getD 0), .bool (numW l).isSome]) ∨ (clip ((numW l).getD 0) ≠ (numW l).getD 0 ∧ und64 l = .tuple #[.int .i64 0, .bool false]) := by
  have e : num64 l = _ := num?_within (lo := -170141183460469231731687303715884105728) (hi := 170141183460469231731687303715884105727) (by omega) (by omega) l
  rw [show num? (-170141183460469231731687303715884105728) 170141183460469231731687303715884105727 l = numW l from rfl] at e
  unfold und64
  rw [e]
  cases numW l with
  | none => left; exact ⟨rfl, rfl⟩
  | some n =>
    by_cases h : -9223372036854775808 ≤ n ∧ n ≤ 9223372036854775807
    · left; simp only [h, and_self, if_true]; exact ⟨clip_small h, trivial⟩
    · right; simp only [h, if_false]; exact ⟨fun c => h (by have := clip_bd n; simp at c; omega), rfl⟩
theorem numU_cases (l : List UInt8) : (hiOf ((numW l).getD 0) = 0 ∧ undU l = .tuple #[.int .u64 (loOf ((numW l).getD 0)), .bool (numW l).isSome]) ∨ (hiOf ((numW l).getD 0) ≠ 0 ∧ undU l = .tuple #[.int .u64 0, .bool false]) := by
  have e : numU l = _ := num?_within (lo := -170141183460469231731687303715884105728) (hi := 170141183460469231731687303715884105727) (by omega) (by omega) l
  rw [show num? (-170141183460469231731687303715884105728) 170141183460469231731687303715884105727 l = numW l from rfl] at e
  unfold undU
  rw [e]
  cases numW l with
  | none => left; exact ⟨rfl, rfl⟩
  | some n =>
    by_cases h : 0 ≤ n ∧ n ≤ 18446744073709551615
    · left; simp only [h, and_self, if_true]; exact ⟨by simp [hiOf]; omega, by simp [loOf]; omega⟩
    · right; simp only [h, if_false]; exact ⟨by simp [hiOf]; omega, rfl⟩
set_option maxHeartbeats 1000000 in
theorem t_undec (s : ByteArray) : Says 32 #[.string s] (und64 s.data.toList) := fun w hw => by
  have U := Lib.hid (t_undecw s)
  have C := Lib.hid (num64_cases s.data.toList)
  have I := numW_in s.data.toList
  have G := Lib.hid hw
  unfold undW at U
  generalize (numW s.data.toList).getD 0 = x at *
  generalize (numW s.data.toList).isSome = ok at *
  have K := Lib.hid (g_clip x I)
  have O := Lib.hid (g_of (clip x) (clip_bd x))
  have E := neq_wide (clip x) x
  unfold wideV at U E
  clear hw I
  go_enter Tryz.func32, Tryz.ntmps32
  go_upto_region 2 with (go_at_call 46; refine (U.out _ G.out).mono ?_; rintro e w1 ⟨rfl, hb⟩; have W1 := Lib.hid hb; clear hb)
  have W2 : Hid (WideAt (w1.alloc (wideO x)) w1.heap.size x ∧ Below w.heap.size w (w1.alloc (wideO x))) := Lib.hid ⟨by unfold WideAt; exact row_new _ _ rfl, W1.out.alloc W1.out.size _⟩
  unfold wideO at W2
  generalize w1.alloc (.cells #[.int .i64 (hiOf x), .int .u64 (loOf x)] 108) = w2 at *
  generalize w1.heap.size = p at *
  clear W1
  have b0 := W2.out.1.at.1
  have b1 := W2.out.1.at.2.1
  go_upto_region 3 with (go_at_call 47; refine (K.out _ (G.out.1.below W2.out.2)).mono ?_; rintro e w3 ⟨rfl, hb⟩; have W3 := Lib.hid (show WideAt w3 p x ∧ Below w.heap.size w w3 from ⟨W2.out.1.on hb, W2.out.2.trans (hb.mono W2.out.2.size)⟩); clear hb W2 b0 b1)
  obtain ⟨a0, a1⟩ := W3.out.1.at.q
  have G1 := Lib.hid (show Glob w3 from (G.out.below W3.out.2).1)
  rcases C.out with ⟨c, v⟩ | ⟨c, v⟩
  · rw [decide_eq_true c] at E
    have V := Lib.hid v
    have V2 := Lib.hid c
    clear c v C
    generalize clip x = y at *
    refine wp_region_quiet_below (by kernel_rfl) (by kernel_rfl) ?_
    repeat (go_big_quiet_step (exact (O.out.quiet G1.out _ _)))
    (refine wpQuiet_nil ?_; intro _ hw'; obtain ⟨⟨dq, osq⟩, hw''⟩ := hw'; subst hw'')
    have hb := below_quiet (W := w3) dq osq
    have W4 := Lib.hid (W3.out.2.trans (hb.mono W3.out.2.size))
    clear hb W3 a0 a1 E
    generalize grow (redrawn w3 dq) osq = w4 at *
    go_wp2
    exact bodyPost_ret (v := .tuple #[.int .i64 y, .bool ok]) (by simp [results, Tryz.results32, go_sem]) rfl ⟨by rw [V.out, V2.out], W4.out⟩
  · rw [decide_eq_false c] at E
    have V := Lib.hid v
    clear c v C
    generalize clip x = y at *
    refine wp_region_quiet_below (by kernel_rfl) (by kernel_rfl) ?_
    repeat (go_big_quiet_step (exact (O.out.quiet G1.out _ _)))
    (refine wpQuiet_nil ?_; intro _ hw'; obtain ⟨⟨dq, osq⟩, hw''⟩ := hw'; subst hw'')
    have hb := below_quiet (W := w3) dq osq
    have W4 := Lib.hid (W3.out.2.trans (hb.mono W3.out.2.size))
    clear hb W3 a0 a1 E
    generalize grow (redrawn w3 dq) osq = w4 at *
    go_wp2
    exact bodyPost_ret (v := .tuple #[.int .i64 0, .bool false]) (by simp [results, Tryz.results32, go_sem]) rfl ⟨by rw [V.out], W4.out⟩
end Go.Proofs.YtcipgagpmglikaaGreatDoor
