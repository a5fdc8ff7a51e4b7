/-
  Package wide's Neg, Abs and Cmp, and the statements' own 'ends'.
-/
import Derived.Test.YtednmodeoofbgaaDoorSub
namespace Go.Proofs.YtednmodeoofbgaaDoor
open Go.RowKit
theorem zero_hi : hiOf 0 = 0 := by decide
theorem zero_lo : loOf 0 = 0 := by decide
set_option maxHeartbeats 400000 in
theorem neg_any (x : Int) (hx : In x) (w : World) (hg : Glob w) :
    Calls Tryd.prog 44 #[.agg #[.int .i64 (hiOf x), .int .u64 (loOf x)]] w fun e w' =>
      e = .returned (.agg #[.int .i64 (hiOf (sat (-x))), .int .u64 (loOf (sat (-x)))]) ∧ Below w.heap.size w w' := by
  have hs := fun w hg => sub_any 0 x (by unfold In; omega) hx w hg
  rw [zero_hi, zero_lo, show (0 : Int) - x = -x from by omega] at hs
  have Hs := Lib.hid hs
  clear hs
  go_enter Tryd.func44, Tryd.ntmps44
  go_wp2_with (go_at_call 42; refine (Hs.out _ (hg.below (by (repeat (first | exact Below.refl _ _ | assumption | (refine Below.drew ?_) | (refine Below.alloc ?_ (by first | (simp; done) | (simp; omega) | omega) _) | (refine Below.setCell ?_ (by first | (simp; done) | (simp; omega) | omega) _) | (refine Below.trans ?_ (Below.mono (by assumption) (by first | (simp; done) | (simp; omega) | omega)))))))).mono ?_; rintro e w1 ⟨rfl, hb⟩; obtain ⟨hc, hf⟩ := bcell hb)
  exact bodyPost_ret (v := .agg #[.int .i64 (hiOf (sat (-x))), .int .u64 (loOf (sat (-x)))]) (by simp [results, Tryd.results44, go_sem, hc]) rfl ⟨rfl, by (repeat (first | exact Below.refl _ _ | assumption | (refine Below.drew ?_) | (refine Below.alloc ?_ (by first | (simp; done) | (simp; omega) | omega) _) | (refine Below.setCell ?_ (by first | (simp; done) | (simp; omega) | omega) _) | (refine Below.trans ?_ (Below.mono (by assumption) (by first | (simp; done) | (simp; omega) | omega)))))⟩
/-- -1, 0 or 1. -/
def sgn (x y : Int) : Int := if x = y then 0 else if x < y then -1 else 1
theorem cmp_facts (x y : Int) : (x = y ∧ hiOf x = hiOf y ∧ loOf x = loOf y) ∨
    (x ≠ y ∧ x < y ∧ hiOf x < hiOf y ∧ ¬ hiOf x = hiOf y) ∨ (x ≠ y ∧ x < y ∧ hiOf x = hiOf y ∧ loOf x < loOf y) ∨
    (x ≠ y ∧ ¬ x < y ∧ hiOf y < hiOf x ∧ ¬ hiOf x = hiOf y) ∨ (x ≠ y ∧ ¬ x < y ∧ hiOf x = hiOf y ∧ loOf y < loOf x) := by
  unfold hiOf loOf; omega
theorem cmp_any (x y : Int) (w : World) :
    Calls Tryd.prog 26 #[.agg #[.int .i64 (hiOf x), .int .u64 (loOf x)], .agg #[.int .i64 (hiOf y), .int .u64 (loOf y)]] w fun e w' =>
      e = .returned (.int .i64 (sgn x y)) ∧ Below w.heap.size w w' := by
  rcases cmp_facts x y with ⟨h1, h2, h3⟩ | ⟨h1, h2, h3, h4⟩ | ⟨h1, h2, h3, h4⟩ | ⟨h1, h2, h3, h4⟩ | ⟨h1, h2, h3, h4⟩
  · rw [show sgn x y = 0 from if_pos h1]
    subst h1
    go_enter Tryd.func26, Tryd.ntmps26
    go_wp2
    go_ret
    exact ⟨rfl, by (repeat (first | exact Below.refl _ _ | assumption | (refine Below.drew ?_) | (refine Below.alloc ?_ (by first | (simp; done) | (simp; omega) | omega) _) | (refine Below.setCell ?_ (by first | (simp; done) | (simp; omega) | omega) _) | (refine Below.trans ?_ (Below.mono (by assumption) (by first | (simp; done) | (simp; omega) | omega)))))⟩
  · rw [show sgn x y = -1 from by unfold sgn; rw [if_neg h1, if_pos h2]]
    clear h1 h2
    generalize hiOf x = a at *
    generalize hiOf y = b at *
    generalize loOf x = c at *
    generalize loOf y = d at *
    have k1 : (a == b) = false := by simpa using h4
    have k2 : decide (a < b) = true := by simpa using h3
    go_enter Tryd.func26, Tryd.ntmps26
    go_wp2
    go_ret
    exact ⟨rfl, by (repeat (first | exact Below.refl _ _ | assumption | (refine Below.drew ?_) | (refine Below.alloc ?_ (by first | (simp; done) | (simp; omega) | omega) _) | (refine Below.setCell ?_ (by first | (simp; done) | (simp; omega) | omega) _) | (refine Below.trans ?_ (Below.mono (by assumption) (by first | (simp; done) | (simp; omega) | omega)))))⟩
  · rw [show sgn x y = -1 from by unfold sgn; rw [if_neg h1, if_pos h2]]
    clear h1 h2
    rw [h3]
    clear h3
    generalize hiOf y = b at *
    generalize loOf x = c at *
    generalize loOf y = d at *
    have k1 : (c == d) = false := by simp; omega
    have k2 : decide (c < d) = true := by simpa using h4
    go_enter Tryd.func26, Tryd.ntmps26
    go_wp2
    go_ret
    exact ⟨rfl, by (repeat (first | exact Below.refl _ _ | assumption | (refine Below.drew ?_) | (refine Below.alloc ?_ (by first | (simp; done) | (simp; omega) | omega) _) | (refine Below.setCell ?_ (by first | (simp; done) | (simp; omega) | omega) _) | (refine Below.trans ?_ (Below.mono (by assumption) (by first | (simp; done) | (simp; omega) | omega)))))⟩
  · rw [show sgn x y = 1 from by unfold sgn; rw [if_neg h1, if_neg h2]]
    clear h1 h2
    generalize hiOf x = a at *
    generalize hiOf y = b at *
    generalize loOf x = c at *
    generalize loOf y = d at *
    have k1 : (a == b) = false := by simpa using h4
    have k2 : decide (a < b) = false := by simp; omega
    go_enter Tryd.func26, Tryd.ntmps26
    go_wp2
    go_ret
    exact ⟨rfl, by (repeat (first | exact Below.refl _ _ | assumption | (refine Below.drew ?_) | (refine Below.alloc ?_ (by first | (simp; done) | (simp; omega) | omega) _) | (refine Below.setCell ?_ (by first | (simp; done) | (simp; omega) | omega) _) | (refine Below.trans ?_ (Below.mono (by assumption) (by first | (simp; done) | (simp; omega) | omega)))))⟩
  · rw [show sgn x y = 1 from by unfold sgn; rw [if_neg h1, if_neg h2]]
    clear h1 h2
    rw [h3]
    clear h3
    generalize hiOf y = b at *
    generalize loOf x = c at *
    generalize loOf y = d at *
    have k1 : (c == d) = false := by simp; omega
    have k2 : decide (c < d) = false := by simp; omega
    go_enter Tryd.func26, Tryd.ntmps26
    go_wp2
    go_ret
    exact ⟨rfl, by (repeat (first | exact Below.refl _ _ | assumption | (refine Below.drew ?_) | (refine Below.alloc ?_ (by first | (simp; done) | (simp; omega) | omega) _) | (refine Below.setCell ?_ (by first | (simp; done) | (simp; omega) | omega) _) | (refine Below.trans ?_ (Below.mono (by assumption) (by first | (simp; done) | (simp; omega) | omega)))))⟩
end Go.Proofs.YtednmodeoofbgaaDoor
