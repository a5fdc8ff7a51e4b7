/-
  Package wide's Neg, Abs and Cmp, and the statements' own 'ends'.
-/
import Derived.Test.YtcipgagpmglikaaGreatDoorSub
namespace Go.Proofs.YtcipgagpmglikaaGreatDoor
open Go.RowKit
theorem zero_hi : hiOf 0 = 0 := by decide
theorem zero_lo : loOf 0 = 0 := by decide
set_option maxHeartbeats 400000 in
theorem neg_any (x : Int) (hx : In x) (w : World) (hg : Glob w) :
    Calls Tryz.prog 58 #[.agg #[.int .i64 (hiOf x), .int .u64 (loOf x)]] w fun e w' =>
      e = .returned (.agg #[.int .i64 (hiOf (sat (-x))), .int .u64 (loOf (sat (-x)))]) ∧ Below w.heap.size w w' := by
  have hs := fun w hg => sub_any 0 x (by unfold In; omega) hx w hg
  rw [zero_hi, zero_lo, show (0 : Int) - x = -x from by omega] at hs
  have Hs := Lib.hid hs
  clear hs
  go_enter Tryz.func58, Tryz.ntmps58
  go_wp2_with (go_at_call 56; refine (Hs.out _ (hg.below (by (repeat (first | exact Below.refl _ _ | assumption | (refine Below.drew ?_) | (refine Below.alloc ?_ (by first | (simp; done) | (simp; omega) | omega) _) | (refine Below.setCell ?_ (by first | (simp; done) | (simp; omega) | omega) _) | (refine Below.trans ?_ (Below.mono (by assumption) (by first | (simp; done) | (simp; omega) | omega)))))))).mono ?_; rintro e w1 ⟨rfl, hb⟩; obtain ⟨hc, hf⟩ := bcell hb)
  exact bodyPost_ret (v := .agg #[.int .i64 (hiOf (sat (-x))), .int .u64 (loOf (sat (-x)))]) (by simp [results, Tryz.results58, go_sem, hc]) rfl ⟨rfl, by (repeat (first | exact Below.refl _ _ | assumption | (refine Below.drew ?_) | (refine Below.alloc ?_ (by first | (simp; done) | (simp; omega) | omega) _) | (refine Below.setCell ?_ (by first | (simp; done) | (simp; omega) | omega) _) | (refine Below.trans ?_ (Below.mono (by assumption) (by first | (simp; done) | (simp; omega) | omega)))))⟩
/-- -1, 0 or 1. -/
def sgn (x y : Int) : Int := if x = y then 0 else if x < y then -1 else 1
theorem cmp_facts (x y : Int) : (x = y ∧ hiOf x = hiOf y ∧ loOf x = loOf y) ∨
    (x ≠ y ∧ x < y ∧ hiOf x < hiOf y ∧ ¬ hiOf x = hiOf y) ∨ (x ≠ y ∧ x < y ∧ hiOf x = hiOf y ∧ loOf x < loOf y) ∨
    (x ≠ y ∧ ¬ x < y ∧ hiOf y < hiOf x ∧ ¬ hiOf x = hiOf y) ∨ (x ≠ y ∧ ¬ x < y ∧ hiOf x = hiOf y ∧ loOf y < loOf x) := by
  unfold hiOf loOf; omega
end Go.Proofs.YtcipgagpmglikaaGreatDoor
