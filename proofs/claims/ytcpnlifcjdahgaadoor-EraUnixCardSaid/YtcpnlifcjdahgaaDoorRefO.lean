/-
  The document's numbers: Floor, of any.
-/
import Derived.Test.YtcpnlifcjdahgaaDoorRefN
namespace Go.Proofs.YtcpnlifcjdahgaaDoor
open Go.RowKit Go.Sort
/-- The quotient's size. -/
def fl (x d : Int) : Int := if x < 0 then -(x / d) else x / d
theorem fl_bd {x d : Int} (hx : In x) (hd : 0 < d) : 0 ≤ fl x d ∧ fl x d ≤ 170141183460469231731687303715884105728 ∧ vz (pair0 x) (fl x d) = x / d := by
  unfold In at hx
  unfold fl vz pair0
  by_cases h : x < 0
  · have a : x / d < 0 := Int.ediv_lt_of_lt_mul hd (by omega)
    have b : x ≤ x / d := Int.le_ediv_of_mul_le hd (by
      have := Int.mul_le_mul_of_nonneg_left (show 1 ≤ d by omega) (show 0 ≤ -x by omega)
      simp only [Int.neg_mul] at this
      omega)
    simp only [h, if_true, decide_true]
    generalize x / d = y at *
    omega
  · have a : 0 ≤ x / d := Int.ediv_nonneg (by omega) (by omega)
    have b : x / d ≤ x := Int.ediv_le_self _ (by omega)
    simp only [h, if_false, decide_false, Bool.false_eq_true]
    generalize x / d = y at *
    exact ⟨a, by omega, trivial⟩
theorem r_floor (x d : Int) (hx : In x) (hd : 0 < d ∧ d ≤ 18446744073709551616) : Gives 22 #[.agg (numC (pair0 x) (dig (absN x))), .agg (numC false (dig d))] (.agg (numC (pair0 x) (dig (fl x d)))) := fun w _ => by
  have h0 := absN_wide hx
  by_cases h : x < 0
  · have e : pair0 x = true := by unfold pair0; simpa using h
    have r := rfloor_neg (absN x) d ⟨h0.1, by omega⟩ hd w (pair0 x) (Lib.hid e)
    rw [show -absN x = x by unfold absN; rw [if_pos h]; omega] at r
    rw [show fl x d = -(x / d) from if_pos h]
    rw [e] at r ⊢
    exact r
  · have e : pair0 x = false := by unfold pair0; simpa using h
    have r := rfloor_pos (absN x) d ⟨h0.1, by omega⟩ hd w (pair0 x) (Lib.hid e)
    rw [show absN x = x from if_neg h] at r ⊢
    rw [show fl x d = x / d from if_neg h]
    rw [e] at r ⊢
    exact r
end Go.Proofs.YtcpnlifcjdahgaaDoor
