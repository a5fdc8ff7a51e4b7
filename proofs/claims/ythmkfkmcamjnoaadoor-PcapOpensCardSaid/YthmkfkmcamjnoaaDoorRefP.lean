/-
  The document's numbers: what the later stages ask of them too (Zero, Size, Floor beyond 128 bits, whole numbers as values and blocks).
-/
import Derived.Test.YthmkfkmcamjnoaaDoorRefO
import Derived.Test.YthmkfkmcamjnoaaDoorBoxes
import Derived.Test.YthmkfkmcamjnoaaDoorRefZ
namespace Go.Proofs.YthmkfkmcamjnoaaDoor
set_option maxRecDepth 8000
open Go.RowKit Go.Sort
theorem sgn_pos (a b : Int) : decide (0 < sgn a b) = decide (b < a) := by
  unfold sgn; congr 1; (repeat' split) <;> simp <;> omega
theorem sgn_neg (a b : Int) : decide (sgn a b < 0) = decide (a < b) := by
  unfold sgn; congr 1; (repeat' split) <;> simp <;> omega
theorem WideAt.row {w : World} {b : Nat} {x : Int} (h : WideAt w b x) {g : Nat} (hn : b ≠ g) (cs : Array Value) : WideAt (w.setRow g cs) b x := (heap_setRow w g b cs hn).trans h
theorem r_size (b c : Bool) (m n : Int) (hm : Sz m) (hn : Sz n) : Gives 57 #[.agg (numC b (dig m)), .agg (numC c (dig n))] (.int .i64 (sgz m n)) := fun w _ => size_any b c m n hm hn w
/-- Floor, of numbers beyond 128 bits, too. -/
def Big (x : Int) : Prop := -1361129467683753853853498429727072845824 < x ∧ x < 1361129467683753853853498429727072845824
theorem fl_big {x d : Int} (hx : Big x) (hd : 0 < d) : 0 ≤ fl x d ∧ fl x d < 1361129467683753853853498429727072845824 ∧ vz (pair0 x) (fl x d) = x / d := by
  unfold Big at hx
  unfold fl vz pair0
  by_cases h : x < 0
  · have a : x / d < 0 := Int.ediv_lt_of_lt_mul hd (by omega)
    have b : x ≤ x / d := Int.le_ediv_of_mul_le hd (by
      have := Int.mul_le_mul_of_nonneg_left (show 1 ≤ d by omega) (show 0 ≤ -x by omega)
      simp only [Int.neg_mul] at this
      omega)
    simp only [h, if_true, decide_true]
    generalize x / d = y at *
    omega
  · have a : 0 ≤ x / d := Int.ediv_nonneg (by omega) (by omega)
    have b : x / d ≤ x := Int.ediv_le_self _ (by omega)
    simp only [h, if_false, decide_false, Bool.false_eq_true]
    generalize x / d = y at *
    exact ⟨a, by omega, trivial⟩
theorem r_floor_big (x d : Int) (hx : Big x) (hd : 0 < d ∧ d ≤ 18446744073709551616) : Gives 51 #[.agg (numC (pair0 x) (dig (absN x))), .agg (numC false (dig d))] (.agg (numC (pair0 x) (dig (fl x d)))) := fun w _ => by
  have h0 : 0 ≤ absN x ∧ absN x < 1361129467683753853853498429727072845824 := by unfold Big at hx; unfold absN; split <;> omega
  by_cases h : x < 0
  · have e : pair0 x = true := by unfold pair0; simpa using h
    have r := rfloor_neg (absN x) d ⟨h0.1, by omega⟩ hd w (pair0 x) (Lib.hid e)
    rw [show -absN x = x by unfold absN; rw [if_pos h]; omega] at r
    rw [show fl x d = -(x / d) from if_pos h]
    rw [e] at r ⊢
    exact r
  · have e : pair0 x = false := by unfold pair0; simpa using h
    have r := rfloor_pos (absN x) d ⟨h0.1, by omega⟩ hd w (pair0 x) (Lib.hid e)
    rw [show absN x = x from if_neg h] at r ⊢
    rw [show fl x d = x / d from if_neg h]
    rw [e] at r ⊢
    exact r
/-- A difference of two, as sign and size. -/
theorem sub_sign {x y : Int} (hy : 0 < y) : addS (pair0 x) true (absN x) y = pair0 (x - y) ∧ addM (pair0 x) true (absN x) y = absN (x - y) := by
  unfold addS addM dS hiS loS pair0 absN
  by_cases h : x < 0
  · have h2 : x - y < 0 := by omega
    simp [h, h2]; omega
  · by_cases h3 : x < y
    · have h2 : x - y < 0 := by omega
      simp [h, h3, h2]; omega
    · have h2 : ¬ x - y < 0 := by omega
      simp [h, h3, h2]
/-- The pieces from k on are 0 just if the number is that small. -/
theorem dig_small {m : Int} (hm : Sz m) {k : Nat} (hk : k ≤ 20) (h : ∀ j, k ≤ j → j < 20 → dig m j = 0) : m < 65536 ^ k := by
  have step : ∀ n : Nat, n ≤ 20 - k → m < 65536 ^ (20 - n) := by
    intro n
    induction n with
    | zero => intro _; exact hm.2
    | succ n ih =>
      intro hn
      have a := ih (by omega)
      have z := h (20 - (n + 1)) (by omega) (by omega)
      rw [show 20 - n = 20 - (n + 1) + 1 by omega, Int.pow_succ] at a
      unfold dig at z
      have p : (0 : Int) < 65536 ^ (20 - (n + 1)) := Int.pow_pos (by decide)
      have b : m / 65536 ^ (20 - (n + 1)) < 65536 := Int.ediv_lt_of_lt_mul p (by rw [Int.mul_comm]; exact a)
      have c : 0 ≤ m / 65536 ^ (20 - (n + 1)) := Int.ediv_nonneg hm.1 (by omega)
      rw [Int.emod_eq_of_lt c b] at z
      have q := (Int.ediv_lt_iff_lt_mul p).1 (show m / 65536 ^ (20 - (n + 1)) < 1 by omega)
      rwa [Int.one_mul] at q
  have := step (20 - k) (Nat.le_refl _)
  rwa [show 20 - (20 - k) = k by omega] at this
theorem dig_big {m : Int} (h0 : 0 ≤ m) {k j : Nat} (hkj : k ≤ j) (h : 0 < dig m j) : 65536 ^ k ≤ m := by
  rcases Int.lt_or_le m (65536 ^ k) with g | g
  · have : m < 65536 ^ j := Int.lt_of_lt_of_le g (pow_mono65 hkj)
    unfold dig at h
    rw [Int.ediv_eq_zero_of_lt h0 this] at h
    simp at h
  · exact g
end Go.Proofs.YthmkfkmcamjnoaaDoor
