/-
  The document's numbers: Mul.
-/
import Derived.Test.YtednmodeoofbgaaDoorRefE
import Derived.Deep.Cut
import Derived.Deep.CutRange
namespace Go.Proofs.YtednmodeoofbgaaDoor
open Go.RowKit
/-- What the first k pieces are worth. -/
def val (f : Nat → Int) : Nat → Int
  | 0 => 0
  | k + 1 => val f k + f k * 65536 ^ k
def cr (f : Nat → Int) (k : Nat) : Int := val f k / 65536 ^ k
theorem val_add (f g : Nat → Int) (k : Nat) : val (fun l => f l + g l) k = val f k + val g k := by
  induction k with
  | zero => rfl
  | succ k ih => unfold val; rw [ih, Int.add_mul]; omega
theorem val_dig (m : Int) (k : Nat) : val (dig m) k = m % 65536 ^ k := by
  induction k with
  | zero => simp [val]
  | succ k ih => unfold val; rw [ih, mod_succ65]; omega
theorem cr_succ (f : Nat → Int) (k : Nat) : cr f (k + 1) = (f k + cr f k) / 65536 := by
  have p := pow_pos65 k
  unfold cr
  rw [pow_succ65, ← Int.ediv_ediv_of_nonneg (by omega)]
  congr 1
  show (val f k + f k * 65536 ^ k) / 65536 ^ k = _
  rw [Int.add_mul_ediv_right _ _ (by omega)]
  omega
theorem val_more (f : Nat → Int) (k d : Nat) : ∃ x, val f (k + d) = val f k + 65536 ^ k * x := by
  induction d with
  | zero => exact ⟨0, by simp⟩
  | succ d ih =>
    obtain ⟨x, hx⟩ := ih
    refine ⟨x + f (k + d) * 65536 ^ d, ?_⟩
    show val f (k + d) + f (k + d) * 65536 ^ (k + d) = _
    rw [hx, Int.pow_add, Int.mul_add, ← Int.mul_assoc, Int.mul_comm (f (k + d)) (65536 ^ k), ← Int.mul_assoc]
    omega
theorem dig_val (f : Nat → Int) {j : Nat} (hj : j < 20) : dig (val f 20) j = (f j + cr f j) % 65536 := by
  have p := pow_pos65 j
  obtain ⟨x, hx⟩ := val_more f (j + 1) (20 - (j + 1))
  rw [show j + 1 + (20 - (j + 1)) = 20 by omega] at hx
  have e : val f 20 = val f j + 65536 ^ j * (f j + 65536 * x) := by
    rw [hx]
    show val f j + f j * 65536 ^ j + _ = _
    rw [pow_succ65, Int.mul_add, Int.mul_comm (f j), Int.mul_assoc]
    omega
  unfold dig
  rw [e, Int.add_mul_ediv_left _ _ (by omega)]
  show (cr f j + _) % _ = _
  omega
theorem top_val (f : Nat → Int) : val f 20 / 65536 ^ 19 = f 19 + cr f 19 := by
  show (val f 19 + f 19 * 65536 ^ 19) / 65536 ^ 19 = _
  rw [Int.add_mul_ediv_right _ _ (by decide)]
  unfold cr; omega
theorem cr_bd {f : Nat → Int} (hf : ∀ l, 0 ≤ f l ∧ f l ≤ 4294901760) (k : Nat) : 0 ≤ cr f k ∧ cr f k ≤ 65535 := by
  induction k with
  | zero => simp [cr, val]
  | succ k ih => rw [cr_succ]; have := hf k; omega
/-- The pieces behind k rounds of the carry. -/
def carF (f : Nat → Int) (k : Nat) : Nat → Int := fun j => if j < k then dig (val f 20) j else if j = k then f k + cr f k else f j
theorem carF_zero (f : Nat → Int) : carF f 0 = f := by
  funext j
  unfold carF
  by_cases h : j = 0
  · subst h; simp [cr, val]
  · simp [h]
theorem carF_step (f : Nat → Int) {k : Nat} (hk : k < 20) :
    upd (upd (carF f k) (k + 1) (f (k + 1) + (f k + cr f k) / 65536)) k ((f k + cr f k) % 65536) = carF f (k + 1) := by
  funext j
  have h1 := dig_val f hk
  have h2 := cr_succ f k
  unfold upd carF
  by_cases a : j = k
  · subst a; simp [h1]
  · by_cases b : j = k + 1
    · subst b; simp [h2]
    · by_cases c : j < k
      · simp [a, b, c, show j < k + 1 by omega]
      · simp [a, b, c, show ¬ j < k + 1 by omega]
theorem carF_end {f : Nat → Int} (h : Sz (val f 20)) : ∀ i, i < 20 → carF f 19 i = dig (val f 20) i := by
  intro i hi
  unfold carF
  by_cases h' : i < 19
  · rw [if_pos h']
  · obtain rfl : i = 19 := by omega
    rw [if_neg (by omega), if_pos rfl, ← top_val]
    have e : val f 20 / 65536 ^ 19 / 65536 = 0 := by rw [← div_succ65]; exact Int.ediv_eq_zero_of_lt h.1 h.2
    have e2 : 0 ≤ val f 20 / 65536 ^ 19 := Int.ediv_nonneg h.1 (by decide)
    unfold dig
    omega
/-- A row's pieces. -/
def rowF (a : Int) (n : Int) (i : Nat) : Nat → Int := fun l => if i ≤ l then a * dig n (l - i) else 0
theorem val_row (a n : Int) (i d : Nat) : val (rowF a n i) (i + d) = a * 65536 ^ i * (n % 65536 ^ d) := by
  induction d with
  | zero =>
    have : ∀ k, k ≤ i → val (rowF a n i) k = 0 := by
      intro k
      induction k with
      | zero => intro _; rfl
      | succ k ih => intro hk; show val _ k + rowF a n i k * _ = 0; rw [ih (by omega), show rowF a n i k = 0 by unfold rowF; rw [if_neg (by omega)]]; simp
    rw [show i + 0 = i from rfl, this i (Nat.le_refl _)]; simp
  | succ d ih =>
    show val (rowF a n i) (i + d) + rowF a n i (i + d) * 65536 ^ (i + d) = _
    rw [ih, show rowF a n i (i + d) = a * dig n d by unfold rowF; rw [if_pos (by omega), show i + d - i = d by omega], mod_succ65, Int.pow_add, Int.mul_add]
    rw [show a * dig n d * (65536 ^ i * 65536 ^ d) = a * 65536 ^ i * (dig n d * 65536 ^ d) by
      rw [Int.mul_assoc, Int.mul_assoc, Int.mul_left_comm (dig n d)]]
    omega
/-- What the rows above i come to. -/
def low (m n : Int) (i : Nat) : Int := m % 65536 ^ i * n
theorem low_sz {m n : Int} (hm : 0 ≤ m) (hn : 0 ≤ n) (h : m * n < 65536 ^ 20) (i : Nat) : Sz (low m n i) := by
  have p := pow_pos65 i
  have a0 := Int.emod_nonneg m (show (65536 : Int) ^ i ≠ 0 by omega)
  have a1 : m % 65536 ^ i ≤ m := by
    have e := Int.ediv_mul_add_emod m (65536 ^ i)
    have := Int.mul_nonneg (Int.ediv_nonneg hm (Int.le_of_lt p)) (Int.le_of_lt p)
    omega
  refine ⟨Int.mul_nonneg a0 hn, ?_⟩
  have := Int.mul_le_mul_of_nonneg_right a1 hn
  unfold low
  omega
theorem low_all {m n : Int} (hm : Sz m) : low m n 20 = m * n := by unfold low; rw [Int.emod_eq_of_lt hm.1 hm.2]
theorem low_succ (m n : Int) (i : Nat) : low m n (i + 1) = low m n i + dig m i * 65536 ^ i * n := by
  unfold low; rw [mod_succ65, Int.add_mul]; omega
def sumF (m n : Int) (i : Nat) : Nat → Int := fun l => dig (low m n i) l + rowF (dig m i) n i l
theorem sum_val {m n : Int} (hm : 0 ≤ m) (hn : 0 ≤ n) (h : m * n < 65536 ^ 20) {i : Nat} (hi : i < 20) : val (sumF m n i) 20 = low m n (i + 1) := by
  have l0 := low_sz hm hn h i
  have l1 := low_sz hm hn h (i + 1)
  unfold sumF
  rw [val_add, val_dig, Int.emod_eq_of_lt l0.1 l0.2, low_succ]
  have e := val_row (dig m i) n i (20 - i)
  rw [show i + (20 - i) = 20 by omega] at e
  rw [e]
  congr 1
  have d := dig_bd m i
  rcases Int.lt_or_eq_of_le d.1 with hd | hd
  · have p := pow_pos65 i
    have q := pow_pos65 (20 - i)
    have hx : 65536 ^ i * n < (65536 : Int) ^ 20 := by
      have h1 : 65536 ^ i * n ≤ dig m i * (65536 ^ i * n) := by
        have := Int.mul_le_mul_of_nonneg_right (show 1 ≤ dig m i by omega) (Int.mul_nonneg (Int.le_of_lt p) hn)
        omega
      have h2 := l1.2
      rw [low_succ, Int.mul_assoc] at h2
      have h3 := l0.1
      omega
    rw [show (20 : Nat) = i + (20 - i) by omega, Int.pow_add] at hx
    rw [Int.emod_eq_of_lt hn (Int.lt_of_mul_lt_mul_left hx (Int.le_of_lt p))]
  · rw [← hd]; simp
theorem prod_bd {x y : Int} (hx : 0 ≤ x ∧ x < 65536) (hy : 0 ≤ y ∧ y < 65536) : 0 ≤ x * y ∧ x * y ≤ 4294836225 := by
  refine ⟨Int.mul_nonneg hx.1 hy.1, ?_⟩
  have := Int.mul_le_mul (show x ≤ 65535 by omega) (show y ≤ 65535 by omega) hy.1 (by omega)
  omega
theorem sum_bd (m n : Int) (i l : Nat) : 0 ≤ sumF m n i l ∧ sumF m n i l ≤ 4294901760 := by
  have := dig_bd (low m n i) l
  have := prod_bd (dig_bd m i) (dig_bd n (l - i))
  unfold sumF rowF
  split <;> omega
/-- The pieces behind j products of the row i. -/
def rowG (m n : Int) (i j : Nat) : Nat → Int := fun l => if l < i + j then sumF m n i l else dig (low m n i) l
theorem rowG_zero (m n : Int) (i : Nat) : rowG m n i 0 = dig (low m n i) := by
  funext l
  unfold rowG sumF rowF
  by_cases h : l < i + 0
  · rw [if_pos h, if_neg (by omega)]; omega
  · rw [if_neg h]
theorem rowG_step (m n : Int) (i j : Nat) : upd (rowG m n i j) (i + j) (dig (low m n i) (i + j) + dig m i * dig n j) = rowG m n i (j + 1) := by
  funext l
  unfold upd rowG
  by_cases a : l = i + j
  · subst a
    rw [if_pos rfl, if_pos (by omega)]
    unfold sumF rowF
    rw [if_pos (by omega), show i + j - i = j by omega]
  · rw [if_neg a]
    by_cases c : l < i + j
    · rw [if_pos c, if_pos (by omega)]
    · rw [if_neg c, if_neg (by omega)]
theorem rowG_end {m n : Int} {i j : Nat} (h : 20 ≤ i + j) (b : Bool) : numC b (rowG m n i j) = numC b (sumF m n i) := by
  apply numC_congr
  intro l hl
  unfold rowG
  rw [if_pos (by omega)]
end Go.Proofs.YtednmodeoofbgaaDoor
