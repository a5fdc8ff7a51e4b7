/-
  Package wide's Root, bit by bit.
-/
import Derived.Test.YtleccjahkphocaaDoorMul
import Derived.LoopTactic
namespace Go.Proofs.YtleccjahkphocaaDoor
open Go.RowKit
/-- The greatest number whose square is not above x. -/
def IsRoot (x r : Int) : Prop := 0 ≤ r ∧ r ≤ 18446744073709551615 ∧ r * r ≤ x ∧ x < (r + 1) * (r + 1)
theorem sq_lt {a b : Int} (ha : 0 ≤ a) (h : a < b) : (a + 1) * (a + 1) ≤ b * b := Int.mul_le_mul (by omega) (by omega) (by omega) (by omega)
theorem IsRoot.one {x r s : Int} (h : IsRoot x r) (k : IsRoot x s) : r = s := by
  obtain ⟨a, _, b, c⟩ := h
  obtain ⟨d, _, e, f⟩ := k
  rcases Int.lt_trichotomy r s with g | g | g
  · have := sq_lt a g; omega
  · exact g
  · have := sq_lt d g; omega
theorem IsRoot.mono {x y r s : Int} (h : IsRoot x r) (k : IsRoot y s) (hxy : x ≤ y) : r ≤ s := by
  obtain ⟨a, _, b, c⟩ := h
  obtain ⟨d, _, e, f⟩ := k
  rcases Int.lt_or_le s r with g | g
  · have := sq_lt d g; omega
  · exact g
/-- What holds before each bit: P is the bit above, all lower bits are open. -/
def RInv (x P R bt : Int) : Prop := ((P = 1 ∧ bt = 0) ∨ ∃ j : Nat, j ≤ 63 ∧ bt = 2 ^ j ∧ P = 2 ^ (j + 1)) ∧ (∃ m, 0 ≤ m ∧ R = m * P) ∧ R * R ≤ x ∧ x < (R + P) * (R + P) ∧ R + P ≤ 18446744073709551616
theorem rinv_start {x : Int} (hx : In x) (h0 : 0 ≤ x) : RInv x 18446744073709551616 0 9223372036854775808 := by
  refine ⟨.inr ⟨63, by omega, by decide, by decide⟩, ⟨0, by omega, by omega⟩, by omega, ?_, by omega⟩
  unfold In at hx
  have : (0 + 18446744073709551616 : Int) * (0 + 18446744073709551616) = 340282366920938463463374607431768211456 := by decide
  omega
theorem rinv_done {x P R : Int} (h : RInv x P R 0) : IsRoot x R := by
  obtain ⟨a, ⟨m, hm, rfl⟩, c, d, e⟩ := h
  rcases a with ⟨rfl, _⟩ | ⟨j, _, hj, _⟩
  · exact ⟨by omega, by omega, c, d⟩
  · have : (0 : Int) < 2 ^ j := Int.pow_pos (by decide)
    omega
theorem or_bits {m : Int} {j : Nat} (hm : 0 ≤ m) (h : m * 2 ^ (j + 1) + 2 ^ j ≤ 18446744073709551615) : bits .or .u64 (m * 2 ^ (j + 1)) (2 ^ j) = m * 2 ^ (j + 1) + 2 ^ j := by
  obtain ⟨X, rfl⟩ := Int.eq_ofNat_of_zero_le hm
  have e : (X : Int) * 2 ^ (j + 1) = ((X * 2 ^ (j + 1) : Nat) : Int) := by rw [Int.natCast_mul, Int.natCast_pow]; rfl
  have e2 : (2 : Int) ^ j = ((2 ^ j : Nat) : Int) := by rw [Int.natCast_pow]; rfl
  rw [e, e2] at h ⊢
  have h2 := Nat.shiftLeft_add_eq_or_of_lt (b := 2 ^ j) (i := j + 1) (Nat.pow_lt_pow_right (by decide) (by omega)) X
  rw [Nat.shiftLeft_eq] at h2
  have hp : 0 < 2 ^ j := Nat.two_pow_pos j
  generalize X * 2 ^ (j + 1) = A at *
  generalize 2 ^ j = B at *
  have h1 := bits_or_u64_nat A B (by omega) (by omega)
  rw [h1, ← h2]; omega
/-- A round: the bit set or not. -/
theorem rinv_round {x P R bt : Int} (h : RInv x P R bt) (hb : bt ≠ 0) : bits .or .u64 R bt = R + bt ∧ 0 ≤ R ∧ 0 < bt ∧ R + bt ≤ 18446744073709551615 ∧ bt ≤ 9223372036854775808 ∧
    ((R + bt) * (R + bt) ≤ x → RInv x bt (R + bt) (bt / 2)) ∧ (¬ (R + bt) * (R + bt) ≤ x → RInv x bt R (bt / 2)) := by
  obtain ⟨a, ⟨m, hm, rfl⟩, c, d, e⟩ := h
  rcases a with ⟨_, rfl⟩ | ⟨j, hj, rfl, rfl⟩
  · exact absurd rfl hb
  have hp : (2 : Int) ^ (j + 1) = 2 * 2 ^ j := by rw [Int.pow_succ, Int.mul_comm]
  have h0 : (0 : Int) < 2 ^ j := Int.pow_pos (by decide)
  have hm0 : 0 ≤ m * 2 ^ (j + 1) := Int.mul_nonneg hm (by omega)
  have hj63 : (2 : Int) ^ j ≤ 9223372036854775808 := by
    have : (2 : Int) ^ j ≤ 2 ^ 63 := by
      have h := Nat.pow_le_pow_right (show 0 < 2 by decide) hj
      have e1 : (2 : Int) ^ j = ((2 ^ j : Nat) : Int) := by rw [Int.natCast_pow]; rfl
      have e2 : (2 : Int) ^ 63 = ((2 ^ 63 : Nat) : Int) := by rw [Int.natCast_pow]; rfl
      rw [e1, e2]; exact Int.ofNat_le.2 h
    have e3 : (2 : Int) ^ 63 = 9223372036854775808 := by decide
    omega
  refine ⟨or_bits hm (by omega), hm0, h0, by omega, hj63, ?_, ?_⟩
  all_goals
    intro hs
    have hnext : (2 : Int) ^ j = 1 ∧ (2 : Int) ^ j / 2 = 0 ∨ ∃ i : Nat, i ≤ 63 ∧ (2 : Int) ^ j / 2 = 2 ^ i ∧ (2 : Int) ^ j = 2 ^ (i + 1) := by
      cases j with
      | zero => exact .inl ⟨by decide, by decide⟩
      | succ i => exact .inr ⟨i, by omega, by rw [Int.pow_succ]; omega, rfl⟩
  · exact ⟨hnext, ⟨2 * m + 1, by omega, by rw [hp, Int.add_mul, Int.mul_left_comm, Int.one_mul, Int.mul_assoc]⟩, hs, by rw [show m * 2 ^ (j + 1) + 2 ^ j + 2 ^ j = m * 2 ^ (j + 1) + 2 ^ (j + 1) by omega]; exact d, by omega⟩
  · exact ⟨hnext, ⟨2 * m, by omega, by rw [hp, Int.mul_left_comm, Int.mul_assoc]⟩, c, by omega, by omega⟩
theorem le_words (p x : Int) : (p ≤ x ∧ hiOf p < hiOf x) ∨ (p ≤ x ∧ ¬ hiOf p < hiOf x ∧ hiOf p = hiOf x ∧ loOf p ≤ loOf x) ∨
    (¬ p ≤ x ∧ ¬ hiOf p < hiOf x ∧ hiOf p = hiOf x ∧ ¬ loOf p ≤ loOf x) ∨ (¬ p ≤ x ∧ ¬ hiOf p < hiOf x ∧ ¬ hiOf p = hiOf x) := by
  unfold hiOf loOf; omega
set_option maxHeartbeats 1000000 in
theorem root_neg (x : Int) (h : x < 0) (w : World) :
    Calls Tryd.prog 30 #[.agg #[.int .i64 (hiOf x), .int .u64 (loOf x)]] w fun e w' => e = .returned (.int .u64 0) ∧ Below w.heap.size w w' := by
  have H := Lib.hid ((neg_true_iff x).2 h)
  clear h
  go_enter Tryd.func30, Tryd.ntmps30
  go_wp2_with (go_at_call 32; refine (negative_at x _ H.out _).mono ?_; rintro e w' ⟨rfl, cs, rfl⟩)
  go_ret
  exact ⟨rfl, by (repeat (first | exact Below.refl _ _ | assumption | (refine Below.drew ?_) | (refine Below.alloc ?_ (by first | (simp; done) | (simp; omega) | omega) _) | (refine Below.setCell ?_ (by first | (simp; done) | (simp; omega) | omega) _) | (refine Below.trans ?_ (Below.mono (by assumption) (by first | (simp; done) | (simp; omega) | omega)))))⟩
def RootPost (x : Int) (w : World) (e : Ending) (w' : World) : Prop := ∃ r, IsRoot x r ∧ e = .returned (.int .u64 r) ∧ Below w.heap.size w w'
set_option maxHeartbeats 2000000 in
theorem root_any (x : Int) (hx : In x) (h : 0 ≤ x) (w : World) :
    Calls Tryd.prog 30 #[.agg #[.int .i64 (hiOf x), .int .u64 (loOf x)]] w (RootPost x w) := by
  have H := Lib.hid ((neg_false_iff x).2 h)
  have S := Lib.hid (rinv_start hx h)
  have b := hi_bd hx
  have b1 : 0 ≤ hiOf x := by unfold hiOf; omega
  have b2 := b.2
  clear b hx h
  go_enter Tryd.func30, Tryd.ntmps30
  go_wp2_with (go_at_call 32; refine (negative_at x _ H.out _).mono ?_; rintro e w' ⟨rfl, cs, rfl⟩)
  go_loop [3, 4] (fun r b => ∃ P R bt, r = .int .u64 R ∧ b = .int .u64 bt ∧ Hid (RInv x P R bt)) (fun _ b => (intOf b).toNat)
  case atStart => exact ⟨_, _, _, rfl, rfl, S⟩
  case round =>
    obtain ⟨P, R, bt, rfl, rfl, hi⟩ := hrel
    by_cases h0 : bt = 0
    · have D := Lib.hid (rinv_done (by rw [h0] at hi; exact hi.out))
      have k0 : (bt == 0) = true := by simpa using h0
      clear h0
      go_wp2
      go_ret
      exact ⟨R, D.out, rfl, by (repeat (first | exact Below.refl _ _ | assumption | (refine Below.drew ?_) | (refine Below.alloc ?_ (by first | (simp; done) | (simp; omega) | omega) _) | (refine Below.setCell ?_ (by first | (simp; done) | (simp; omega) | omega) _) | (refine Below.trans ?_ (Below.mono (by assumption) (by first | (simp; done) | (simp; omega) | omega)))))⟩
    · obtain ⟨e1, r0, t0, r1, t1, yes, no⟩ := rinv_round hi.out h0
      have Yes := Lib.hid yes
      have No := Lib.hid no
      have k0 : (bt == 0) = false := by simpa using h0
      clear yes no h0
      have M := Lib.hid (fun w => mul64_any (R + bt) (R + bt) ⟨by omega, by omega⟩ ⟨by omega, by omega⟩ w)
      rcases le_words ((R + bt) * (R + bt)) x with ⟨h1, h2⟩ | ⟨h1, h2, h3, h4⟩ | ⟨h1, h2, h3, h4⟩ | ⟨h1, h2, h3⟩
      · have Nx := Lib.hid (Yes.out h1)
        have k1 : decide (hiOf ((R + bt) * (R + bt)) < hiOf x) = true := by simpa using h2
        clear h1 h2
        go_wp2_with (go_at_call 39; refine (M.out _).mono ?_; rintro e w' ⟨rfl, rfl⟩)
        go_round
        case rel => exact ⟨_, _, _, rfl, rfl, Nx⟩
        case measure => simp [intOf]; omega
      · have Nx := Lib.hid (Yes.out h1)
        have k1 : decide (hiOf ((R + bt) * (R + bt)) < hiOf x) = false := by simpa using h2
        have k2 : (hiOf ((R + bt) * (R + bt)) == hiOf x) = true := by simpa using h3
        have k3 : decide (loOf ((R + bt) * (R + bt)) ≤ loOf x) = true := by simpa using h4
        clear h1 h2 h3 h4
        go_wp2_with (go_at_call 39; refine (M.out _).mono ?_; rintro e w' ⟨rfl, rfl⟩)
        go_round
        case rel => exact ⟨_, _, _, rfl, rfl, Nx⟩
        case measure => simp [intOf]; omega
      · have Nx := Lib.hid (No.out h1)
        have k1 : decide (hiOf ((R + bt) * (R + bt)) < hiOf x) = false := by simpa using h2
        have k2 : (hiOf ((R + bt) * (R + bt)) == hiOf x) = true := by simpa using h3
        have k3 : decide (loOf ((R + bt) * (R + bt)) ≤ loOf x) = false := by simpa using h4
        clear h1 h2 h3 h4
        go_wp2_with (go_at_call 39; refine (M.out _).mono ?_; rintro e w' ⟨rfl, rfl⟩)
        go_round
        case rel => exact ⟨_, _, _, rfl, rfl, Nx⟩
        case measure => simp [intOf]; omega
      · have Nx := Lib.hid (No.out h1)
        have k1 : decide (hiOf ((R + bt) * (R + bt)) < hiOf x) = false := by simpa using h2
        have k2 : (hiOf ((R + bt) * (R + bt)) == hiOf x) = false := by simpa using h3
        clear h1 h2 h3
        go_wp2_with (go_at_call 39; refine (M.out _).mono ?_; rintro e w' ⟨rfl, rfl⟩)
        go_round
        case rel => exact ⟨_, _, _, rfl, rfl, Nx⟩
        case measure => simp [intOf]; omega
end Go.Proofs.YtleccjahkphocaaDoor
