/-
  The document's numbers: power; what a bit put in comes to.
-/
import Derived.Test.YthmkfkmcamjnoaaDoorRefZ
namespace Go.Proofs.YthmkfkmcamjnoaaDoor
set_option maxRecDepth 8000
open Go.RowKit Go.Sort
set_option maxHeartbeats 1000000 in
theorem rpower_any (k : Nat) (hk : k < 16) (w : World) :
    Calls Tryd.prog 71 #[.int .i64 k] w fun e w' => e = .returned (.int .u64 (2 ^ k)) ∧ Below w.heap.size w w' := by
  have k0 : (0 : Int) ≤ k := by omega
  have k1 : (k : Int) < 16 := by omega
  go_enter Tryd.func71, Tryd.ntmps71
  go_wp2
  go_loop [3, 4] (fun p i => ∃ j : Nat, j ≤ k ∧ i = .int .i64 j ∧ p = .int .u64 (2 ^ j)) (fun _ i => k - (intOf i).toNat)
  case atStart => exact ⟨0, by omega, rfl, rfl⟩
  case round =>
    obtain ⟨j, hj, rfl, rfl⟩ := hrel
    have p0 : (0 : Int) < 2 ^ j := Int.pow_pos (by decide)
    have p1 : (2 : Int) ^ j ≤ 32768 := by
      have h : (2 : Nat) ^ j ≤ 2 ^ 15 := Nat.pow_le_pow_right (by omega) (by omega)
      have : ((2 ^ j : Nat) : Int) ≤ ((2 ^ 15 : Nat) : Int) := by omega
      simpa using this
    have p2 : (2 : Int) * 2 ^ j = 2 ^ (j + 1) := by rw [Int.pow_succ, Int.mul_comm]
    have P2 := Lib.hid p2
    clear p2
    by_cases hlt : j < k
    · have kl : decide ((j : Int) < k) = true := by simp; omega
      generalize (2 : Int) ^ j = v at *
      go_wp2
      go_round
      case rel => exact ⟨j + 1, by omega, by go_num, by rw [P2.out]⟩
      case measure => simp [intOf]; omega
    · have kl : decide ((j : Int) < k) = false := by simp; omega
      obtain rfl : j = k := by omega
      go_wp2
      go_ret
      exact ⟨rfl, by (repeat (first | exact Below.refl _ _ | assumption | (refine Below.drew ?_) | (refine below_drewN ?_ _) | (refine Below.alloc ?_ (by first | (simp; done) | (simp; omega) | omega) _) | (refine Below.setCell ?_ (by first | (simp; done) | (simp; omega) | omega) _) | (refine Below.trans ?_ (Below.mono (by assumption) (by first | (simp; done) | (simp; omega) | omega)))))⟩
/-- A piece is turned, and no carry comes of it. -/
theorem dig_put (q v : Int) (j : Nat) (h0 : 0 ≤ dig q j + v) (h1 : dig q j + v < 65536) : upd (dig q) j (dig q j + v) = dig (q + v * 65536 ^ j) := by
  have p := pow_pos65 j
  have e0 : (q + v * 65536 ^ j) / 65536 ^ j = q / 65536 ^ j + v := Int.add_mul_ediv_right _ _ (by omega)
  funext i
  unfold upd
  by_cases a : i = j
  · subst a
    rw [if_pos rfl]
    unfold dig at *
    rw [e0]
    omega
  · rw [if_neg a]
    by_cases c : i < j
    · obtain ⟨t, rfl⟩ : ∃ t, j = i + (t + 1) := ⟨j - i - 1, by omega⟩
      have pi := pow_pos65 i
      unfold dig
      rw [Int.pow_add, pow_succ65, show v * (65536 ^ i * (65536 ^ t * 65536)) = (v * 65536 ^ t * 65536) * 65536 ^ i by
        rw [Int.mul_comm (65536 ^ i), ← Int.mul_assoc, ← Int.mul_assoc]]
      rw [Int.add_mul_ediv_right _ _ (by omega)]
      omega
    · obtain ⟨t, rfl⟩ : ∃ t, i = j + 1 + t := ⟨i - j - 1, by omega⟩
      have e1 : (q + v * 65536 ^ j) / 65536 ^ (j + 1) = q / 65536 ^ (j + 1) := by
        rw [div_succ65, div_succ65, e0]
        unfold dig at h0 h1
        omega
      unfold dig
      rw [Int.pow_add, ← Int.ediv_ediv_of_nonneg (by have := pow_pos65 (j + 1); omega), ← Int.ediv_ediv_of_nonneg (by have := pow_pos65 (j + 1); omega), e1]
theorem pow_bit (j r : Nat) : (2 : Int) ^ (16 * j + r) = 2 ^ r * 65536 ^ j := by
  rw [Int.pow_add, Int.pow_mul, Int.mul_comm]; rfl
/-- A piece of a number whose low bits are nought. -/
theorem piece_low {t : Int} {j r : Nat} (hr : r < 16) : dig (2 ^ (16 * j + r + 1) * t) j + 2 ^ r < 65536 ∧ 0 ≤ dig (2 ^ (16 * j + r + 1) * t) j := by
  have p := pow_pos65 j
  have e : (2 ^ (16 * j + r + 1) * t) / 65536 ^ j = 2 ^ (r + 1) * t := by
    rw [show 16 * j + r + 1 = 16 * j + (r + 1) by omega, pow_bit, Int.mul_assoc, Int.mul_comm (65536 ^ j), ← Int.mul_assoc]
    exact Int.mul_ediv_cancel _ (by omega)
  unfold dig
  rw [e]
  refine ⟨?_, by omega⟩
  have : r = 0 ∨ r = 1 ∨ r = 2 ∨ r = 3 ∨ r = 4 ∨ r = 5 ∨ r = 6 ∨ r = 7 ∨ r = 8 ∨ r = 9 ∨ r = 10 ∨ r = 11 ∨ r = 12 ∨ r = 13 ∨ r = 14 ∨ r = 15 := by omega
  rcases this with rfl | rfl | rfl | rfl | rfl | rfl | rfl | rfl | rfl | rfl | rfl | rfl | rfl | rfl | rfl | rfl <;> simp only [Nat.reduceAdd, Int.reducePow] <;> omega
/-- .. whose low bits are all set. -/
theorem piece_high {t : Int} {j r : Nat} (hr : r < 16) : 2 ^ r ≤ dig (2 ^ (16 * j + r + 1) * t - 1) j ∧ dig (2 ^ (16 * j + r + 1) * t - 1) j < 65536 := by
  have p := pow_pos65 j
  have e : (2 ^ (16 * j + r + 1) * t - 1) / 65536 ^ j = 2 ^ (r + 1) * t - 1 := by
    rw [show 16 * j + r + 1 = 16 * j + (r + 1) by omega, pow_bit, Int.mul_assoc, Int.mul_comm (65536 ^ j), ← Int.mul_assoc]
    rw [show 2 ^ (r + 1) * t * 65536 ^ j - 1 = -1 + 2 ^ (r + 1) * t * 65536 ^ j by omega, Int.add_mul_ediv_right _ _ (by omega)]
    have : (-1 : Int) / 65536 ^ j = -1 := by
      have h1 : (-1 : Int) / 65536 ^ j < 0 := Int.ediv_lt_of_lt_mul p (by omega)
      have h2 : -1 ≤ (-1 : Int) / 65536 ^ j := Int.le_ediv_of_mul_le p (by omega)
      omega
    omega
  unfold dig
  rw [e]
  refine ⟨?_, by omega⟩
  have : r = 0 ∨ r = 1 ∨ r = 2 ∨ r = 3 ∨ r = 4 ∨ r = 5 ∨ r = 6 ∨ r = 7 ∨ r = 8 ∨ r = 9 ∨ r = 10 ∨ r = 11 ∨ r = 12 ∨ r = 13 ∨ r = 14 ∨ r = 15 := by omega
  rcases this with rfl | rfl | rfl | rfl | rfl | rfl | rfl | rfl | rfl | rfl | rfl | rfl | rfl | rfl | rfl | rfl <;> simp only [Nat.reduceAdd, Int.reducePow] <;> omega
end Go.Proofs.YthmkfkmcamjnoaaDoor
