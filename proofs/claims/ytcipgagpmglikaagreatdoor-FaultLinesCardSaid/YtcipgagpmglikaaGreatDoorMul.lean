/-
  math/bits.Mul64, and package wide's Mul and Scale.
-/
import Derived.Test.YtcipgagpmglikaaGreatDoorSig
namespace Go.Proofs.YtcipgagpmglikaaGreatDoor
open Go.RowKit
def Word (x : Int) : Prop := 0 ≤ x ∧ x ≤ 18446744073709551615
theorem mask32 (x : Int) (h : Word x) : bits .and .u64 x 4294967295 = x % 4294967296 := by
  obtain ⟨X, rfl⟩ := Int.eq_ofNat_of_zero_le h.1
  have hb : X < 18446744073709551616 := by have := h.2; omega
  have h1 := bits_and_u64_nat X 4294967295 hb (by omega)
  have e : X &&& 4294967295 = X % 4294967296 := Nat.and_two_pow_sub_one_eq_mod X 32
  rw [e] at h1
  exact h1.trans (by omega)
theorem part_bd {a b : Int} (ha : 0 ≤ a ∧ a ≤ 4294967295) (hb : 0 ≤ b ∧ b ≤ 4294967295) : 0 ≤ a * b ∧ a * b ≤ 18446744065119617025 :=
  ⟨Int.mul_nonneg ha.1 hb.1, Int.mul_le_mul ha.2 hb.2 hb.1 (by decide)⟩
theorem w64 {t : Int} (h : Word t) : IntKind.u64.wrap t = t := by rw [IntKind.wrap_u64]; unfold Word at h; omega
theorem mul_parts (x y : Int) : x * y = x / 4294967296 * (y / 4294967296) * 18446744073709551616 + (x / 4294967296 * (y % 4294967296) + x % 4294967296 * (y / 4294967296)) * 4294967296 + x % 4294967296 * (y % 4294967296) := by
  have h1 : x = x / 4294967296 * 4294967296 + x % 4294967296 := by omega
  have h2 : y = y / 4294967296 * 4294967296 + y % 4294967296 := by omega
  generalize x / 4294967296 = x1 at *
  generalize x % 4294967296 = x0 at *
  generalize y / 4294967296 = y1 at *
  generalize y % 4294967296 = y0 at *
  subst h1 h2
  have e : (x1 * 4294967296 + x0) * (y1 * 4294967296 + y0) = x1 * 4294967296 * (y1 * 4294967296) + x1 * 4294967296 * y0 + (x0 * (y1 * 4294967296) + x0 * y0) := by rw [Int.add_mul, Int.mul_add, Int.mul_add]
  have e1 : x1 * 4294967296 * (y1 * 4294967296) = x1 * y1 * 18446744073709551616 := by rw [Int.mul_assoc, Int.mul_left_comm 4294967296 y1 4294967296, Int.mul_assoc]; rfl
  have e2 : x1 * 4294967296 * y0 = x1 * y0 * 4294967296 := by rw [Int.mul_assoc, Int.mul_comm 4294967296 y0, Int.mul_assoc]
  have e3 : x0 * (y1 * 4294967296) = x0 * y1 * 4294967296 := by rw [Int.mul_assoc]
  rw [e, e1, e2, e3]
  omega
theorem mul_hi (x y : Int) (hx : Word x) (hy : Word y) :
    IntKind.u64.wrap (IntKind.u64.wrap (IntKind.u64.wrap (x / 4294967296 * (y / 4294967296)) + IntKind.u64.wrap (IntKind.u64.wrap (x / 4294967296 * (y % 4294967296)) + IntKind.u64.wrap (x % 4294967296 * (y % 4294967296)) / 4294967296) / 4294967296) +
      IntKind.u64.wrap (bits .and .u64 (IntKind.u64.wrap (IntKind.u64.wrap (x / 4294967296 * (y % 4294967296)) + IntKind.u64.wrap (x % 4294967296 * (y % 4294967296)) / 4294967296)) 4294967295 + IntKind.u64.wrap (x % 4294967296 * (y / 4294967296))) / 4294967296) = hiOf (x * y) := by
  have hm := mul_parts x y
  unfold Word at hx hy
  have ba := part_bd (a := x / 4294967296) (b := y / 4294967296) (by omega) (by omega)
  have bb := part_bd (a := x / 4294967296) (b := y % 4294967296) (by omega) (by omega)
  have bc := part_bd (a := x % 4294967296) (b := y / 4294967296) (by omega) (by omega)
  have bd := part_bd (a := x % 4294967296) (b := y % 4294967296) (by omega) (by omega)
  generalize x / 4294967296 * (y / 4294967296) = a at *
  generalize x / 4294967296 * (y % 4294967296) = b at *
  generalize x % 4294967296 * (y / 4294967296) = c at *
  generalize x % 4294967296 * (y % 4294967296) = d at *
  rw [w64 (t := a) ⟨by omega, by omega⟩, w64 (t := b) ⟨by omega, by omega⟩, w64 (t := c) ⟨by omega, by omega⟩, w64 (t := d) ⟨by omega, by omega⟩]
  rw [w64 (t := b + d / 4294967296) ⟨by omega, by omega⟩, mask32 _ ⟨by omega, by omega⟩]
  rw [w64 (t := a + (b + d / 4294967296) / 4294967296) ⟨by omega, by omega⟩, w64 (t := (b + d / 4294967296) % 4294967296 + c) ⟨by omega, by omega⟩, w64 ⟨by omega, by omega⟩]
  rw [hm]
  unfold hiOf
  omega
theorem ret_pair {k l : IntKind} {a b c d : Int} (h : a = b) (g : c = d) : Ending.returned (.tuple #[.int k a, .int l c]) = .returned (.tuple #[.int k b, .int l d]) := by rw [h, g]
theorem mul_lo (x y : Int) : IntKind.u64.wrap (x * y) = loOf (x * y) := of_lo _
set_option maxHeartbeats 1000000 in
theorem mul64_any (x y : Int) (hx : Word x) (hy : Word y) (w : World) :
    Calls Tryz.prog 71 #[.int .u64 x, .int .u64 y] w fun e w' => e = .returned (.tuple #[.int .u64 (hiOf (x * y)), .int .u64 (loOf (x * y))]) ∧ w' = w := by
  have e1 := mask32 x hx
  have e2 := mask32 y hy
  have Hx := Lib.hid hx
  have Hy := Lib.hid hy
  clear hx hy
  go_enter Tryz.func71, Tryz.ntmps71
  go_wp2
  go_ret2
  exact ⟨ret_pair (mul_hi x y Hx.out Hy.out) (mul_lo x y), rfl⟩
/-- Of of a number of 64 bits. -/
theorem i64_in {n : Int} (h : -9223372036854775808 ≤ n ∧ n ≤ 9223372036854775807) : In n := by unfold In; omega
theorem abs_hi {n : Int} (h : -9223372036854775808 ≤ n ∧ n ≤ 9223372036854775807) : Word (absI n) ∧ loOf (absI n) = absI n := by
  unfold Word loOf absI; split <;> omega
theorem abs_mul (a b : Int) : signed (decide (a < 0) != decide (b < 0)) (absI a * absI b) = sat (a * b) := by
  unfold signed absI
  congr 1
  by_cases ha : a < 0 <;> by_cases hb : b < 0 <;> simp [ha, hb, Int.neg_mul, Int.mul_neg]
theorem nonneg_abs (a : Int) : 0 ≤ absI a := by unfold absI; split <;> omega
end Go.Proofs.YtcipgagpmglikaaGreatDoor
