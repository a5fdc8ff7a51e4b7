/-
  Package wide's Scale and Half.
-/
import Derived.Test.YtpjmngolnobomaaDoorMul
namespace Go.Proofs.YtpjmngolnobomaaDoor
open Go.RowKit
theorem sign_over (m : Bool) (h l : Int) (hh : 9223372036854775807 < h) (hl : Word l) (a : Addr) (w : World) (hg : Glob w) (ha : w.cell? a = some (.bool m)) (hb0 : a.block < w.heap.size) :
    Calls Tryd.prog 59 #[.int .u64 h, .int .u64 l, .pointer (some a)] w fun e w' =>
      e = .returned (.agg #[.int .i64 (hiOf (bnd m)), .int .u64 (loOf (bnd m))]) ∧ Below w.heap.size w w' := by
  have h1 := hiOf_mk (h := h) hl.1 hl.2
  have h2 := loOf_mk (h := h) hl.1 hl.2
  have := sign_call m (h * 18446744073709551616 + l) (by have := hl.1; omega) a w hg ha hb0
  rw [signed_over (by rw [h1]; exact hh), h1, h2] at this
  exact this
/-- The product in two words, and whether it needs more. -/
theorem scale_fits {v n : Int} (hv : 0 ≤ v ∧ v ≤ 170141183460469231731687303715884105728) (hn : 0 ≤ n ∧ n ≤ 4294967295)
    (h1 : hiOf (hiOf v * n) = 0) (h2 : sumCy (loOf (hiOf v * n)) (hiOf (loOf v * n)) 0 = 0) :
    sumLo (loOf (hiOf v * n)) (hiOf (loOf v * n)) 0 = hiOf (v * n) ∧ loOf (loOf v * n) = loOf (v * n) := by
  have e : v * n = hiOf v * n * 18446744073709551616 + loOf v * n := by
    have := split_eq v
    have k : (hiOf v * 18446744073709551616 + loOf v) * n = hiOf v * n * 18446744073709551616 + loOf v * n := by rw [Int.add_mul, Int.mul_assoc, Int.mul_comm 18446744073709551616 n, Int.mul_assoc]
    rw [this] at k; exact k
  rw [e]
  have p0 : 0 ≤ hiOf v * n := Int.mul_nonneg (by unfold hiOf; omega) hn.1
  have p1 : 0 ≤ loOf v * n := Int.mul_nonneg (by unfold loOf; omega) hn.1
  generalize hiOf v * n = a at *
  generalize loOf v * n = b at *
  unfold hiOf loOf sumLo sumCy at *
  omega
theorem scale_over {v n : Int} (hv : 0 ≤ v ∧ v ≤ 170141183460469231731687303715884105728) (hn : 0 ≤ n ∧ n ≤ 4294967295) (m : Bool)
    (h : hiOf (hiOf v * n) ≠ 0 ∨ sumCy (loOf (hiOf v * n)) (hiOf (loOf v * n)) 0 ≠ 0) : signed m (v * n) = bnd m := by
  have e : v * n = hiOf v * n * 18446744073709551616 + loOf v * n := by
    have := split_eq v
    have k : (hiOf v * 18446744073709551616 + loOf v) * n = hiOf v * n * 18446744073709551616 + loOf v * n := by rw [Int.add_mul, Int.mul_assoc, Int.mul_comm 18446744073709551616 n, Int.mul_assoc]
    rw [this] at k; exact k
  refine signed_over ?_
  rw [e]
  have p0 : 0 ≤ hiOf v * n := Int.mul_nonneg (by unfold hiOf; omega) hn.1
  have p1 : 0 ≤ loOf v * n := Int.mul_nonneg (by unfold loOf; omega) hn.1
  generalize hiOf v * n = a at *
  generalize loOf v * n = b at *
  unfold hiOf loOf sumCy at *
  omega
theorem scale_sat (x n : Int) : signed (neg x) (absI x * n) = sat (x * n) := by
  unfold signed neg absI
  congr 1
  by_cases h : x < 0 <;> simp [h, Int.neg_mul]
theorem hi_word {v : Int} (hv : 0 ≤ v ∧ v ≤ 170141183460469231731687303715884105728) : Word (hiOf v) := by unfold Word hiOf; omega
theorem lo_word (v : Int) : Word (loOf v) := lo_bd v
/-- Half. -/
theorem half_hi (x : Int) : hiOf x / 2 = hiOf (x / 2) := by unfold hiOf; omega
theorem or_top (a b : Nat) (ha : a < 9223372036854775808) : a ||| (b * 9223372036854775808) = a + b * 9223372036854775808 := by
  have h := Nat.shiftLeft_add_eq_or_of_lt (b := a) (i := 63) (by simpa using ha) b
  rw [Nat.shiftLeft_eq] at h
  rw [Nat.or_comm]
  have e : (2 : Nat) ^ 63 = 9223372036854775808 := by decide
  rw [e] at h
  omega
theorem half_lo (x : Int) : bits .or .u64 (loOf x / 2) (IntKind.u64.wrap (IntKind.u64.wrap (hiOf x) * 9223372036854775808)) = loOf (x / 2) := by
  have hA : 0 ≤ loOf x / 2 ∧ loOf x / 2 < 9223372036854775808 := by unfold loOf; omega
  have hB : IntKind.u64.wrap (IntKind.u64.wrap (hiOf x) * 9223372036854775808) = (hiOf x % 2) * 9223372036854775808 := by rw [IntKind.wrap_u64, IntKind.wrap_u64]; omega
  have hC : loOf (x / 2) = loOf x / 2 + (hiOf x % 2) * 9223372036854775808 := by unfold loOf hiOf; omega
  rw [hB, hC]
  obtain ⟨A, hA'⟩ := Int.eq_ofNat_of_zero_le hA.1
  obtain ⟨B, hB'⟩ := Int.eq_ofNat_of_zero_le (show 0 ≤ hiOf x % 2 by omega)
  have hb : B ≤ 1 := by omega
  rw [hA', hB']
  have h := bits_or_u64_nat A (B * 9223372036854775808) (by omega) (by omega)
  rw [or_top A B (by omega)] at h
  have e : ((B : Int) * 9223372036854775808) = ((B * 9223372036854775808 : Nat) : Int) := by omega
  rw [e, h]
  omega
set_option maxHeartbeats 1000000 in
theorem half_any (x : Int) (w : World) :
    Calls Tryd.prog 42 #[.agg #[.int .i64 (hiOf x), .int .u64 (loOf x)]] w fun e w' =>
      e = .returned (.agg #[.int .i64 (hiOf (x / 2)), .int .u64 (loOf (x / 2))]) ∧ Below w.heap.size w w' := by
  have e1 := half_hi x
  have e2 := half_lo x
  go_enter Tryd.func42, Tryd.ntmps42
  go_wp2
  exact bodyPost_ret (v := .agg #[.int .i64 (hiOf (x / 2)), .int .u64 (loOf (x / 2))]) (by simp [results, Tryd.results42, go_sem]) rfl (And.intro rfl (by (repeat (first | exact Below.refl _ _ | assumption | (refine Below.drew ?_) | (refine Below.alloc ?_ (by first | (simp; done) | (simp; omega) | omega) _) | (refine Below.setCell ?_ (by first | (simp; done) | (simp; omega) | omega) _) | (refine Below.trans ?_ (Below.mono (by assumption) (by first | (simp; done) | (simp; omega) | omega)))))))
end Go.Proofs.YtpjmngolnobomaaDoor
