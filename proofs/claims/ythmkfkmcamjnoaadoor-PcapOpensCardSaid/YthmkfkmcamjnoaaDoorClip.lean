/-
  Package wide's Clip, complement and the statements' own 'ends'.
-/
import Derived.Test.YthmkfkmcamjnoaaDoorSig
namespace Go.Proofs.YthmkfkmcamjnoaaDoor
open Go.RowKit
def clip (x : Int) : Int := if x < -9223372036854775808 then -9223372036854775808 else if 9223372036854775807 < x then 9223372036854775807 else x
def sg64 (x : Int) : Int := IntKind.i64.wrap (loOf x)
theorem sg64_bd (x : Int) : -9223372036854775808 ≤ sg64 x ∧ sg64 x ≤ 9223372036854775807 := by unfold sg64; rw [IntKind.wrap_i64]; omega
theorem clip_same {x : Int} (h : sg64 x = x) : clip x = x := by
  have := sg64_bd x; unfold clip; rw [if_neg (by omega), if_neg (by omega)]
theorem clip_other {x : Int} (hx : In x) (h : ¬ sg64 x = x) : clip x = if neg x then -9223372036854775808 else 9223372036854775807 := by
  unfold sg64 at h; rw [IntKind.wrap_i64] at h; unfold loOf at h; unfold clip neg; unfold In at hx
  simp only [decide_eq_true_eq]
  split <;> (try split) <;> (try split) <;> omega
theorem lo_sg (x : Int) : loOf (sg64 x) = loOf x := by unfold sg64; rw [IntKind.wrap_i64]; unfold loOf; omega
theorem ret_i64 {k : IntKind} {a b : Int} (h : a = b) : Ending.returned (.int k a) = .returned (.int k b) := by rw [h]
theorem xor_ones (a : Int) : ((BitVec.ofInt 64 (-1) ^^^ BitVec.ofInt 64 a).toNat : Int) = 18446744073709551615 - a % 18446744073709551616 := by
  have h1 : BitVec.ofInt 64 (-1) = BitVec.allOnes 64 := by decide
  rw [h1, BitVec.allOnes_xor, BitVec.toNat_not, BitVec.toNat_ofInt]
  have e : ((2 ^ 64 : Nat) : Int) = 18446744073709551616 := by decide
  have e2 : (2 : Nat) ^ 64 = 18446744073709551616 := by decide
  rw [e, e2]
  have := Int.emod_nonneg a (show (18446744073709551616 : Int) ≠ 0 by decide)
  have := Int.emod_lt_of_pos a (show (0 : Int) < 18446744073709551616 by decide)
  omega
theorem not_hi {x : Int} (hx : In x) : bits .xor .i64 (-1) (hiOf x) = hiOf (-1 - x) := by
  show IntKind.i64.wrap ((BitVec.ofInt 64 (-1) ^^^ BitVec.ofInt 64 (hiOf x)).toNat : Int) = _
  rw [xor_ones, IntKind.wrap_i64]
  unfold In at hx
  unfold hiOf
  omega
theorem not_lo (x : Int) : bits .xor .u64 IntKind.u64.max (loOf x) = loOf (-1 - x) := by
  show IntKind.u64.wrap ((BitVec.ofInt 64 IntKind.u64.max ^^^ BitVec.ofInt 64 (loOf x)).toNat : Int) = _
  have e : BitVec.ofInt 64 IntKind.u64.max = BitVec.ofInt 64 (-1) := by decide
  rw [e, xor_ones, IntKind.wrap_u64]
  unfold loOf
  omega
set_option maxHeartbeats 1000000 in
/-- The complement of a number is what is left of -1. -/
theorem complement_any (x : Int) (hx : In x) (w : World) :
    Calls Tryd.prog 65 #[.agg #[.int .i64 (hiOf x), .int .u64 (loOf x)]] w fun e w' =>
      e = .returned (.agg #[.int .i64 (hiOf (-1 - x)), .int .u64 (loOf (-1 - x))]) ∧ Below w.heap.size w w' := by
  have e1 := not_hi hx
  have e2 := not_lo x
  go_enter Tryd.func65, Tryd.ntmps65
  go_wp2
  exact bodyPost_ret (v := .agg #[.int .i64 (hiOf (-1 - x)), .int .u64 (loOf (-1 - x))]) (by simp [results, Tryd.results65, go_sem]) rfl (And.intro rfl (by (repeat (first | exact Below.refl _ _ | assumption | (refine Below.drew ?_) | (refine Below.alloc ?_ (by first | (simp; done) | (simp; omega) | omega) _) | (refine Below.setCell ?_ (by first | (simp; done) | (simp; omega) | omega) _) | (refine Below.trans ?_ (Below.mono (by assumption) (by first | (simp; done) | (simp; omega) | omega)))))))
end Go.Proofs.YthmkfkmcamjnoaaDoor
