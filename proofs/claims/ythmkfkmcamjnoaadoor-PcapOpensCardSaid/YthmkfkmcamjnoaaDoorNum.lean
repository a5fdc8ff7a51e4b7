/-
  Plain arithmetic of wide numbers: a number of 128 bits and its two words. No Go in sight.
-/
import Derived.IntWalk
import Derived.RowKit
import Derived.Laws.Bits64
namespace Go.Proofs.YthmkfkmcamjnoaaDoor
open Go.RowKit
def hiOf (x : Int) : Int := x / 18446744073709551616
def loOf (x : Int) : Int := x % 18446744073709551616
def In (x : Int) : Prop := -170141183460469231731687303715884105728 ≤ x ∧ x ≤ 170141183460469231731687303715884105727
def minW : Int := -170141183460469231731687303715884105728
def maxW : Int := 170141183460469231731687303715884105727
def sat (x : Int) : Int := if x < minW then minW else if maxW < x then maxW else x
def neg (x : Int) : Bool := decide (x < 0)
def wrapW (x : Int) : Int := (x + 170141183460469231731687303715884105728) % 340282366920938463463374607431768211456 - 170141183460469231731687303715884105728
/-- What the two package-level bounds hold. -/
def bnd (b : Bool) : Int := if b then minW else maxW
theorem sat_in (x : Int) : In (sat x) := by unfold sat In minW maxW; split <;> (try split) <;> omega
theorem sat_id {x : Int} (h : In x) : sat x = x := by
  unfold In at h; unfold sat minW maxW; rw [if_neg (by omega), if_neg (by omega)]
theorem wrapW_in (x : Int) : In (wrapW x) := by unfold wrapW In; omega
theorem wrapW_id {x : Int} (h : In x) : wrapW x = x := by unfold wrapW; unfold In at h; omega
theorem lo_bd (x : Int) : 0 ≤ loOf x ∧ loOf x ≤ 18446744073709551615 := by unfold loOf; omega
theorem hi_bd {x : Int} (h : In x) : -9223372036854775808 ≤ hiOf x ∧ hiOf x ≤ 9223372036854775807 := by unfold hiOf In at *; omega
theorem hi_neg (x : Int) : decide (hiOf x < 0) = neg x := by unfold hiOf neg; congr 1; exact propext ⟨by omega, by omega⟩
theorem split_eq (x : Int) : hiOf x * 18446744073709551616 + loOf x = x := by unfold hiOf loOf; omega
theorem hiOf_mk {h l : Int} (h1 : 0 ≤ l) (h2 : l ≤ 18446744073709551615) : hiOf (h * 18446744073709551616 + l) = h := by unfold hiOf; omega
theorem loOf_mk {h l : Int} (h1 : 0 ≤ l) (h2 : l ≤ 18446744073709551615) : loOf (h * 18446744073709551616 + l) = l := by unfold loOf; omega
theorem words_inj {x y : Int} (h : hiOf x = hiOf y) (l : loOf x = loOf y) : x = y := by have := split_eq x; have := split_eq y; rw [h, l] at *; omega
/-- Of. -/
theorem of_hi (n : Int) (h : -9223372036854775808 ≤ n ∧ n ≤ 9223372036854775807) : n / 9223372036854775808 = hiOf n := by unfold hiOf; omega
theorem of_lo (n : Int) : IntKind.u64.wrap n = loOf n := by rw [IntKind.wrap_u64]; rfl
/-- A word without its sign, and back. -/
theorem back64 (n : Int) (h : -9223372036854775808 ≤ n ∧ n ≤ 9223372036854775807) : IntKind.i64.wrap (IntKind.u64.wrap n) = n := by rw [IntKind.wrap_u64, IntKind.wrap_i64]; omega
/-- Add, Sub: the words of what goes round. -/
def sumLo (x y c : Int) : Int := (x + y + c) % 18446744073709551616
def sumCy (x y c : Int) : Int := (x + y + c) / 18446744073709551616
def difLo (x y c : Int) : Int := (x - y - c) % 18446744073709551616
def difBr (x y c : Int) : Int := if x < y + c then 1 else 0
theorem sumLo_bd (x y c : Int) : 0 ≤ sumLo x y c ∧ sumLo x y c ≤ 18446744073709551615 := by unfold sumLo; omega
theorem sumCy_bd {x y c : Int} (h : 0 ≤ x ∧ x ≤ 18446744073709551615) (k : 0 ≤ y ∧ y ≤ 18446744073709551615) (l : 0 ≤ c ∧ c ≤ 1) : 0 ≤ sumCy x y c ∧ sumCy x y c ≤ 1 := by unfold sumCy; omega
theorem difLo_bd (x y c : Int) : 0 ≤ difLo x y c ∧ difLo x y c ≤ 18446744073709551615 := by unfold difLo; omega
theorem difBr_bd (x y c : Int) : 0 ≤ difBr x y c ∧ difBr x y c ≤ 1 := by unfold difBr; split <;> omega
theorem u64_bd (n : Int) : 0 ≤ IntKind.u64.wrap n ∧ IntKind.u64.wrap n ≤ 18446744073709551615 := by rw [IntKind.wrap_u64]; omega
theorem add_lo (x y : Int) : sumLo (loOf x) (loOf y) 0 = loOf (wrapW (x + y)) := by unfold sumLo loOf wrapW; omega
theorem add_hi (x y : Int) : IntKind.i64.wrap (sumLo (IntKind.u64.wrap (hiOf x)) (IntKind.u64.wrap (hiOf y)) (sumCy (loOf x) (loOf y) 0)) = hiOf (wrapW (x + y)) := by
  rw [IntKind.wrap_u64, IntKind.wrap_u64, IntKind.wrap_i64]; unfold sumLo sumCy loOf hiOf wrapW; omega
theorem sub_lo (x y : Int) : difLo (loOf x) (loOf y) 0 = loOf (wrapW (x - y)) := by unfold difLo loOf wrapW; omega
theorem sub_hi (x y : Int) : IntKind.i64.wrap (difLo (IntKind.u64.wrap (hiOf x)) (IntKind.u64.wrap (hiOf y)) (difBr (loOf x) (loOf y) 0)) = hiOf (wrapW (x - y)) := by
  rw [IntKind.wrap_u64, IntKind.wrap_u64, IntKind.wrap_i64]; unfold difLo difBr loOf hiOf wrapW; split <;> omega
/-- When Add, Sub saturate. -/
theorem sat_add_yes {x y : Int} (hx : In x) (hy : In y) (h : neg x = neg y) (k : (neg (wrapW (x + y)) != neg x) = true) : sat (x + y) = bnd (neg x) := by
  unfold sat bnd neg wrapW minW maxW In at *
  simp only [decide_eq_decide, bne_iff_ne, ne_eq, decide_eq_true_eq] at *
  split <;> (try split) <;> (try split) <;> omega
theorem sat_add_no {x y : Int} (hx : In x) (hy : In y) (k : neg x = neg y → (neg (wrapW (x + y)) != neg x) = false) : sat (x + y) = wrapW (x + y) := by
  unfold sat neg wrapW minW maxW In at *
  simp only [decide_eq_decide, bne_eq_false_iff_eq] at *
  split <;> (try split) <;> omega
theorem sat_sub_yes {x y : Int} (hx : In x) (hy : In y) (h : neg x ≠ neg y) (k : (neg (wrapW (x - y)) != neg x) = true) : sat (x - y) = bnd (neg x) := by
  unfold sat bnd neg wrapW minW maxW In at *
  simp only [decide_eq_decide, bne_iff_ne, ne_eq, decide_eq_true_eq] at *
  split <;> (try split) <;> (try split) <;> omega
theorem sat_sub_no {x y : Int} (hx : In x) (hy : In y) (k : neg x ≠ neg y → (neg (wrapW (x - y)) != neg x) = false) : sat (x - y) = wrapW (x - y) := by
  unfold sat neg wrapW minW maxW In at *
  simp only [decide_eq_decide, bne_eq_false_iff_eq, ne_eq] at *
  split <;> (try split) <;> omega
theorem neg_false_iff (x : Int) : neg x = false ↔ 0 ≤ x := by unfold neg; simp
theorem neg_true_iff (x : Int) : neg x = true ↔ x < 0 := by unfold neg; simp
theorem bnd_in (b : Bool) : In (bnd b) := by unfold bnd In minW maxW; cases b <;> simp
end Go.Proofs.YthmkfkmcamjnoaaDoor
