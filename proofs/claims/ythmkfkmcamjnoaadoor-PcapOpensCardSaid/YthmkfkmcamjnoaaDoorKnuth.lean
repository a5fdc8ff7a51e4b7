/-
  The arithmetic of a long division by two digits of 32 bits. No Go in sight.
-/
import Derived.Test.YthmkfkmcamjnoaaDoorNum
namespace Go.Proofs.YthmkfkmcamjnoaaDoor
/-- The parts of one digit's search: divisor A * 2^32 + B, dividend U * 2^32 + C. -/
structure KB (A B U C : Int) : Prop where
  a0 : 2147483648 ≤ A
  a1 : A ≤ 4294967295
  b0 : 0 ≤ B
  b1 : B ≤ 4294967295
  c0 : 0 ≤ C
  c1 : C ≤ 4294967295
  u0 : 0 ≤ U
  u1 : U < A * 4294967296 + B
def kq (A B U C : Int) : Int := (U * 4294967296 + C) / (A * 4294967296 + B)
def KInv (A B U C q r : Int) : Prop := q * A + r = U ∧ kq A B U C ≤ q ∧ q ≤ 4294967297 ∧ 0 ≤ q ∧ 0 ≤ r ∧ r ≤ 4294967295
theorem kprod (A B q r U : Int) (h : q * A + r = U) : q * (A * 4294967296 + B) = (U - r) * 4294967296 + q * B := by
  have : q * (A * 4294967296 + B) = q * A * 4294967296 + q * B := by rw [Int.mul_add, Int.mul_assoc]
  rw [this, ← h]; omega
theorem kq_lt {A B U C : Int} (k : KB A B U C) {q : Int} (h : U * 4294967296 + C < q * (A * 4294967296 + B)) : kq A B U C < q := by
  have := k.a0; have := k.b0
  exact Int.ediv_lt_of_lt_mul (by omega) h
theorem kq_ge {A B U C : Int} (k : KB A B U C) {q : Int} (h : q * (A * 4294967296 + B) ≤ U * 4294967296 + C) : q ≤ kq A B U C := by
  have := k.a0; have := k.b0
  exact Int.le_ediv_of_mul_le (by omega) h
theorem kq_bd {A B U C : Int} (k : KB A B U C) : 0 ≤ kq A B U C ∧ kq A B U C ≤ 4294967295 := by
  have a0 := k.a0; have b0 := k.b0; have c0 := k.c0; have c1 := k.c1; have u0 := k.u0; have u1 := k.u1
  refine ⟨kq_ge k (by omega), ?_⟩
  have := kq_lt k (q := 4294967296) (by omega)
  omega
theorem k_big {A B U C q : Int} (k : KB A B U C) (h : 4294967296 ≤ q) : kq A B U C < q := by have := (kq_bd k).2; omega
theorem k_more {A B U C q r : Int} (k : KB A B U C) (i : KInv A B U C q r) (h : 4294967296 * r + C < q * B) : kq A B U C < q := by
  refine kq_lt k ?_
  rw [kprod A B q r U i.1]
  omega
theorem k_done {A B U C q r : Int} (k : KB A B U C) (i : KInv A B U C q r) (h : ¬ 4294967296 * r + C < q * B) : q = kq A B U C := by
  have := kq_ge k (q := q) (by rw [kprod A B q r U i.1]; omega)
  have := i.2.1
  omega
theorem k_next {A B U C q r : Int} (k : KB A B U C) (i : KInv A B U C q r) (h : kq A B U C < q) (h2 : ¬ 4294967296 ≤ r + A) : KInv A B U C (q - 1) (r + A) := by
  obtain ⟨i1, i2, i3, i4, i5, i6⟩ := i
  have := (kq_bd k).1
  have := k.a0
  refine ⟨?_, by omega, by omega, by omega, by omega, by omega⟩
  rw [Int.sub_mul]; omega
theorem k_break {A B U C q r : Int} (k : KB A B U C) (i : KInv A B U C q r) (h : kq A B U C < q) (h2 : 4294967296 ≤ r + A) : q - 1 = kq A B U C := by
  obtain ⟨i1, i2, i3, i4, i5, i6⟩ := i
  have e : (q - 1) * A + (r + A) = U := by rw [Int.sub_mul]; omega
  have b0 := k.b0; have b1 := k.b1; have c0 := k.c0
  have hq : (q - 1) * B ≤ 4294967296 * 4294967295 := Int.mul_le_mul (by omega) b1 b0 (by decide)
  have := kq_ge k (q := q - 1) (by rw [kprod A B (q - 1) (r + A) U e]; omega)
  omega
theorem k_start {A B U C : Int} (k : KB A B U C) : KInv A B U C (U / A) (U - U / A * A) := by
  have a0 := k.a0; have a1 := k.a1; have b0 := k.b0; have b1 := k.b1; have c0 := k.c0; have c1 := k.c1; have u0 := k.u0; have u1 := k.u1
  have hr0 : U / A * A ≤ U := Int.ediv_mul_le U (by omega)
  have hr1 : U < (U / A + 1) * A := Int.lt_ediv_add_one_mul_self U (by omega)
  rw [Int.add_mul, Int.one_mul] at hr1
  have hq0 : 0 ≤ U / A := Int.ediv_nonneg u0 (by omega)
  refine ⟨by omega, ?_, ?_, hq0, by omega, by omega⟩
  · have h1 : kq A B U C * (A * 4294967296 + B) ≤ U * 4294967296 + C := Int.ediv_mul_le _ (by omega)
    have hk := (kq_bd k).1
    have h2 : kq A B U C * (A * 4294967296 + B) = kq A B U C * A * 4294967296 + kq A B U C * B := by rw [Int.mul_add, Int.mul_assoc]
    have h3 : 0 ≤ kq A B U C * B := Int.mul_nonneg hk b0
    rw [h2] at h1
    refine Int.le_ediv_of_mul_le (by omega) ?_
    omega
  · have : U / A < 4294967298 := Int.ediv_lt_of_lt_mul (by omega) (by omega)
    omega
theorem k_prod_bd {A B U C q r : Int} (k : KB A B U C) (i : KInv A B U C q r) : 0 ≤ q * B ∧ q * B ≤ 18446744073709551615 := by
  have b0 := k.b0; have b1 := k.b1
  obtain ⟨i1, i2, i3, i4, i5, i6⟩ := i
  refine ⟨Int.mul_nonneg i4 b0, ?_⟩
  have : q * B ≤ 4294967297 * 4294967295 := Int.mul_le_mul i3 b1 b0 (by decide)
  omega
/-- What is left behind a digit. -/
def kr (A B U C : Int) : Int := U * 4294967296 + C - kq A B U C * (A * 4294967296 + B)
theorem kr_bd {A B U C : Int} (k : KB A B U C) : 0 ≤ kr A B U C ∧ kr A B U C < A * 4294967296 + B := by
  have a0 := k.a0; have b0 := k.b0
  have h1 : kq A B U C * (A * 4294967296 + B) ≤ U * 4294967296 + C := Int.ediv_mul_le _ (by omega)
  have h2 : U * 4294967296 + C < (kq A B U C + 1) * (A * 4294967296 + B) := Int.lt_ediv_add_one_mul_self _ (by omega)
  rw [Int.add_mul, Int.one_mul] at h2
  unfold kr
  omega
theorem wrap_left (X P : Int) (h : 0 ≤ X - P ∧ X - P ≤ 18446744073709551615) (a : Int) (ha : ∃ m, a = X + m * 18446744073709551616) : (a - P % 18446744073709551616) % 18446744073709551616 = X - P := by
  obtain ⟨m, rfl⟩ := ha
  omega
/-- Both digits together. -/
theorem k_two {A B U C D : Int} (k : KB A B U C) (hD : 0 ≤ D ∧ D ≤ 4294967295) :
    (U * 18446744073709551616 + C * 4294967296 + D) / (A * 4294967296 + B) = kq A B U C * 4294967296 + kq A B (kr A B U C) D ∧
    (U * 18446744073709551616 + C * 4294967296 + D) % (A * 4294967296 + B) = kr A B (kr A B U C) D := by
  have a0 := k.a0; have b0 := k.b0
  have r := kr_bd k
  have k2 : KB A B (kr A B U C) D := ⟨k.a0, k.a1, k.b0, k.b1, hD.1, hD.2, r.1, r.2⟩
  have r2 := kr_bd k2
  have e : U * 18446744073709551616 + C * 4294967296 + D = (A * 4294967296 + B) * (kq A B U C * 4294967296 + kq A B (kr A B U C) D) + kr A B (kr A B U C) D := by
    unfold kr
    generalize kq A B (U * 4294967296 + C - kq A B U C * (A * 4294967296 + B)) D = q0
    generalize kq A B U C = q1
    generalize A * 4294967296 + B = Y
    have e1 : Y * (q1 * 4294967296 + q0) = q1 * Y * 4294967296 + q0 * Y := by rw [Int.mul_add, ← Int.mul_assoc, Int.mul_comm Y q1, Int.mul_comm Y q0]
    rw [e1]
    omega
  rw [e]
  refine ⟨?_, ?_⟩
  · rw [Int.add_comm, Int.add_mul_ediv_left _ _ (by omega), Int.ediv_eq_zero_of_lt r2.1 r2.2, Int.zero_add]
  · rw [Int.add_comm, Int.add_mul_emod_self_left, Int.emod_eq_of_lt r2.1 r2.2]
end Go.Proofs.YthmkfkmcamjnoaaDoor
