/-
  math/bits.Mul64, and package wide's Mul and Scale.
-/
import Derived.Test.YthmkfkmcamjnoaaDoorSig
namespace Go.Proofs.YthmkfkmcamjnoaaDoor
open Go.RowKit
def Word (x : Int) : Prop := 0 ≤ x ∧ x ≤ 18446744073709551615
theorem mask32 (x : Int) (h : Word x) : bits .and .u64 x 4294967295 = x % 4294967296 := by
  obtain ⟨X, rfl⟩ := Int.eq_ofNat_of_zero_le h.1
  have hb : X < 18446744073709551616 := by have := h.2; omega
  have h1 := bits_and_u64_nat X 4294967295 hb (by omega)
  have e : X &&& 4294967295 = X % 4294967296 := Nat.and_two_pow_sub_one_eq_mod X 32
  rw [e] at h1
  exact h1.trans (by omega)
theorem part_bd {a b : Int} (ha : 0 ≤ a ∧ a ≤ 4294967295) (hb : 0 ≤ b ∧ b ≤ 4294967295) : 0 ≤ a * b ∧ a * b ≤ 18446744065119617025 :=
  ⟨Int.mul_nonneg ha.1 hb.1, Int.mul_le_mul ha.2 hb.2 hb.1 (by decide)⟩
theorem w64 {t : Int} (h : Word t) : IntKind.u64.wrap t = t := by rw [IntKind.wrap_u64]; unfold Word at h; omega
theorem mul_parts (x y : Int) : x * y = x / 4294967296 * (y / 4294967296) * 18446744073709551616 + (x / 4294967296 * (y % 4294967296) + x % 4294967296 * (y / 4294967296)) * 4294967296 + x % 4294967296 * (y % 4294967296) := by
  have h1 : x = x / 4294967296 * 4294967296 + x % 4294967296 := by omega
  have h2 : y = y / 4294967296 * 4294967296 + y % 4294967296 := by omega
  generalize x / 4294967296 = x1 at *
  generalize x % 4294967296 = x0 at *
  generalize y / 4294967296 = y1 at *
  generalize y % 4294967296 = y0 at *
  subst h1 h2
  have e : (x1 * 4294967296 + x0) * (y1 * 4294967296 + y0) = x1 * 4294967296 * (y1 * 4294967296) + x1 * 4294967296 * y0 + (x0 * (y1 * 4294967296) + x0 * y0) := by rw [Int.add_mul, Int.mul_add, Int.mul_add]
  have e1 : x1 * 4294967296 * (y1 * 4294967296) = x1 * y1 * 18446744073709551616 := by rw [Int.mul_assoc, Int.mul_left_comm 4294967296 y1 4294967296, Int.mul_assoc]; rfl
  have e2 : x1 * 4294967296 * y0 = x1 * y0 * 4294967296 := by rw [Int.mul_assoc, Int.mul_comm 4294967296 y0, Int.mul_assoc]
  have e3 : x0 * (y1 * 4294967296) = x0 * y1 * 4294967296 := by rw [Int.mul_assoc]
  rw [e, e1, e2, e3]
  omega
theorem mul_hi (x y : Int) (hx : Word x) (hy : Word y) :
    IntKind.u64.wrap (IntKind.u64.wrap (IntKind.u64.wrap (x / 4294967296 * (y / 4294967296)) + IntKind.u64.wrap (IntKind.u64.wrap (x / 4294967296 * (y % 4294967296)) + IntKind.u64.wrap (x % 4294967296 * (y % 4294967296)) / 4294967296) / 4294967296) +
      IntKind.u64.wrap (bits .and .u64 (IntKind.u64.wrap (IntKind.u64.wrap (x / 4294967296 * (y % 4294967296)) + IntKind.u64.wrap (x % 4294967296 * (y % 4294967296)) / 4294967296)) 4294967295 + IntKind.u64.wrap (x % 4294967296 * (y / 4294967296))) / 4294967296) = hiOf (x * y) := by
  have hm := mul_parts x y
  unfold Word at hx hy
  have ba := part_bd (a := x / 4294967296) (b := y / 4294967296) (by omega) (by omega)
  have bb := part_bd (a := x / 4294967296) (b := y % 4294967296) (by omega) (by omega)
  have bc := part_bd (a := x % 4294967296) (b := y / 4294967296) (by omega) (by omega)
  have bd := part_bd (a := x % 4294967296) (b := y % 4294967296) (by omega) (by omega)
  generalize x / 4294967296 * (y / 4294967296) = a at *
  generalize x / 4294967296 * (y % 4294967296) = b at *
  generalize x % 4294967296 * (y / 4294967296) = c at *
  generalize x % 4294967296 * (y % 4294967296) = d at *
  rw [w64 (t := a) ⟨by omega, by omega⟩, w64 (t := b) ⟨by omega, by omega⟩, w64 (t := c) ⟨by omega, by omega⟩, w64 (t := d) ⟨by omega, by omega⟩]
  rw [w64 (t := b + d / 4294967296) ⟨by omega, by omega⟩, mask32 _ ⟨by omega, by omega⟩]
  rw [w64 (t := a + (b + d / 4294967296) / 4294967296) ⟨by omega, by omega⟩, w64 (t := (b + d / 4294967296) % 4294967296 + c) ⟨by omega, by omega⟩, w64 ⟨by omega, by omega⟩]
  rw [hm]
  unfold hiOf
  omega
theorem ret_pair {k l : IntKind} {a b c d : Int} (h : a = b) (g : c = d) : Ending.returned (.tuple #[.int k a, .int l c]) = .returned (.tuple #[.int k b, .int l d]) := by rw [h, g]
theorem mul_lo (x y : Int) : IntKind.u64.wrap (x * y) = loOf (x * y) := of_lo _
set_option maxHeartbeats 1000000 in
theorem mul64_any (x y : Int) (hx : Word x) (hy : Word y) (w : World) :
    Calls Tryd.prog 69 #[.int .u64 x, .int .u64 y] w fun e w' => e = .returned (.tuple #[.int .u64 (hiOf (x * y)), .int .u64 (loOf (x * y))]) ∧ w' = w := by
  have e1 := mask32 x hx
  have e2 := mask32 y hy
  have Hx := Lib.hid hx
  have Hy := Lib.hid hy
  clear hx hy
  go_enter Tryd.func69, Tryd.ntmps69
  go_wp2
  go_ret2
  exact ⟨ret_pair (mul_hi x y Hx.out Hy.out) (mul_lo x y), rfl⟩
/-- Of of a number of 64 bits. -/
theorem i64_in {n : Int} (h : -9223372036854775808 ≤ n ∧ n ≤ 9223372036854775807) : In n := by unfold In; omega
theorem abs_hi {n : Int} (h : -9223372036854775808 ≤ n ∧ n ≤ 9223372036854775807) : Word (absI n) ∧ loOf (absI n) = absI n := by
  unfold Word loOf absI; split <;> omega
theorem abs_mul (a b : Int) : signed (decide (a < 0) != decide (b < 0)) (absI a * absI b) = sat (a * b) := by
  unfold signed absI
  congr 1
  by_cases ha : a < 0 <;> by_cases hb : b < 0 <;> simp [ha, hb, Int.neg_mul, Int.mul_neg]
theorem nonneg_abs (a : Int) : 0 ≤ absI a := by unfold absI; split <;> omega
set_option maxHeartbeats 2000000 in
theorem wmul_any (a b : Int) (ha : -9223372036854775808 ≤ a ∧ a ≤ 9223372036854775807) (hb : -9223372036854775808 ≤ b ∧ b ≤ 9223372036854775807) (w : World) (hg : Glob w) :
    Calls Tryd.prog 47 #[.int .i64 a, .int .i64 b] w fun e w' =>
      e = .returned (.agg #[.int .i64 (hiOf (sat (a * b))), .int .u64 (loOf (sat (a * b)))]) ∧ Below w.heap.size w w' := by
  rw [← abs_mul a b]
  have Ha := Lib.hid ha
  have Hb := Lib.hid hb
  obtain ⟨wa, la⟩ := abs_hi ha
  obtain ⟨wb, lb⟩ := abs_hi hb
  have Wa := Lib.hid wa
  have Wb := Lib.hid wb
  have P := Lib.hid (Int.mul_nonneg (nonneg_abs a) (nonneg_abs b))
  clear ha hb wa wb
  go_enter Tryd.func47, Tryd.ntmps47
  go_wp2_with (first
    | (go_at_call 67; refine (signer_any _ _).mono ?_; rintro e w' ⟨rfl, rfl⟩)
    | (go_at_call_of 61 a; refine (of_any a Ha.out _).mono ?_; rintro e w1 ⟨rfl, hb⟩; (obtain ⟨hc, hf⟩ := bcell hb; have sz := hb.size; simp at sz; have c0 := hc w.heap.size 0 (by first | (simp; done) | (simp; omega) | omega); have c1 := hc w.heap.size 1 (by first | (simp; done) | (simp; omega) | omega); have f0 := hf w.heap.size 0 (by first | (simp; done) | (simp; omega) | omega); have f1 := hf w.heap.size 1 (by first | (simp; done) | (simp; omega) | omega)))
    | (go_at_call_of 61 b; refine (of_any b Hb.out _).mono ?_; rintro e w2 ⟨rfl, hb2⟩; (replace hb := hb.trans (hb2.mono hb.size); clear hb2; try clear sz; try clear c0; try clear c1; try clear f0; try clear f1; try clear hc; try clear hf; (obtain ⟨hc, hf⟩ := bcell hb; have sz := hb.size; simp at sz; have c0 := hc w.heap.size 0 (by first | (simp; done) | (simp; omega) | omega); have c1 := hc w.heap.size 1 (by first | (simp; done) | (simp; omega) | omega); have f0 := hf w.heap.size 0 (by first | (simp; done) | (simp; omega) | omega); have f1 := hf w.heap.size 1 (by first | (simp; done) | (simp; omega) | omega))))
    | (go_at_call_of 68 (hiOf a); refine (magnitude_any a (i64_in Ha.out) _).mono ?_; rintro e w3 ⟨rfl, hb2⟩; (replace hb := hb.trans (hb2.mono hb.size); clear hb2; try clear sz; try clear c0; try clear c1; try clear f0; try clear f1; try clear hc; try clear hf; (obtain ⟨hc, hf⟩ := bcell hb; have sz := hb.size; simp at sz; have c0 := hc w.heap.size 0 (by first | (simp; done) | (simp; omega) | omega); have c1 := hc w.heap.size 1 (by first | (simp; done) | (simp; omega) | omega); have f0 := hf w.heap.size 0 (by first | (simp; done) | (simp; omega) | omega); have f1 := hf w.heap.size 1 (by first | (simp; done) | (simp; omega) | omega))))
    | (go_at_call_of 68 (hiOf b); refine (magnitude_any b (i64_in Hb.out) _).mono ?_; rintro e w4 ⟨rfl, hb2⟩; (replace hb := hb.trans (hb2.mono hb.size); clear hb2; try clear sz; try clear c0; try clear c1; try clear f0; try clear f1; try clear hc; try clear hf; (obtain ⟨hc, hf⟩ := bcell hb; have sz := hb.size; simp at sz; have c0 := hc w.heap.size 0 (by first | (simp; done) | (simp; omega) | omega); have c1 := hc w.heap.size 1 (by first | (simp; done) | (simp; omega) | omega); have f0 := hf w.heap.size 0 (by first | (simp; done) | (simp; omega) | omega); have f1 := hf w.heap.size 1 (by first | (simp; done) | (simp; omega) | omega))))
    | (go_at_call 69; refine (mul64_any _ _ Wa.out Wb.out _).mono ?_; rintro e w' ⟨rfl, rfl⟩))
  have hx := hc (w.heap.size + 1) 0 (by first | (simp; done) | (simp; omega) | omega)
  simp at hx
  refine (sign_call _ _ P.out _ _ ((hg.below (by (repeat (first | exact Below.refl _ _ | assumption | (refine Below.drew ?_) | (refine Below.alloc ?_ (by first | (simp; done) | (simp; omega) | omega) _) | (refine Below.setCell ?_ (by first | (simp; done) | (simp; omega) | omega) _) | (refine Below.trans ?_ (Below.mono (by assumption) (by first | (simp; done) | (simp; omega) | omega))))))).below hb) hx (by have := hb.size; simp at this; simp; omega)).mono ?_
  rintro e w6 ⟨rfl, hb2⟩
  (replace hb := hb.trans (hb2.mono hb.size); clear hb2; try clear sz; try clear c0; try clear c1; try clear f0; try clear f1; try clear hc; try clear hf; (obtain ⟨hc, hf⟩ := bcell hb; have sz := hb.size; simp at sz; have c0 := hc w.heap.size 0 (by first | (simp; done) | (simp; omega) | omega); have c1 := hc w.heap.size 1 (by first | (simp; done) | (simp; omega) | omega); have f0 := hf w.heap.size 0 (by first | (simp; done) | (simp; omega) | omega); have f1 := hf w.heap.size 1 (by first | (simp; done) | (simp; omega) | omega)))
  go_wp2
  exact bodyPost_ret (v := .agg #[.int .i64 (hiOf (signed (!(decide (a < 0) == decide (b < 0))) (absI a * absI b))), .int .u64 (loOf (signed (!(decide (a < 0) == decide (b < 0))) (absI a * absI b)))]) (by simp [results, Tryd.results47, go_sem, c0, c1]) rfl (And.intro rfl (by (repeat (first | exact Below.refl _ _ | assumption | (refine Below.drew ?_) | (refine Below.alloc ?_ (by first | (simp; done) | (simp; omega) | omega) _) | (refine Below.setCell ?_ (by first | (simp; done) | (simp; omega) | omega) _) | (refine Below.trans ?_ (Below.mono (by assumption) (by first | (simp; done) | (simp; omega) | omega)))))))
end Go.Proofs.YthmkfkmcamjnoaaDoor
