/-
  A piece of a slice of bytes, told for all worlds.
-/
import Derived.Test.YtjdnekkbmanmdaaOctA
namespace Go.Proofs.Ytjdnekkbmanmdaa
open Go.RowKit Go.Sort
set_option maxRecDepth 8000
theorem addr_zero (a : Addr) : a.add 0 = a := by unfold Addr.add; simp
theorem sizeU8 (w : World) : (sizeOf (Try.prog.elem 22)).run Try.prog w = .ok 1 w := by kernel_rfl
theorem run_to (w : World) (a : Option Addr) (n c A : Nat) (h : A ≤ c) : (Instr.slice 22 (.slice a n c) none (some (.int .i64 (A : Int))) none).run Try.prog w = .ok (.slice a A c) w := by
  rw [run_slice_h (P := Try.prog) w 22 a n c Try.underlying22 .i64 A (by omega) (by omega), sizeU8]
  simp only [Result.andThen, sliced, Nat.zero_mul, Int.toNat_natCast, Nat.sub_zero]
  have : a.map (·.add 0) = a := by cases a <;> simp [addr_zero]
  rw [this]; simp
theorem run_from (w : World) (a : Option Addr) (n c A : Nat) (h : A ≤ n) : (Instr.slice 22 (.slice a n c) (some (.int .i64 (A : Int))) none none).run Try.prog w = .ok (.slice (if c = A then a else a.map (·.add A)) (n - A) (c - A)) w := by
  rw [run_slice_l (P := Try.prog) w 22 a n c Try.underlying22 .i64 A (by omega) (by omega), sizeU8]
  simp only [Result.andThen, sliced, Nat.mul_one, Int.toNat_natCast]
theorem run_sub (w : World) (a : Option Addr) (n c at_ many : Nat) (h : at_ + many ≤ c) : (Instr.slice 22 (.slice a n c) (some (.int .i64 (at_ : Int))) (some (.int .i64 ((at_ : Int) + (many : Int)))) none).run Try.prog w = .ok (.slice (if c = at_ then a else a.map (·.add at_)) many (c - at_)) w := by
  rw [run_slice_lh (P := Try.prog) w 22 a n c Try.underlying22 .i64 .i64 at_ (at_ + many) (by omega) (by omega) (by omega)]
  have hs : (sizeOf (Try.prog.elem 22)).run Try.prog w = .ok 1 w := by kernel_rfl
  rw [hs]
  simp only [Result.andThen, sliced]
  rw [show ((at_ : Int) + (many : Int)).toNat = at_ + many by omega, show ((at_ : Nat) : Int).toNat = at_ by omega, Nat.mul_one, Nat.add_sub_cancel_left]
end Go.Proofs.Ytjdnekkbmanmdaa
