/-
  How the rows of the statements of layer 9 read: a block, a section's head.
-/
import Derived.Test.YtjdnekkbmanmdaaOpen7
namespace Go.Proofs.Ytjdnekkbmanmdaa
open Go.ChangeShapes Go.WideShapes Go.ChangeAt Go.RowKit
set_option maxRecDepth 100000
section
variable {H : Type} {enc : TypeId × Value → H} {W : World}
theorem nat_of9 {x : Int} {m : Nat} (h : 0 ≤ x ∧ x ≤ m) : ∃ n : Nat, x = n ∧ n ≤ m := ⟨x.toNat, by omega, by omega⟩
/-- An argument that is a block. -/
theorem open_block {b0 : Nat} {v : Value} {d : DataW H} {p : List MemPlace} (hv : Value.okWide Try.prog W .any b0 32 v) (h : DataW.Trod enc Try.prog W 0 (fun _ => true) true 32 v d p) :
    ∃ (k : Nat) (u : Value) (l : List UInt8), k < 4294967296 ∧ Byt W u l ∧ v = .agg #[.int .u32 k, u] := by
  obtain ⟨c0, c1, z0, z1, m, rfl, _, _, hz0, hz1⟩ := Joins.open_agg2 Try.underlying32 (by kernel_rfl) (by kernel_rfl) hv h
  obtain ⟨n0, e0, _, w0⟩ := DataW.trod_int Try.underlying30 hz0
  simp at e0
  subst e0
  obtain ⟨y0, rfl, h0⟩ := nat_of9 (m := 4294967295) (wf_u32 w0)
  obtain ⟨l, hl⟩ := byt_of_trod hz1
  exact ⟨y0, c1, l, by omega, hl, rfl⟩
/-- An argument that is a section's head. -/
theorem open_sec {b0 : Nat} {v : Value} {d : DataW H} {p : List MemPlace} (hv : Value.okWide Try.prog W .any b0 35 v) (h : DataW.Trod enc Try.prog W 0 (fun _ => true) true 35 v d p) :
    ∃ (a b : Nat) (n : Int) (u : Value) (l : List UInt8), (a < 65536 ∧ b < 65536 ∧ -9223372036854775808 ≤ n ∧ n ≤ 9223372036854775807) ∧ Byt W u l ∧ v = .agg #[.int .u16 a, .int .u16 b, .int .i64 n, u] := by
  obtain ⟨c0, c1, c2, c3, z0, z1, z2, z3, m, rfl, _, _, hz0, hz1, hz2, hz3⟩ := Joins.open_agg4 Try.underlying35 (by kernel_rfl) (by kernel_rfl) hv h
  obtain ⟨n0, e0, _, w0⟩ := DataW.trod_int Try.underlying33 hz0
  obtain ⟨n1, e1, _, w1⟩ := DataW.trod_int Try.underlying33 hz1
  obtain ⟨n2, e2, _, w2⟩ := DataW.trod_int Try.underlying2 hz2
  simp at e0 e1 e2
  subst e0 e1 e2
  obtain ⟨y0, rfl, h0⟩ := nat_of9 (m := 65535) (wf_u16 w0)
  obtain ⟨y1, rfl, h1⟩ := nat_of9 (m := 65535) (wf_u16 w1)
  obtain ⟨l, hl⟩ := byt_of_trod hz3
  have q := wf_i64 w2
  exact ⟨y0, y1, n2, c3, l, ⟨by omega, by omega, q.1, q.2⟩, hl, rfl⟩
end
end Go.Proofs.Ytjdnekkbmanmdaa
