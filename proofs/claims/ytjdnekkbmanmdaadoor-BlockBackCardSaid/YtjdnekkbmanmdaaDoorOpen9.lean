/-
  How the rows of the statements of layer 9 read: a block, a section's head.
-/
import Derived.Test.YtjdnekkbmanmdaaDoorOpen7
namespace Go.Proofs.YtjdnekkbmanmdaaDoor
open Go.ChangeShapes Go.WideShapes Go.ChangeAt Go.RowKit
set_option maxRecDepth 100000
section
variable {H : Type} {enc : TypeId × Value → H} {W : World}
theorem nat_of9 {x : Int} {m : Nat} (h : 0 ≤ x ∧ x ≤ m) : ∃ n : Nat, x = n ∧ n ≤ m := ⟨x.toNat, by omega, by omega⟩
/-- An argument that is a block. -/
theorem open_block {b0 : Nat} {v : Value} {d : DataW H} {p : List MemPlace} (hv : Value.okWide Tryd.prog W .any b0 25 v) (h : DataW.Trod enc Tryd.prog W 0 (fun _ => true) true 25 v d p) :
    ∃ (k : Nat) (u : Value) (l : List UInt8), k < 4294967296 ∧ Byt W u l ∧ v = .agg #[.int .u32 k, u] := by
  obtain ⟨c0, c1, z0, z1, m, rfl, _, _, hz0, hz1⟩ := Joins.open_agg2 Tryd.underlying25 (by kernel_rfl) (by kernel_rfl) hv h
  obtain ⟨n0, e0, _, w0⟩ := DataW.trod_int Tryd.underlying22 hz0
  simp at e0
  subst e0
  obtain ⟨y0, rfl, h0⟩ := nat_of9 (m := 4294967295) (wf_u32 w0)
  obtain ⟨l, hl⟩ := byt_of_trod hz1
  exact ⟨y0, c1, l, by omega, hl, rfl⟩
end
end Go.Proofs.YtjdnekkbmanmdaaDoor
