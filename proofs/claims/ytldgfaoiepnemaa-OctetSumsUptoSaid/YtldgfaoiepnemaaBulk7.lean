/-
  A slice of slices of bytes that comes in, where what is read is of a bounded bulk.
-/
import Derived.Test.YtldgfaoiepnemaaOpen7
import Derived.JoinedCond
namespace Go.Proofs.Ytldgfaoiepnemaa
open Go.ChangeShapes Go.WideShapes Go.ChangeAt Go.RowKit
set_option maxRecDepth 100000
section
variable {H : Type} {enc : TypeId × Value → H} {W : World}
theorem bulk_one (d : DataW H) : 1 ≤ Rows.uptoBulk d := by
  cases d with
  | lit l => cases l <;> simp [Rows.uptoBulk]
  | nil => simp [Rows.uptoBulk]
  | ptr d => simp [Rows.uptoBulk]
  | slice elems spare => simp [Rows.uptoBulk]
  | agg parts => simp [Rows.uptoBulk]
  | iface t d => simp [Rows.uptoBulk]
  | map entries => simp [Rows.uptoBulk]
  | held h => simp [Rows.uptoBulk]
theorem bulk_lits (k : IntKind) (zs : List Int) : Rows.uptoBulkAll (lits (H := H) k zs) = zs.length := by
  induction zs with
  | nil => rfl
  | cons z r ih =>
    have : lits (H := H) k (z :: r) = .lit (.int k z) :: lits k r := rfl
    rw [this, Rows.uptoBulkAll, ih]
    simp [Rows.uptoBulk]; omega
theorem bulk_row (k : IntKind) (A : Option Addr) (L : Nat) (zs : List Int) (hl : L ≤ zs.length) (hA : A = none → zs.length = 0) : L + 1 ≤ Rows.uptoBulk (Deep.intRow (H := H) k A L zs) := by
  cases A with
  | none => have := hA rfl; have := bulk_one (Deep.intRow (H := H) k none L zs); omega
  | some a =>
    simp only [Deep.intRow, Rows.uptoBulk, bulk_lits, List.length_take, List.length_drop]
    omega
theorem bulk_rows (ds : List (DataW H)) (ls : List (List UInt8)) (hn : ds.length = ls.length) (h : ∀ j (h1 : j < ds.length) (h2 : j < ls.length), ls[j].length + 1 ≤ Rows.uptoBulk ds[j]) : ls.flatten.length + ls.length ≤ Rows.uptoBulkAll ds := by
  induction ls generalizing ds with
  | nil => simp
  | cons l r ih =>
    cases ds with
    | nil => simp at hn
    | cons d e =>
      have h0 := h 0 (by simp) (by simp)
      simp only [List.getElem_cons_zero] at h0
      have := ih e (by simpa using hn) (fun j h1 h2 => by
        have := h (j + 1) (by simp; omega) (by simp; omega)
        simpa using this)
      rw [List.flatten_cons, List.length_append, List.length_cons, Rows.uptoBulkAll]
      omega
/-- An argument that is a slice of slices of bytes. -/
theorem open_byts {b0 : Nat} {v : Value} {d : DataW H} {p : List MemPlace} (hval : Value.okWide Try.prog W .any b0 44 v) (h : DataW.Trod enc Try.prog W 0 (fun _ => true) true 44 v d p) :
    ∃ ls, Byts W v ls ∧ ls.flatten.length + ls.length ≤ Rows.uptoBulk d := by
  obtain ⟨a1, len, cap, rfl⟩ := okWide_slice Try.underlying44 hval
  obtain ⟨fuel, hf⟩ := h
  rcases Deep.open_int_rows Try.underlying44 Try.underlying22 Try.underlying5 (by kernel_rfl) cellsU8 hf with ⟨hcs, hx⟩ | ⟨a, len', cap', A, L, C, Z, hcs, _, hl, hm, hx, hrow⟩
  · simp [Value.cells] at hcs
    obtain ⟨rfl, rfl, rfl⟩ := hcs
    exact ⟨[], ⟨none, 0, rfl, Or.inl rfl⟩, by simp⟩
  · simp [Value.cells] at hcs
    obtain ⟨rfl, rfl, rfl⟩ := hcs
    simp only [Prod.mk.injEq] at hx
    obtain ⟨rfl, -⟩ := hx
    refine ⟨(List.range len).map fun r => bytesOf ((Z r).take (L r)), ⟨some a, cap, by simp, ?_⟩, ?_⟩
    · by_cases h0 : len = 0
      · left; subst h0; rfl
      · right
        have hspot : a.spot = none := by simpa [Addr.add] using World.cell?_spot (hrow 0 (by omega)).1
        obtain ⟨b, off, spot⟩ := a
        simp only at hspot
        subst hspot
        refine ⟨b, off, rfl, World.block_lt_of_cell? W _ (hrow 0 (by omega)).1, fun j hj => ?_⟩
        have hj' : j < len := by simpa using hj
        obtain ⟨c0, h1, h2, h3, h4, h5, h6⟩ := hrow j (by omega)
        rw [addr_add] at c0
        refine ⟨_, c0, ?_⟩
        simp only [List.getElem_map, List.getElem_range]
        have hlen : (bytesOf ((Z j).take (L j))).length = L j := by rw [bytesOf_length, List.length_take]; omega
        refine BytA.byt ?_ hlen.symm h1
        cases hA : A j with
        | none =>
          left
          have := h5 hA
          have : L j = 0 := by omega
          rw [this]; rfl
        | some a' => exact bytA_of (by omega) (fun c hc => (h6 a' hA).2 c (by omega)) h4
    · simp only [Rows.uptoBulk]
      have := bulk_rows ((List.range len).map fun r => Deep.intRow (H := H) .u8 (A r) (L r) (Z r)) ((List.range len).map fun r => bytesOf ((Z r).take (L r))) (by simp) (fun j h1 h2 => by
        simp only [List.getElem_map, List.getElem_range]
        have hj : j < len := by simpa using h1
        obtain ⟨c0, h1, h2, h3, h4, h5, h6⟩ := hrow j (by omega)
        rw [bytesOf_length, List.length_take, Nat.min_eq_left (by omega)]
        exact bulk_row _ _ _ _ (by omega) (fun e => by rw [h3]; exact h5 e))
      omega
end
end Go.Proofs.Ytldgfaoiepnemaa
