/-
  Package octet's Pad, Sum.
-/
import Derived.Test.YtjdnekkbmanmdaaDoorOctA
namespace Go.Proofs.YtjdnekkbmanmdaaDoor
open Go.RowKit Go.Sort
set_option maxRecDepth 8000
/-- A slice of slices that hold these bytes. -/
def Byts (w : World) (v : Value) (ls : List (List UInt8)) : Prop :=
  ∃ a c, v = .slice a ls.length c ∧ (ls = [] ∨ ∃ b o, a = some ⟨b, o, none⟩ ∧ b < w.heap.size ∧ ∀ j (h : j < ls.length), ∃ u, w.cell? ⟨b, o + j, none⟩ = some u ∧ Byt w u ls[j])
theorem Byts.on {w w' : World} {v : Value} {ls : List (List UInt8)} (h : Byts w v ls) (hb : Below w.heap.size w w') : Byts w' v ls := by
  obtain ⟨a, c, e, h⟩ := h
  refine ⟨a, c, e, h.imp id ?_⟩
  rintro ⟨b, o, ea, hl, hc⟩
  refine ⟨b, o, ea, Nat.lt_of_lt_of_le hl hb.size, fun j hj => ?_⟩
  obtain ⟨u, h1, h2⟩ := hc j hj
  exact ⟨u, (hb.cell (by exact hl)).trans h1, h2.on hb⟩
theorem Byts.get {w : World} {a : Option Addr} {n c : Nat} {ls : List (List UInt8)} (h : Byts w (.slice a n c) ls) {k : Nat} (hk : k < ls.length) :
    ∃ b o a' c', a = some ⟨b, o, none⟩ ∧ b < w.heap.size ∧ w.cell? ⟨b, o + k, none⟩ = some (.slice a' ls[k].length c') ∧ ls[k].length ≤ c' ∧ BytA w a' ls[k] := by
  obtain ⟨_, _, e, h⟩ := h
  cases e
  rcases h with rfl | ⟨b, o, ea, hb, hc⟩
  · simp at hk
  · obtain ⟨u, c0, hu⟩ := hc k hk
    obtain ⟨a', c', rfl, h1, h2⟩ := hu.open
    exact ⟨b, o, a', c', ea, hb, c0, h1, h2⟩
theorem Byts.new1 (w : World) {v : Value} {l : List UInt8} (h : Byt w v l) : Byts (w.alloc (.cells #[v] 23)) (.slice (some ⟨w.heap.size, 0, none⟩) 1 1) [l] := by
  refine ⟨_, 1, rfl, Or.inr ⟨_, 0, rfl, by simp, fun j hj => ?_⟩⟩
  obtain rfl : j = 0 := by simp at hj; exact hj
  exact ⟨v, World.cell?_alloc_at _ _ _ _ rfl, h.on (below_alloc _ _)⟩
theorem Byts.new2 (w : World) {v1 v2 : Value} {l1 l2 : List UInt8} (h1 : Byt w v1 l1) (h2 : Byt w v2 l2) : Byts (w.alloc (.cells #[v1, v2] 23)) (.slice (some ⟨w.heap.size, 0, none⟩) 2 2) [l1, l2] := by
  refine ⟨_, 2, rfl, Or.inr ⟨_, 0, rfl, by simp, fun j hj => ?_⟩⟩
  match j, hj with
  | 0, _ => exact ⟨v1, World.cell?_alloc_at _ _ _ _ rfl, h1.on (below_alloc _ _)⟩
  | 1, _ => exact ⟨v2, World.cell?_alloc_at _ _ _ _ rfl, h2.on (below_alloc _ _)⟩
  | j + 2, hj => simp at hj; omega
/-- A slice of numbers of kind k. -/
def Nums (k : IntKind) (w : World) (v : Value) (zs : List Int) : Prop :=
  ∃ a c, v = .slice a zs.length c ∧ (zs = [] ∨ ∃ b o, a = some ⟨b, o, none⟩ ∧ b < w.heap.size ∧ ∀ j (h : j < zs.length), w.cell? ⟨b, o + j, none⟩ = some (.int k zs[j]))
theorem Nums.on {k : IntKind} {w w' : World} {v : Value} {zs : List Int} (h : Nums k w v zs) (hb : Below w.heap.size w w') : Nums k w' v zs := by
  obtain ⟨a, c, e, h⟩ := h
  refine ⟨a, c, e, h.imp id ?_⟩
  rintro ⟨b, o, ea, hl, hc⟩
  exact ⟨b, o, ea, Nat.lt_of_lt_of_le hl hb.size, fun j hj => (hb.cell (by exact hl)).trans (hc j hj)⟩
theorem Nums.get {k : IntKind} {w : World} {a : Option Addr} {n c : Nat} {zs : List Int} (h : Nums k w (.slice a n c) zs) {j : Nat} (hj : j < zs.length) : ∃ b o, a = some ⟨b, o, none⟩ ∧ w.cell? ⟨b, o + j, none⟩ = some (.int k zs[j]) := by
  obtain ⟨_, _, e, h⟩ := h
  cases e
  rcases h with rfl | ⟨b, o, ea, hb, hc⟩
  · simp at hj
  · exact ⟨b, o, ea, hc j hj⟩
theorem flat_take (ls : List (List UInt8)) (k : Nat) (h : k < ls.length) : (ls.take (k + 1)).flatten = (ls.take k).flatten ++ ls[k] := by
  rw [List.take_succ_eq_append_getElem h, List.flatten_append]; simp
theorem flat_le (ls : List (List UInt8)) (k : Nat) (h : k < ls.length) : (ls.take k).flatten.length + ls[k].length ≤ ls.flatten.length := by
  have := flat_take ls k h
  have e : ls.flatten = (ls.take (k + 1)).flatten ++ (ls.drop (k + 1)).flatten := by rw [← List.flatten_append, List.take_append_drop]
  rw [e, this, List.length_append, List.length_append]; omega
theorem and_mask (s : Nat) (h : s < 18446744073709551616) : bits .and .u64 (s : Int) 65535 = ((s % 65536 : Nat) : Int) := by
  rw [← and_low16]; exact u64_and_nat s 65535 h (by omega)
theorem not16 (y : Nat) (h : y ≤ 65535) : bits .xor .u16 IntKind.u16.max (y : Int) = ((65535 - y : Nat) : Int) := by
  rw [← xor16 y h]; exact u16_xor_nat 65535 y (by omega) (by omega)
end Go.Proofs.YtjdnekkbmanmdaaDoor
