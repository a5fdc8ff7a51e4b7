/-
  slices.Clone and slices.Reverse of bytes.
-/
import Derived.Test.YtjdnekkbmanmdaaDoorOctC
import Derived.Laws.OwnMore
import Derived.RegionTactic
import Derived.ChangeAlike
namespace Go.Proofs.YtjdnekkbmanmdaaDoor
open Go.RowKit Go.Sort
set_option maxRecDepth 8000
/-! ### Clone -/
theorem ownB_empty (w : World) : OwnB w (w.alloc (.cells #[] 5)) [] (.slice (some ⟨w.heap.size, 0, none⟩) 0 0) :=
  ⟨⟨rfl, Or.inr ⟨w.heap.size, 0, #[], rfl, Nat.le_refl _, row_new _ _ rfl, Nat.le_refl _, by simp [maxLen], rfl, rfl⟩⟩, below_alloc _ _⟩
/-! ### Reverse -/
/-- The bytes, when so many from either end have changed places. -/
def turnedTo (l : List UInt8) (i : Nat) : List UInt8 := (List.range l.length).map fun p => if p < i ∨ l.length - i ≤ p then l.getD (l.length - 1 - p) 0 else l.getD p 0
theorem turnedTo_length (l : List UInt8) (i : Nat) : (turnedTo l i).length = l.length := by simp [turnedTo]
theorem getD_at (l : List UInt8) (p : Nat) (h : p < l.length) : l.getD p 0 = l[p] := by simp [List.getD, h]
theorem turnedTo_zero (l : List UInt8) : turnedTo l 0 = l := by
  apply List.ext_getElem
  · exact turnedTo_length l 0
  · intro p h1 h2
    simp only [turnedTo, List.getElem_map, List.getElem_range]
    rw [if_neg (by omega), getD_at _ _ h2]
theorem turnedTo_end (l : List UInt8) (i : Nat) (h : l.length ≤ 2 * i + 1) : turnedTo l i = l.reverse := by
  apply List.ext_getElem
  · rw [turnedTo_length, List.length_reverse]
  · intro p h1 h2
    rw [turnedTo_length] at h1
    simp only [turnedTo, List.getElem_map, List.getElem_range, List.getElem_reverse]
    by_cases e : p < i ∨ l.length - i ≤ p
    · rw [if_pos e, getD_at _ _ (by omega)]
    · rw [if_neg e, getD_at _ _ h1]
      congr 1; omega
theorem turnedTo_get (l : List UInt8) (i p : Nat) (h : p < l.length) : (turnedTo l i)[p]'(by rw [turnedTo_length]; exact h) = if p < i ∨ l.length - i ≤ p then l.getD (l.length - 1 - p) 0 else l.getD p 0 := by
  simp [turnedTo]
theorem turnedTo_step (l : List UInt8) (i j : Nat) (hj : j = l.length - 1 - i) (h : 2 * i + 1 < l.length) (a b : UInt8) (ha : (turnedTo l i)[j]? = some a) (hb : (turnedTo l i)[i]? = some b) :
    ((turnedTo l i).set i a).set j b = turnedTo l (i + 1) := by
  subst hj
  rw [List.getElem?_eq_getElem (by rw [turnedTo_length]; omega), turnedTo_get l i _ (by omega)] at ha hb
  simp only [Option.some.injEq] at ha hb
  rw [if_neg (by omega)] at ha hb
  apply List.ext_getElem
  · simp [turnedTo_length]
  · intro p h1 h2
    rw [turnedTo_length] at h2
    rw [List.getElem_set, List.getElem_set, turnedTo_get l (i + 1) p h2, turnedTo_get l i p h2]
    by_cases e1 : l.length - 1 - i = p
    · rw [if_pos e1, if_pos (by omega), ← hb]
      congr 1; omega
    · rw [if_neg e1]
      by_cases e2 : i = p
      · rw [if_pos e2, if_pos (by omega), ← ha]
        congr 1; omega
      · rw [if_neg e2]
        by_cases e3 : p < i ∨ l.length - i ≤ p
        · rw [if_pos e3, if_pos (by omega)]
        · rw [if_neg e3, if_neg (by omega)]
theorem OwnB.cell {W w : World} {L : List UInt8} {g n c : Nat} (h : OwnB W w L (.slice (some ⟨g, 0, none⟩) n c)) {j : Nat} (hj : j < L.length) : w.cell? ⟨g, j, none⟩ = some (.int .u8 (L[j]).toNat) := by
  obtain ⟨a, c', e, _, h⟩ := Own.row h
  injection e with e1 _ _
  rcases h with h | ⟨g', e, _, _, hx⟩
  · cases L with
    | nil => simp at hj
    | cons _ _ => simp [cellsOf] at h
  · rw [← e1] at e
    cases e
    exact hx j _ (by simp [cellsOf, hj])
theorem OwnB.put {W w : World} {L : List UInt8} {g n c : Nat} (h : OwnB W w L (.slice (some ⟨g, 0, none⟩) n c)) (i : Nat) (b : UInt8) : OwnB W (w.setCell ⟨g, i, none⟩ (.int .u8 (b.toNat : Int))) (L.set i b) (.slice (some ⟨g, 0, none⟩) n c) := by
  have hn : n = (cellsOf L).length := by
    obtain ⟨a, c', e, _⟩ := Own.row h
    injection e
  obtain ⟨h1, h2⟩ := h
  rw [← hn] at h1
  have st := (h1.stored i (.int .u8 (b.toNat : Int))).1
  have lt := h1.lt g rfl
  refine ⟨?_, h2.setCell (by exact lt.1) _⟩
  have e : cellsOf (L.set i b) = (cellsOf L).set i (.int .u8 (b.toNat : Int)) := by simp [cellsOf]
  rw [e, List.length_set, ← hn]
  exact st
theorem OwnB.free {W w : World} {L : List UInt8} {g n c : Nat} (h : OwnB W w L (.slice (some ⟨g, 0, none⟩) n c)) (j : Nat) : w.frozen? ⟨g, j, none⟩ = false := by
  obtain ⟨⟨_, h | ⟨g', cap, cur, e, _, hg, _⟩⟩, _⟩ := h
  · cases h.1
  · cases e; exact frozen_of_row _ _ _ _ _ hg
theorem OwnB.at {W w : World} {L : List UInt8} {a : Option Addr} {n c : Nat} (h : OwnB W w L (.slice a n c)) (h0 : 0 < L.length) : ∃ g, a = some ⟨g, 0, none⟩ := by
  obtain ⟨a', c', e, _, h⟩ := Own.row h
  injection e with e1 _ _
  rcases h with h | ⟨g, ea, _⟩
  · cases L with
    | nil => simp at h0
    | cons _ _ => simp [cellsOf] at h
  · exact ⟨g, e1.trans ea⟩
def RevOut (W : World) (L : List UInt8) (v : Value) (e : Ending) (w' : World) : Prop := e = .returned (.tuple #[]) ∧ OwnB W w' L v
end Go.Proofs.YtjdnekkbmanmdaaDoor
