/-
  Plain lemmas: a line's words; what one step of a range over a string passes by.
-/
import Derived.Test.YtednmodeoofbgaaDoorHexL
import Derived.Laws.RangeAny
import Derived.Lib.Join
import Derived.Lib.CountLaws
namespace Go.Proofs.YtednmodeoofbgaaDoor
/-- The words that have ended, and the one that has not. -/
def fin (l : List UInt8) : List (List UInt8) × List UInt8 := l.foldl (fun p c => if c = 32 then (p.1 ++ [p.2], []) else (p.1, p.2 ++ [c])) ([], [])
theorem fin_blank (l : List UInt8) : fin (l ++ [32]) = ((fin l).1 ++ [(fin l).2], []) := by simp [fin, List.foldl_append]
theorem fin_seg (l : List UInt8) : ∀ seg : List UInt8, (∀ c ∈ seg, c ≠ 32) → fin (l ++ seg) = ((fin l).1, (fin l).2 ++ seg) := by
  intro seg
  induction seg generalizing l with
  | nil => intro _; simp
  | cons c r ih =>
    intro h
    have e : l ++ c :: r = (l ++ [c]) ++ r := by simp
    rw [e, ih (l ++ [c]) fun x hx => h x (List.mem_cons_of_mem _ hx)]
    have hc := h c List.mem_cons_self
    simp [fin, List.foldl_append, hc]
def fieldsL (l : List UInt8) : List (List UInt8) := if l = [] then [] else (fin l).1 ++ [(fin l).2]
theorem fin_count (l : List UInt8) : (fin l).1.length = l.count 32 := by
  have h : ∀ (l : List UInt8) (p : List (List UInt8) × List UInt8), (l.foldl (fun p c => if c = 32 then (p.1 ++ [p.2], []) else (p.1, p.2 ++ [c])) p).1.length = p.1.length + l.count 32 := by
    intro l
    induction l with
    | nil => intro p; simp
    | cons c r ih =>
      intro p
      rw [List.foldl_cons, ih]
      by_cases e : c = 32
      · subst e; simp; omega
      · rw [if_neg e, List.count_cons_of_ne e]
  rw [fin, h]; simp
/-- The words joined by blanks. -/
def joinB : List (List UInt8) → List UInt8
  | [] => []
  | [a] => a
  | a :: b :: r => a ++ 32 :: joinB (b :: r)
theorem joinB_snoc (ps : List (List UInt8)) (a b : List UInt8) : joinB (ps ++ [a] ++ [b]) = joinB (ps ++ [a]) ++ 32 :: b := by
  induction ps with
  | nil => rfl
  | cons p r ih =>
    cases r with
    | nil => simp [joinB]
    | cons q r => simp [joinB] at ih ⊢; exact ih
theorem joinB_more (ps : List (List UInt8)) (a : List UInt8) (c : List UInt8) : joinB (ps ++ [a ++ c]) = joinB (ps ++ [a]) ++ c := by
  induction ps with
  | nil => rfl
  | cons p r ih =>
    cases r with
    | nil => simp [joinB]
    | cons q r => simp [joinB] at ih ⊢; exact ih
theorem fin_join (l : List UInt8) : joinB ((fin l).1 ++ [(fin l).2]) = l := by
  have h : ∀ (n : Nat) (l : List UInt8), l.length = n → joinB ((fin l).1 ++ [(fin l).2]) = l := by
    intro n
    induction n with
    | zero => intro l hl; obtain rfl := List.length_eq_zero_iff.1 hl; rfl
    | succ n ih =>
      intro l hl
      have hne : l ≠ [] := by rintro rfl; cases hl
      have e := List.dropLast_concat_getLast hne
      have i := ih l.dropLast (by rw [List.length_dropLast]; omega)
      rw [← e]
      by_cases hc : l.getLast hne = 32
      · rw [hc, fin_blank, joinB_snoc, i]
      · rw [fin_seg _ [l.getLast hne] (by intro c h; obtain rfl := List.mem_singleton.1 h; exact hc), joinB_more, i]
  exact h _ l rfl
theorem fields_join (l : List UInt8) : joinB (fieldsL l) = l := by
  unfold fieldsL
  split
  · rename_i h; rw [h]; rfl
  · exact fin_join l
theorem fields_length (l : List UInt8) : (fieldsL l).length ≤ l.count 32 + 1 ∧ ((fieldsL l).length = 0 ↔ l = []) := by
  unfold fieldsL
  split
  · rename_i h; rw [h]; simp
  · rename_i h
    rw [List.length_append, fin_count]
    simp [h]
theorem get_at (s : ByteArray) (p : Nat) (h : p < s.size) : s.get! p = s[p] := by simp [ByteArray.get!, getElem!_pos, h]; rfl
/-- What a step passes by beyond ASCII: bytes beyond ASCII alone. -/
theorem decode_span (s : ByteArray) (pos : Nat) (h : pos < s.size) (ha : 128 ≤ (s[pos]'h).toNat) :
    pos + (Utf8.decode s pos).2 ≤ s.size ∧ ∀ j, j < (Utf8.decode s pos).2 → 128 ≤ (s.get! (pos + j)).toNat := by
  have h0 : (s.get! (pos + 0)).toNat = (s[pos]'h).toNat := by rw [Nat.add_zero, get_at s pos h]
  have hn : ¬ (s.get! (pos + 0)).toNat < 128 := by omega
  simp only [Utf8.decode, hn, if_false]
  have hz : ∀ j, j < 1 → 128 ≤ (s.get! (pos + j)).toNat := fun j hj => by obtain rfl : j = 0 := by omega
                                                                          omega
  (repeat' split) <;> rename_i c <;> simp only [Bool.and_eq_true, decide_eq_true_eq, beq_iff_eq] at *
  all_goals first
    | exact ⟨by omega, hz⟩
    | (refine ⟨by omega, fun j hj => ?_⟩
       rcases (show j = 0 ∨ j = 1 ∨ j = 2 ∨ j = 3 by omega) with rfl | rfl | rfl | rfl <;> omega)
end Go.Proofs.YtednmodeoofbgaaDoor
