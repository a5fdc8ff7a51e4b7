/-
  Plain lemmas: how the document finds the longest run of noughts, and writes what lies around it.
-/
import Derived.Test.YthghanidabmfgaaGreatDoorPrint6
namespace Go.Proofs.YthghanidabmfgaaGreatDoor
open Go.Lib
/-! ### The longest run -/
def rlen (bs : List Bool) (i : Nat) : Nat := ((bs.drop i).takeWhile id).length
def rstep (bs : List Bool) (p : Nat × Nat) (i : Nat) : Nat × Nat := if p.2 < rlen bs i then (i, rlen bs i) else p
def rrun (bs : List Bool) (k : Nat) : Nat × Nat := (List.range k).foldl (rstep bs) (0, 1)
theorem rrun_succ (bs : List Bool) (k : Nat) : rrun bs (k + 1) = rstep bs (rrun bs k) k := by simp [rrun, List.range_succ]
theorem rrun_all : ∀ a b c d e f g h : Bool, ((zrun [a, b, c, d, e, f, g, h]).2 = (zrun [a, b, c, d, e, f, g, h]).1 ∧ (rrun [a, b, c, d, e, f, g, h] 8).2 = 1) ∨
    ((zrun [a, b, c, d, e, f, g, h]).2 ≠ (zrun [a, b, c, d, e, f, g, h]).1 ∧ 2 ≤ (rrun [a, b, c, d, e, f, g, h] 8).2 ∧ (rrun [a, b, c, d, e, f, g, h] 8).1 = (zrun [a, b, c, d, e, f, g, h]).1 ∧ (rrun [a, b, c, d, e, f, g, h] 8).1 + (rrun [a, b, c, d, e, f, g, h] 8).2 = (zrun [a, b, c, d, e, f, g, h]).2) := by decide +kernel
theorem rrun_ok {bs : List Bool} (hl : bs.length = 8) : ((zrun bs).2 = (zrun bs).1 ∧ (rrun bs 8).2 = 1) ∨ ((zrun bs).2 ≠ (zrun bs).1 ∧ 2 ≤ (rrun bs 8).2 ∧ (rrun bs 8).1 = (zrun bs).1 ∧ (rrun bs 8).1 + (rrun bs 8).2 = (zrun bs).2) := by
  match bs, hl with
  | [a, b, c, d, e, f, g, h], _ => exact rrun_all a b c d e f g h
theorem while_length : ∀ (l : List Bool) (n : Nat), (∀ j, j < n → l[j]? = some true) → l[n]? ≠ some true → (l.takeWhile id).length = n
  | [], 0, _, _ => rfl
  | [], n + 1, h, _ => by have := h 0 (by omega); simp at this
  | true :: r, 0, _, h => by simp at h
  | false :: r, 0, _, _ => by simp
  | false :: r, n + 1, h, _ => by have := h 0 (by omega); simp at this
  | true :: r, n + 1, h, h' => by
    simp [while_length r n (fun j hj => by have := h (j + 1) (by omega); simpa using this) (by simpa using h')]
theorem rlen_is {bs : List Bool} {i n : Nat} (h : ∀ j, j < n → bs[i + j]? = some true) (h' : bs[i + n]? ≠ some true) : rlen bs i = n :=
  while_length _ n (fun j hj => by rw [List.getElem?_drop]; exact h j hj) (by rw [List.getElem?_drop]; exact h')
theorem rlen_le {bs : List Bool} {i : Nat} (hl : bs.length = 8) (hi : i ≤ 8) : i + rlen bs i ≤ 8 := by
  have := (List.takeWhile_sublist (p := id) (l := bs.drop i)).length_le
  unfold rlen; simp at this ⊢; omega
/-! ### The text -/
def J (l : List Nat) : List UInt8 := joinC 58 (l.map hexs)
theorem J_one (n : Nat) : J [n] = hexs n := rfl
theorem J_snoc : ∀ {l : List Nat} (n : Nat), l ≠ [] → J (l ++ [n]) = J l ++ 58 :: hexs n
  | [], _, h => absurd rfl h
  | [a], n, _ => rfl
  | a :: b :: r, n, _ => by
    have i := J_snoc (l := b :: r) n (by simp)
    have e1 : J (a :: b :: r ++ [n]) = hexs a ++ 58 :: J (b :: r ++ [n]) := joinC_cons 58 (hexs a) (ws := (b :: r ++ [n]).map hexs) (by simp)
    have e2 : J (a :: b :: r) = hexs a ++ 58 :: J (b :: r) := joinC_cons 58 (hexs a) (ws := (b :: r).map hexs) (by simp)
    rw [e1, i, e2]
    simp
theorem hexs_last (n : Nat) : ∃ c, (hexs n).getLast? = some c ∧ c ≠ 58 := by
  cases h : (hexs n).getLast? with
  | none => exact absurd (List.getLast?_eq_none_iff.1 h) (hexs_ne n)
  | some c => exact ⟨c, rfl, fun e => hexs_free n 58 (by decide) (e ▸ List.mem_of_getLast? h)⟩
theorem J_last {l : List Nat} (h : l ≠ []) : ∃ c, (J l).getLast? = some c ∧ c ≠ 58 := by
  obtain ⟨m, n, rfl⟩ : ∃ m n, l = m ++ [n] := ⟨l.dropLast, l.getLast h, (List.dropLast_concat_getLast h).symm⟩
  obtain ⟨c, h1, h2⟩ := hexs_last n
  refine ⟨c, ?_, h2⟩
  by_cases hm : m = []
  · subst hm; exact h1
  · rw [J_snoc n hm, List.getLast?_append]
    have : (58 :: hexs n).getLast? = some c := by
      rw [List.getLast?_cons, h1]; rfl
    rw [this]; rfl
/-- What is written ahead of group k; the run goes from s to e (s = e: there is none). -/
def outK (g : List Nat) (s e k : Nat) : List UInt8 := if k ≤ s ∨ e = s then J (g.take k) else J (g.take s) ++ 58 :: 58 :: J ((g.take k).drop e)
theorem outK_zero (g : List Nat) (s e : Nat) : outK g s e 0 = [] := by unfold outK; rw [if_pos (Or.inl (Nat.zero_le _))]; rfl
theorem outK_all {g : List Nat} (hl : g.length = 8) : outK g (zrun (isZ g)).1 (zrun (isZ g)).2 8 = t6 g := by
  have Z := zrun_ok (bs := isZ g) (by simp [isZ, hl])
  unfold outK t6
  have e8 : g.take 8 = g := List.take_of_length_le (by omega)
  by_cases c : (zrun (isZ g)).2 = (zrun (isZ g)).1
  · rw [if_pos (Or.inr c), if_pos c, e8]; rfl
  · have := Z.2.2 c
    rw [if_neg (by omega), if_neg c, e8]; rfl
/-- One more group, behind a text that ends in a group; behind one that doesn't. -/
def addG (x : List UInt8) (n : Nat) : List UInt8 := (if x ≠ [] ∧ x.getLast? ≠ some 58 then x ++ [58] else x) ++ hexs n
theorem outK_low {g : List Nat} {s e k : Nat} (h : k ≤ s ∨ e = s) : outK g s e k = J (g.take k) := if_pos h
theorem outK_high {g : List Nat} {s e k : Nat} (h : ¬ (k ≤ s ∨ e = s)) : outK g s e k = J (g.take s) ++ 58 :: 58 :: J ((g.take k).drop e) := if_neg h
theorem addG_J {l : List Nat} (n : Nat) (x : List UInt8) (hx : x = [] ∨ ∃ y, x = y ++ [58]) : addG (x ++ J l) n = x ++ J (l ++ [n]) := by
  unfold addG
  by_cases h0 : l = []
  · subst h0
    rw [show J [] = [] from rfl, List.append_nil, List.nil_append, J_one]
    rcases hx with rfl | ⟨y, rfl⟩
    · rw [if_neg (fun q => q.1 rfl)]
    · rw [if_neg (fun q => q.2 (by rw [List.getLast?_append]; rfl))]
  · obtain ⟨c, h1, h2⟩ := J_last h0
    have e : (x ++ J l).getLast? = some c := by rw [List.getLast?_append, h1]; rfl
    rw [if_pos ⟨fun q => by rw [q] at e; simp at e, by rw [e]; simpa using h2⟩, J_snoc n h0]; simp
theorem outK_add {g : List Nat} {s e k n : Nat} (hs : s ≤ e) (hn : g[k]? = some n) (h : k < s ∨ e ≤ k) : outK g s e (k + 1) = addG (outK g s e k) n := by
  have hk : k < g.length := (List.getElem?_eq_some_iff.1 hn).1
  have ek : g.take (k + 1) = g.take k ++ [n] := by rw [List.take_add_one, hn]; rfl
  by_cases c : k + 1 ≤ s ∨ e = s
  · rw [outK_low c, outK_low (by omega), ek]
    have := addG_J (l := g.take k) n [] (Or.inl rfl)
    rw [List.nil_append, List.nil_append] at this
    exact this.symm
  · rw [outK_high c, ek, List.drop_append_of_le_length (by simp; omega)]
    have := addG_J (l := (g.take k).drop e) n (J (g.take s) ++ [58, 58]) (Or.inr ⟨J (g.take s) ++ [58], by simp⟩)
    by_cases c2 : k ≤ s ∨ e = s
    · omega
    · rw [outK_high c2]
      simpa using this.symm
theorem outK_start {g : List Nat} {s e : Nat} (hs : s + 2 ≤ e) (hl : s ≤ g.length) : outK g s e (s + 1) = outK g s e s ++ [58, 58] := by
  rw [outK_high (by omega), outK_low (by omega), List.drop_of_length_le (by simp; omega)]; rfl
theorem outK_skip {g : List Nat} {s e k : Nat} (h1 : s < k) (h2 : k < e) : outK g s e (k + 1) = outK g s e k := by
  rw [outK_high (by omega), outK_high (by omega), List.drop_of_length_le (by simp; omega), List.drop_of_length_le (by simp; omega)]
theorem outK_length {g : List Nat} (hg : ∀ n ∈ g, n < 65536) (s e k : Nat) (hk : g.length ≤ 8) : (outK g s e k).length ≤ 90 := by
  have b : ∀ l : List Nat, (∀ n ∈ l, n < 65536) → l.length ≤ 8 → (J l).length ≤ 40 := fun l h1 h2 => by
    have := hexs_bound h1 h2; rwa [str_size] at this
  unfold outK
  split
  · have := b (g.take k) (fun n hn => hg n (List.mem_of_mem_take hn)) (by simp; omega); omega
  · have := b (g.take s) (fun n hn => hg n (List.mem_of_mem_take hn)) (by simp; omega)
    have := b ((g.take k).drop e) (fun n hn => hg n (List.mem_of_mem_take (List.mem_of_mem_drop hn))) (by simp; omega)
    simp; omega
end Go.Proofs.YthghanidabmfgaaGreatDoor
