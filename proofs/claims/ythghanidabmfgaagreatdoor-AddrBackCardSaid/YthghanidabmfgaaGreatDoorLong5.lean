/-
  Plain lemmas: how long a notation is at most; what stands in one; great letters.
-/
import Derived.Test.YthghanidabmfgaaGreatDoorAddrs2
namespace Go.Proofs.YthghanidabmfgaaGreatDoor
open Go.Lib
theorem join_bound1 (c : UInt8) (ws : List (List UInt8)) (m : Nat) (hne : ws ≠ []) (h : ∀ w ∈ ws, w.length ≤ m) : (joinC c ws).length + 1 ≤ (m + 1) * ws.length := by
  induction ws with
  | nil => exact absurd rfl hne
  | cons a r ih =>
    have ha := h a List.mem_cons_self
    cases r with
    | nil => simp [joinC]; omega
    | cons b r =>
      have i := ih (by simp) fun w m => h w (List.mem_cons_of_mem _ m)
      rw [joinC_cons _ _ (by simp), List.length_append, List.length_cons, List.length_cons, Nat.mul_succ]
      omega
theorem join_last (c : UInt8) (ws : List (List UInt8)) (w : List UInt8) : (joinC c (ws ++ [w])).length = (if ws = [] then 0 else (joinC c ws).length + 1) + w.length := by
  induction ws with
  | nil => simp [joinC]
  | cons a r ih =>
    rw [if_neg (by simp), List.cons_append, joinC_cons _ _ (by simp), List.length_append, List.length_cons, ih]
    cases r with
    | nil => simp [joinC]; omega
    | cons b r =>
      rw [if_neg (show ¬ (b :: r) = [] by simp), joinC_cons c a (show (b :: r) ≠ [] by simp), List.length_append, List.length_cons]; omega
theorem itoa_len3 {n : Int} (h : Byte n) : (itoa n).length ≤ 3 := by
  unfold Byte at h
  unfold itoa
  rw [if_neg (by omega), decDigits_length]
  exact nDigits_le 3 _ (by omega) (by decide)
theorem p4_len {l : List UInt8} {b : List Int} (h : p4 l = some b) : l.length ≤ 15 := by
  obtain ⟨hl, hb, rfl⟩ := p4_some h
  have := join_bound1 46 (b.map itoa) 3 (map_ne (by omega)) fun w hw => by
    obtain ⟨n, hn, rfl⟩ := List.mem_map.1 hw
    exact itoa_len3 (hb n hn)
  rw [List.length_map, hl] at this
  unfold t4; omega
theorem hexO_len {l : List UInt8} {n : Nat} (h : hexO l = some n) : l.length ≤ 4 := by
  unfold hexO at h
  split at h
  · rename_i c; exact c.2.1
  · cases h
theorem all_len {ws : List (List UInt8)} {x : List Nat} (h : optAll hexO ws = some x) : ∀ w ∈ ws, w.length ≤ 4 := fun w hw => by
  obtain ⟨n, _, e⟩ := optAll_mem h hw; exact hexO_len e
theorem unl_length {l : List UInt8} {x : List Nat} (h : unl l = some x) : l.length ≤ 5 * x.length := by
  unfold unl at h
  split at h
  · rename_i e; subst e; simp
  · have := join_bound1 58 (words 58 l) 4 (words_ne _ _) (all_len h)
    rw [join_words, ← optAll_length h] at this
    omega
theorem last_cases (ws : List (List UInt8)) (hne : ws ≠ []) : ∃ us w, ws = us ++ [w] := ⟨ws.dropLast, ws.getLast hne, (List.dropLast_concat_getLast hne).symm⟩
theorem pair_len {b : List Int} (h : b.length = 4) : (pair b).length = 2 := by
  match b, h with
  | [a, b, c, d], _ => rfl
theorem tail_length {l : List UInt8} {y : List Nat} (h : tailG (words 58 l) = some y) : l.length ≤ 5 * y.length + 5 := by
  obtain ⟨us, w, e⟩ := last_cases _ (words_ne 58 l)
  rw [e] at h
  have el := join_words 58 l
  rw [e] at el
  cases hp : p4 w with
  | none =>
    rw [tail_plain (fun v hv => by simp at hv; rw [← hv]; exact hp)] at h
    have := join_bound1 58 (us ++ [w]) 4 (by simp) (all_len h)
    rw [el, ← optAll_length h] at this
    omega
  | some b =>
    rw [tail_dots hp] at h
    have hw := p4_len hp
    cases hu : optAll hexO us with
    | none => rw [hu] at h; cases h
    | some x =>
      rw [hu] at h
      cases h
      have k := join_last 58 us w
      rw [el] at k
      rw [List.length_append, pair_len (p4_some hp).1, optAll_length hu]
      by_cases c : us = []
      · rw [if_pos c] at k; omega
      · rw [if_neg c] at k
        have := join_bound1 58 us 4 c (all_len hu)
        omega
theorem p6_length {l : List UInt8} {g : List Nat} (h : p6 l = some g) : l.length ≤ 45 := by
  unfold p6 at h
  cases hc : cut2 l with
  | none =>
    rw [hc] at h
    dsimp only at h
    cases ht : tailG (words 58 l) with
    | none => rw [ht] at h; cases h
    | some gs =>
      rw [ht] at h
      dsimp only at h
      split at h
      · rename_i c
        have := tail_length ht
        omega
      · cases h
  | some p =>
    obtain ⟨f, b⟩ := p
    rw [hc] at h
    dsimp only at h
    obtain ⟨e, _⟩ := cut2_some hc
    have el := congrArg List.length e
    simp at el
    cases hf : unl f with
    | none => rw [hf] at h; cases h
    | some x =>
      have h1 := unl_length hf
      rw [hf] at h
      by_cases hb : b = []
      · rw [if_pos hb] at h
        dsimp only at h
        subst hb
        split at h
        · rename_i c; simp at c el; omega
        · cases h
      · rw [if_neg hb] at h
        cases ht : tailG (words 58 b) with
        | none => rw [ht] at h; cases h
        | some y =>
          rw [ht] at h
          dsimp only at h
          have h2 := tail_length ht
          split at h
          · rename_i c; omega
          · cases h
theorem parse_long {l : List UInt8} (h : 45 < l.length) : parseA l = none := by
  unfold parseA
  cases h4 : p4 l with
  | some b => have := p4_len h4; omega
  | none =>
    dsimp only
    rw [q6_p6 h4]
    cases h6 : p6 l with
    | none => rfl
    | some g => have := p6_length h6; omega
/-! ### What stands in a notation -/
def okc (c : UInt8) : Prop := isHex c = true ∨ c = 46 ∨ c = 58
theorem dig_hex {c : UInt8} (h : 48 ≤ c.toNat ∧ c.toNat ≤ 57) : isHex c = true := by unfold isHex hvN; rw [if_pos h]; rfl
theorem p4_okc {l : List UInt8} {b : List Int} (h : p4 l = some b) : ∀ c ∈ l, okc c := fun c hc => by
  rcases p4_chars h c hc with e | e
  · exact Or.inr (Or.inl e)
  · exact Or.inl (dig_hex e)
theorem hexO_okc {l : List UInt8} {n : Nat} (h : hexO l = some n) : ∀ c ∈ l, okc c := fun c hc => by
  unfold hexO at h
  split at h
  · rename_i k; exact Or.inl (List.all_eq_true.1 k.2.2 c hc)
  · cases h
theorem words_okc {l : List UInt8} (h : ∀ w ∈ words 58 l, ∀ c ∈ w, okc c) : ∀ c ∈ l, okc c := fun c hc => by
  by_cases e : c = 58
  · exact Or.inr (Or.inr e)
  · obtain ⟨w, hw, hx⟩ := mem_words hc e
    exact h w hw c hx
theorem unl_okc {l : List UInt8} {x : List Nat} (h : unl l = some x) : ∀ c ∈ l, okc c := by
  unfold unl at h
  split at h
  · rename_i e; subst e; intro c hc; cases hc
  · exact words_okc fun w hw => by obtain ⟨n, _, e⟩ := optAll_mem h hw; exact hexO_okc e
theorem tail_okc {l : List UInt8} {y : List Nat} (h : tailG (words 58 l) = some y) : ∀ c ∈ l, okc c := by
  refine words_okc ?_
  obtain ⟨us, w, e⟩ := last_cases _ (words_ne 58 l)
  rw [e] at h ⊢
  cases hp : p4 w with
  | none =>
    rw [tail_plain (fun v hv => by simp at hv; rw [← hv]; exact hp)] at h
    exact fun v hv => by obtain ⟨n, _, e⟩ := optAll_mem h hv; exact hexO_okc e
  | some b =>
    rw [tail_dots hp] at h
    cases hu : optAll hexO us with
    | none => rw [hu] at h; cases h
    | some x =>
      intro v hv
      rcases List.mem_append.1 hv with hv | hv
      · obtain ⟨n, _, e⟩ := optAll_mem hu hv; exact hexO_okc e
      · obtain rfl := List.mem_singleton.1 hv; exact p4_okc hp
theorem parse_okc {l : List UInt8} {a : Bool × List Int} (h : parseA l = some a) : ∀ c ∈ l, okc c := by
  unfold parseA at h
  cases h4 : p4 l with
  | some b => exact p4_okc h4
  | none =>
    rw [h4] at h
    dsimp only at h
    rw [q6_p6 h4] at h
    unfold p6 at h
    cases hc : cut2 l with
    | none =>
      rw [hc] at h
      dsimp only at h
      cases ht : tailG (words 58 l) with
      | none => rw [ht] at h; cases h
      | some gs => exact tail_okc ht
    | some p =>
      obtain ⟨f, b⟩ := p
      rw [hc] at h
      dsimp only at h
      obtain ⟨e, _⟩ := cut2_some hc
      cases hf : unl f with
      | none => rw [hf] at h; cases h
      | some x =>
        have kb : ∀ c ∈ b, okc c := by
          by_cases hb : b = []
          · subst hb; intro c hc; cases hc
          · rw [hf, if_neg hb] at h
            cases ht : tailG (words 58 b) with
            | none => rw [ht] at h; cases h
            | some y => exact tail_okc ht
        intro c hc
        rw [e] at hc
        rcases List.mem_append.1 hc with hc | hc
        · exact unl_okc hf c hc
        · rcases List.mem_cons.1 hc with rfl | hc
          · exact Or.inr (Or.inr rfl)
          · rcases List.mem_cons.1 hc with rfl | hc
            · exact Or.inr (Or.inr rfl)
            · exact kb c hc
end Go.Proofs.YthghanidabmfgaaGreatDoor
