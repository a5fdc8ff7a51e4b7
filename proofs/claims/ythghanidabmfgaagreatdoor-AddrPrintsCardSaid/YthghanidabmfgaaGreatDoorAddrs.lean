/-
  Plain lemmas (no model): addresses, their texts and the reading of these.
-/
import Derived.Test.YthghanidabmfgaaGreatDoorWords
namespace Go.Proofs.YthghanidabmfgaaGreatDoor
open Go.Lib
/-! ### IPv4 -/
def Byte (n : Int) : Prop := 0 ≤ n ∧ n ≤ 255
def p4 (l : List UInt8) : Option (List Int) := if (words 46 l).length = 4 then optAll (num? 0 255) (words 46 l) else none
def t4 (b : List Int) : List UInt8 := joinC 46 (b.map itoa)
theorem itoa_digits {n : Int} (h : 0 ≤ n) : ∀ c ∈ itoa n, 48 ≤ c.toNat ∧ c.toNat ≤ 57 := by
  intro c hc
  unfold itoa at hc
  rw [if_neg (by omega)] at hc
  exact dec_all _ c hc
theorem itoa_free {n : Int} (h : 0 ≤ n) {c : UInt8} (hc : c.toNat < 48 ∨ 57 < c.toNat) : c ∉ itoa n := fun m => by have := itoa_digits h c m; omega
theorem nums_words {ws : List (List UInt8)} {b : List Int} {lo hi : Int} (h : optAll (num? lo hi) ws = some b) : ws = b.map itoa ∧ ∀ n ∈ b, lo ≤ n ∧ n ≤ hi := by
  induction ws generalizing b with
  | nil => simp [optAll] at h; subst h; simp
  | cons w r ih =>
    obtain ⟨n, bs, h1, h2, rfl⟩ := optAll_inv h
    obtain ⟨e, hn⟩ := num?_some h1
    obtain ⟨i1, i2⟩ := ih h2
    refine ⟨by rw [e, i1]; rfl, fun m hm => ?_⟩
    rcases List.mem_cons.1 hm with rfl | hm
    · exact hn
    · exact i2 m hm
theorem p4_some {l : List UInt8} {b : List Int} (h : p4 l = some b) : b.length = 4 ∧ (∀ n ∈ b, Byte n) ∧ l = t4 b := by
  unfold p4 at h
  split at h
  · rename_i c
    obtain ⟨e, hb⟩ := nums_words h
    refine ⟨by rw [← optAll_length h] at c; exact c, hb, ?_⟩
    unfold t4
    rw [← e, join_words]
  · cases h
theorem map_ne {α β : Type} {f : α → β} {l : List α} (h : l.length ≠ 0) : l.map f ≠ [] := by
  intro e; exact h (by simpa using congrArg List.length e)
theorem words_t4 {b : List Int} (hl : b.length = 4) (hb : ∀ n ∈ b, Byte n) : words 46 (t4 b) = b.map itoa :=
  words_join (map_ne (by omega)) fun w hw => by
    obtain ⟨n, hn, rfl⟩ := List.mem_map.1 hw
    exact itoa_free (hb n hn).1 (by decide)
theorem p4_t4 {b : List Int} (hl : b.length = 4) (hb : ∀ n ∈ b, Byte n) : p4 (t4 b) = some b := by
  unfold p4
  rw [words_t4 hl hb, if_pos (by simpa using hl)]
  have := optAll_map (f := num? 0 255) itoa id b fun n hn => num?_itoa (hb n hn)
  simpa using this
theorem mem_join {c x : UInt8} {ws : List (List UInt8)} (h : x ∈ joinC c ws) : x = c ∨ ∃ w ∈ ws, x ∈ w := by
  induction ws with
  | nil => cases h
  | cons a r ih =>
    cases r with
    | nil => exact Or.inr ⟨a, List.mem_cons_self, h⟩
    | cons b r =>
      rw [joinC_cons _ _ (by simp)] at h
      rcases List.mem_append.1 h with h | h
      · exact Or.inr ⟨a, List.mem_cons_self, h⟩
      · rcases List.mem_cons.1 h with h | h
        · exact Or.inl h
        · rcases ih h with e | ⟨w, m, k⟩
          · exact Or.inl e
          · exact Or.inr ⟨w, List.mem_cons_of_mem _ m, k⟩
/-- What stands in a text of an IPv4 address. -/
theorem p4_chars {l : List UInt8} {b : List Int} (h : p4 l = some b) : ∀ c ∈ l, c = 46 ∨ (48 ≤ c.toNat ∧ c.toNat ≤ 57) := by
  obtain ⟨_, hb, rfl⟩ := p4_some h
  intro c hc
  rcases mem_join hc with e | ⟨w, hw, hx⟩
  · exact Or.inl e
  · obtain ⟨n, hn, rfl⟩ := List.mem_map.1 hw
    exact Or.inr (itoa_digits (hb n hn).1 c hx)
theorem p4_free {l : List UInt8} {b : List Int} (h : p4 l = some b) : 58 ∉ l ∧ l ≠ [] := by
  refine ⟨fun m => ?_, ?_⟩
  · rcases p4_chars h 58 m with e | e
    · revert e; decide
    · revert e; decide
  · rintro rfl
    have : p4 [] = none := by decide +kernel
    rw [this] at h; cases h
theorem p4_short {l : List UInt8} (h : 46 ∉ l) : p4 l = none := by
  unfold p4
  rw [words_free h]; rfl
/-! ### IPv6 -/
def pair : List Int → List Nat
  | [a, b, c, d] => [(256 * a + b).toNat, (256 * c + d).toNat]
  | _ => []
def tailG : List (List UInt8) → Option (List Nat)
  | [] => some []
  | [w] => match p4 w with
    | some b => some (pair b)
    | none => (hexO w).map fun g => [g]
  | w :: v :: r => match hexO w, tailG (v :: r) with
    | some g, some gs => some (g :: gs)
    | _, _ => none
def unl (l : List UInt8) : Option (List Nat) := if l = [] then some [] else optAll hexO (words 58 l)
def fill8 (x y : List Nat) : List Nat := x ++ (List.replicate (8 - x.length - y.length) 0 ++ y)
def p6 (l : List UInt8) : Option (List Nat) := match cut2 l with
  | none => match tailG (words 58 l) with
    | some gs => if gs.length = 8 then some gs else none
    | none => none
  | some (f, b) => match unl f, (if b = [] then some [] else tailG (words 58 b)) with
    | some x, some y => if x.length + y.length ≤ 7 then some (fill8 x y) else none
    | _, _ => none
/-- .. as the program reads it: its end, if that is an IPv4 address, as two groups. -/
def h4 (a b : Int) : List UInt8 := [hxd (a.toNat / 16), hxd (a.toNat % 16), hxd (b.toNat / 16), hxd (b.toNat % 16)]
def h8 : List Int → List UInt8
  | [a, b, c, d] => h4 a b ++ 58 :: h4 c d
  | _ => []
def lastW (l : List UInt8) : List UInt8 := ((words 58 l).getLast?).getD []
def headW (l : List UInt8) : List UInt8 := l.take (l.length - (lastW l).length)
def und6 (l : List UInt8) : List UInt8 := match p4 (lastW l) with
  | some b => headW l ++ h8 b
  | none => l
def q6 (l : List UInt8) : Option (List Nat) := match cut2 (und6 l) with
  | none => match unl (und6 l) with
    | some gs => if gs.length = 8 then some gs else none
    | none => none
  | some (f, b) => match unl f, unl b with
    | some x, some y => if x.length + y.length ≤ 7 then some (fill8 x y) else none
    | _, _ => none
theorem last_append (a b : List UInt8) : lastW (a ++ 58 :: b) = lastW b := by
  unfold lastW
  rw [words_append, List.getLast?_append, List.getLast?_eq_some_getLast (words_ne 58 b)]; rfl
theorem last_free {l : List UInt8} (h : 58 ∉ l) : lastW l = l := by unfold lastW; rw [words_free h]; rfl
theorem last_mem (l : List UInt8) : (words 58 l).getLast? = some (lastW l) ∧ lastW l ∈ words 58 l := by
  have e : (words 58 l).getLast? = some (lastW l) := by unfold lastW; rw [List.getLast?_eq_some_getLast (words_ne 58 l)]; rfl
  exact ⟨e, List.mem_of_getLast? e⟩
/-- What stands ahead of the last colon, that colon with it. -/
theorem head_last (l : List UInt8) : headW l ++ lastW l = l ∧ 58 ∉ lastW l ∧ (headW l = [] ∨ ∃ P, headW l = P ++ [58]) := by
  have key : ∀ (n : Nat) (l : List UInt8), l.length = n → ∃ H, H ++ lastW l = l ∧ (H = [] ∨ ∃ P, H = P ++ [58]) := by
    intro n
    induction n using Nat.strongRecOn with
    | _ n ih =>
      intro l hl
      by_cases h : 58 ∈ l
      · obtain ⟨a, b, rfl⟩ := List.append_of_mem h
        obtain ⟨H, e1, e2⟩ := ih b.length (by subst hl; simp; omega) b rfl
        rw [last_append]
        refine ⟨a ++ 58 :: H, by rw [List.append_assoc, List.cons_append, e1], Or.inr ?_⟩
        rcases e2 with rfl | ⟨P, rfl⟩
        · exact ⟨a, rfl⟩
        · exact ⟨a ++ 58 :: P, by simp⟩
      · refine ⟨[], ?_, Or.inl rfl⟩
        rw [last_free h]; rfl
  obtain ⟨H, e1, e2⟩ := key _ l rfl
  have e : headW l = H := by
    unfold headW
    have : l.length - (lastW l).length = H.length := by rw [← congrArg List.length e1, List.length_append]; omega
    rw [this]
    conv => lhs; rw [← e1]
    simp
  rw [e]
  exact ⟨e1, words_mem (last_mem l).2, e2⟩
theorem tail_plain {ws : List (List UInt8)} (h : ∀ w, ws.getLast? = some w → p4 w = none) : tailG ws = optAll hexO ws := by
  induction ws with
  | nil => rfl
  | cons w r ih =>
    cases r with
    | nil =>
      simp only [tailG, h w rfl, optAll]
      cases hexO w <;> rfl
    | cons v r =>
      have i := ih (fun x hx => h x (by simpa using hx))
      show (match hexO w, tailG (v :: r) with | some g, some gs => some (g :: gs) | _, _ => none) = _
      rw [i]
      rw [optAll_cons hexO w (v :: r)]
      cases hexO w <;> cases optAll hexO (v :: r) <;> rfl
theorem tail_dots {ws : List (List UInt8)} {w : List UInt8} {b : List Int} (h : p4 w = some b) : tailG (ws ++ [w]) = match optAll hexO ws with | some x => some (x ++ pair b) | none => none := by
  induction ws with
  | nil => simp [tailG, h, optAll]
  | cons v r ih =>
    cases r with
    | nil =>
      simp only [List.cons_append, List.nil_append, tailG, h, optAll]
      cases hexO v <;> rfl
    | cons u r =>
      simp only [List.cons_append] at ih ⊢
      simp only [tailG, ih, optAll]
      cases hexO v <;> cases hexO u <;> cases optAll hexO r <;> rfl
theorem hxd_free (n : Nat) (h : n < 16) : hxd n ≠ 58 ∧ isHex (hxd n) = true := by
  have := hex_hxd n h
  exact ⟨fun e => (isHex_not this.1).2.1 e, this.1⟩
theorem h4_hex {a b : Int} (ha : Byte a) (hb : Byte b) : hexO (h4 a b) = some (256 * a + b).toNat ∧ 58 ∉ h4 a b := by
  unfold Byte at *
  have a1 := hex_hxd (a.toNat / 16) (by omega)
  have a2 := hex_hxd (a.toNat % 16) (by omega)
  have b1 := hex_hxd (b.toNat / 16) (by omega)
  have b2 := hex_hxd (b.toNat % 16) (by omega)
  refine ⟨?_, ?_⟩
  · unfold hexO h4
    rw [if_pos ⟨by simp, by simp, by simp [a1.1, a2.1, b1.1, b2.1]⟩]
    simp only [hexV, List.foldl_cons, List.foldl_nil, a1.2, a2.2, b1.2, b2.2]
    congr 1; omega
  · unfold h4
    simp only [List.mem_cons, List.not_mem_nil, or_false, not_or]
    exact ⟨(hxd_free _ (by omega)).1.symm, (hxd_free _ (by omega)).1.symm, (hxd_free _ (by omega)).1.symm, (hxd_free _ (by omega)).1.symm⟩
theorem h8_cut {b : List Int} (hl : b.length = 4) (hb : ∀ n ∈ b, Byte n) : cut2 (h8 b) = none ∧ (h8 b).head? ≠ some 58 ∧ ∃ w1 w2, words 58 (h8 b) = [w1, w2] ∧ optAll hexO [w1, w2] = some (pair b) ∧ h8 b ≠ [] := by
  match b, hl with
  | [a, b, c, d], _ =>
    have A := h4_hex (hb a (by simp)) (hb b (by simp))
    have C := h4_hex (hb c (by simp)) (hb d (by simp))
    have e : h8 [a, b, c, d] = joinC 58 [h4 a b, h4 c d] := rfl
    have f : ∀ w ∈ [h4 a b, h4 c d], 58 ∉ w ∧ w ≠ [] := by
      intro w hw
      simp only [List.mem_cons, List.not_mem_nil, or_false] at hw
      rcases hw with rfl | rfl
      · exact ⟨A.2, by simp [h4]⟩
      · exact ⟨C.2, by simp [h4]⟩
    refine ⟨by rw [e]; exact (cut2_join f).1, by rw [e]; exact (cut2_join f).2, _, _, by rw [e]; exact words_join (by simp) fun w hw => (f w hw).1, ?_, by simp [h8, h4]⟩
    rw [optAll_cons_some A.1 (optAll_cons_some C.1 rfl)]; rfl
theorem words_behind {H : List UInt8} (h : H = [] ∨ ∃ P, H = P ++ [58]) : ∃ ws, ∀ X, words 58 (H ++ X) = ws ++ words 58 X := by
  rcases h with rfl | ⟨P, rfl⟩
  · exact ⟨[], fun X => rfl⟩
  · exact ⟨words 58 P, fun X => by rw [List.append_assoc]; exact words_append 58 P X⟩
theorem tail_same {H w : List UInt8} {b : List Int} (h : p4 w = some b) (hH : H = [] ∨ ∃ P, H = P ++ [58]) : tailG (words 58 (H ++ w)) = optAll hexO (words 58 (H ++ h8 b)) := by
  obtain ⟨hl, hb, _⟩ := p4_some h
  obtain ⟨ws, e⟩ := words_behind hH
  obtain ⟨_, _, w1, w2, e2, e3, _⟩ := h8_cut hl hb
  rw [e, e, words_free (p4_free h).1, e2, tail_dots h, optAll_append, e3]
  cases optAll hexO ws <;> rfl
theorem q6_p6 {l : List UInt8} (h4 : p4 l = none) : q6 l = p6 l := by
  obtain ⟨e1, e2, e3⟩ := head_last l
  cases hp : p4 (lastW l) with
  | none =>
    have eu : und6 l = l := by unfold und6; rw [hp]
    have hl : ∀ w, (words 58 l).getLast? = some w → p4 w = none := fun w hw => by
      rw [(last_mem l).1] at hw
      rw [← Option.some.inj hw]; exact hp
    unfold q6 p6
    rw [eu]
    cases hc : cut2 l with
    | none =>
      dsimp only
      rw [tail_plain hl]
      unfold unl
      by_cases h0 : l = []
      · subst h0; rfl
      · rw [if_neg h0]
    | some p =>
      obtain ⟨f, b⟩ := p
      obtain ⟨ec, _⟩ := cut2_some hc
      dsimp only
      have : (if b = [] then some [] else tailG (words 58 b)) = unl b := by
        unfold unl
        by_cases h0 : b = []
        · rw [if_pos h0, if_pos h0]
        · rw [if_neg h0, if_neg h0, tail_plain]
          intro w hw
          refine hl w ?_
          rw [ec, show f ++ 58 :: 58 :: b = f ++ 58 :: (58 :: b) from rfl, words_append, words_cons_hit]
          rw [List.getLast?_append, List.getLast?_cons, hw]; rfl
      rw [this]
  | some b =>
    obtain ⟨hl, hb, _⟩ := p4_some hp
    obtain ⟨c1, c2, _⟩ := h8_cut hl hb
    have eu : und6 l = headW l ++ h8 b := by unfold und6; rw [hp]
    have f2 : (lastW l).head? ≠ some 58 := fun e => e2 (List.mem_of_mem_head? e)
    rcases e3 with hH | ⟨P, hH⟩
    · exfalso
      rw [hH, List.nil_append] at e1
      rw [e1, h4] at hp; cases hp
    · have k1 : cut2 l = (cut2 (P ++ [58])).map fun p => (p.1, p.2 ++ lastW l) := by
        conv => lhs; rw [← e1, hH, List.append_assoc]
        exact cut2_behind P _ (cut2_free e2) f2
      have k2 : cut2 (und6 l) = (cut2 (P ++ [58])).map fun p => (p.1, p.2 ++ h8 b) := by
        rw [eu, hH, List.append_assoc]
        exact cut2_behind P _ c1 c2
      unfold q6 p6
      rw [k1, k2]
      cases hc : cut2 (P ++ [58]) with
      | none =>
        dsimp only [Option.map]
        have : tailG (words 58 l) = unl (und6 l) := by
          have := tail_same hp (Or.inr ⟨P, hH⟩)
          rw [e1] at this
          rw [this, eu]
          unfold unl
          rw [if_neg (by rw [hH]; simp)]
        rw [this]
      | some p =>
        obtain ⟨f, b0⟩ := p
        dsimp only [Option.map]
        obtain ⟨ec, _⟩ := cut2_some hc
        have hb0 : b0 = [] ∨ ∃ Q, b0 = Q ++ [58] := by
          by_cases h0 : b0 = []
          · exact Or.inl h0
          · right
            refine ⟨b0.dropLast, ?_⟩
            have g := congrArg List.getLast? ec
            rw [List.getLast?_append, show f ++ 58 :: 58 :: b0 = (f ++ [58, 58]) ++ b0 by simp, List.getLast?_append, List.getLast?_eq_some_getLast h0] at g
            simp at g
            rw [g]
            exact (List.dropLast_concat_getLast h0).symm
        have n1 : b0 ++ lastW l ≠ [] := by simp [(p4_free hp).2]
        obtain ⟨_, _, _, _, _, _, n2⟩ := h8_cut hl hb
        have n2 : b0 ++ h8 b ≠ [] := by simp [n2]
        rw [if_neg n1, tail_same hp hb0]
        have : unl (b0 ++ h8 b) = optAll hexO (words 58 (b0 ++ h8 b)) := by unfold unl; rw [if_neg n2]
        rw [this]
theorem unl_lt {l : List UInt8} {x : List Nat} (h : unl l = some x) : ∀ n ∈ x, n < 65536 := by
  unfold unl at h
  split at h
  · cases h; simp
  · intro n hn; obtain ⟨w, _, e⟩ := optAll_from h hn; exact hexO_lt e
theorem q6_some {l : List UInt8} {g : List Nat} (h : q6 l = some g) : g.length = 8 ∧ ∀ n ∈ g, n < 65536 := by
  unfold q6 at h
  split at h
  · split at h
    · rename_i gs hg
      split at h
      · rename_i c; cases h; exact ⟨c, unl_lt hg⟩
      · cases h
    · cases h
  · split at h
    · rename_i x y hx hy
      split at h
      · rename_i c
        cases h
        refine ⟨by unfold fill8; simp; omega, fun n hn => ?_⟩
        unfold fill8 at hn
        rcases List.mem_append.1 hn with hn | hn
        · exact unl_lt hx n hn
        · rcases List.mem_append.1 hn with hn | hn
          · rw [List.eq_of_mem_replicate hn]; decide
          · exact unl_lt hy n hn
      · cases h
    · cases h
end Go.Proofs.YthghanidabmfgaaGreatDoor
