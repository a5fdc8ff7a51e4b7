/-
  Plain lemmas (no model): the words between bytes; hexadecimal groups; where two colons stand.
  Plain lemmas (no model): addresses, their texts and the reading of these.
-/
import Derived.Test.YthghanidabmfgaaGreatDoorText
namespace Go.Proofs.YthghanidabmfgaaGreatDoor
open Go.Lib
/-! ### Words -/
def words (c : UInt8) : List UInt8 → List (List UInt8)
  | [] => [[]]
  | x :: r => if x = c then [] :: words c r else match words c r with
    | [] => [[x]]
    | p :: ps => (x :: p) :: ps
def joinC (c : UInt8) : List (List UInt8) → List UInt8
  | [] => []
  | [a] => a
  | a :: b :: r => a ++ c :: joinC c (b :: r)
theorem joinC_cons (c : UInt8) (a : List UInt8) {ws : List (List UInt8)} (h : ws ≠ []) : joinC c (a :: ws) = a ++ c :: joinC c ws := by
  cases ws with
  | nil => exact absurd rfl h
  | cons b r => rfl
theorem words_ne (c : UInt8) (l : List UInt8) : words c l ≠ [] := by
  cases l with
  | nil => simp [words]
  | cons x r => unfold words; split; · simp
                split <;> simp
theorem words_cons_hit (c : UInt8) (r : List UInt8) : words c (c :: r) = [] :: words c r := by simp [words]
theorem words_cons_miss {c x : UInt8} (h : x ≠ c) (r : List UInt8) {p : List UInt8} {ps : List (List UInt8)} (e : words c r = p :: ps) : words c (x :: r) = (x :: p) :: ps := by simp [words, h, e]
theorem words_free {c : UInt8} {l : List UInt8} (h : c ∉ l) : words c l = [l] := by
  induction l with
  | nil => rfl
  | cons x r ih =>
    have hx : x ≠ c := fun e => h (by rw [e]; exact List.mem_cons_self)
    exact words_cons_miss hx r (ih fun m => h (List.mem_cons_of_mem _ m))
theorem words_append (c : UInt8) (a b : List UInt8) : words c (a ++ c :: b) = words c a ++ words c b := by
  induction a with
  | nil => rw [List.nil_append, words_cons_hit]; rfl
  | cons x r ih =>
    rw [List.cons_append]
    by_cases h : x = c
    · subst h; rw [words_cons_hit, words_cons_hit, ih]; rfl
    · cases e : words c r with
      | nil => exact absurd e (words_ne c r)
      | cons p ps =>
        rw [words_cons_miss h r e, words_cons_miss h _ (by rw [ih, e]; rfl)]; rfl
theorem words_hit {c : UInt8} {a : List UInt8} (h : c ∉ a) (b : List UInt8) : words c (a ++ c :: b) = a :: words c b := by
  rw [words_append, words_free h]; rfl
theorem words_mem {c : UInt8} {l w : List UInt8} (h : w ∈ words c l) : c ∉ w := by
  induction l generalizing w with
  | nil => simp [words] at h; simp [h]
  | cons x r ih =>
    by_cases hx : x = c
    · subst hx
      rw [words_cons_hit] at h
      rcases List.mem_cons.1 h with rfl | h
      · simp
      · exact ih h
    · cases e : words c r with
      | nil => exact absurd e (words_ne c r)
      | cons p ps =>
        rw [words_cons_miss hx r e] at h
        rcases List.mem_cons.1 h with rfl | h
        · intro m
          rcases List.mem_cons.1 m with m | m
          · exact hx m.symm
          · exact ih (by rw [e]; exact List.mem_cons_self) m
        · exact ih (by rw [e]; exact List.mem_cons_of_mem _ h)
theorem join_words (c : UInt8) (l : List UInt8) : joinC c (words c l) = l := by
  induction l with
  | nil => rfl
  | cons x r ih =>
    by_cases hx : x = c
    · subst hx; rw [words_cons_hit, joinC_cons _ _ (words_ne _ _), ih]; rfl
    · cases e : words c r with
      | nil => exact absurd e (words_ne c r)
      | cons p ps =>
        rw [words_cons_miss hx r e]
        rw [e] at ih
        cases ps with
        | nil => simp only [joinC] at ih ⊢; rw [ih]
        | cons q ps => rw [joinC_cons _ _ (by simp)] at ih ⊢; rw [List.cons_append, ih]
theorem words_join {c : UInt8} {ws : List (List UInt8)} (hne : ws ≠ []) (h : ∀ w ∈ ws, c ∉ w) : words c (joinC c ws) = ws := by
  induction ws with
  | nil => exact absurd rfl hne
  | cons a r ih =>
    cases r with
    | nil => exact words_free (h a List.mem_cons_self)
    | cons b r =>
      rw [joinC_cons _ _ (by simp), words_hit (h a List.mem_cons_self), ih (by simp) fun w m => h w (List.mem_cons_of_mem _ m)]
theorem words_count (c : UInt8) (l : List UInt8) : (words c l).length = l.count c + 1 := by
  induction l with
  | nil => rfl
  | cons x r ih =>
    by_cases hx : x = c
    · subst hx; rw [words_cons_hit]; simp [ih]
    · cases e : words c r with
      | nil => exact absurd e (words_ne c r)
      | cons p ps =>
        rw [words_cons_miss hx r e, List.count_cons_of_ne hx, ← ih, e]; rfl
theorem mem_of_words {c x : UInt8} {l w : List UInt8} (h : w ∈ words c l) (hx : x ∈ w) : x ∈ l := by
  rw [← join_words c l]
  generalize words c l = ws at h
  induction ws with
  | nil => cases h
  | cons a r ih =>
    cases r with
    | nil => obtain rfl := List.mem_singleton.1 h; exact hx
    | cons b r =>
      rw [joinC_cons _ _ (by simp)]
      rcases List.mem_cons.1 h with rfl | h
      · exact List.mem_append_left _ hx
      · exact List.mem_append_right _ (List.mem_cons_of_mem _ (ih h))
theorem mem_words {c x : UInt8} {l : List UInt8} (h : x ∈ l) (hx : x ≠ c) : ∃ w ∈ words c l, x ∈ w := by
  rw [← join_words c l] at h
  generalize words c l = ws at h
  induction ws with
  | nil => cases h
  | cons a r ih =>
    cases r with
    | nil => exact ⟨a, List.mem_cons_self, h⟩
    | cons b r =>
      rw [joinC_cons _ _ (by simp)] at h
      rcases List.mem_append.1 h with h | h
      · exact ⟨a, List.mem_cons_self, h⟩
      · rcases List.mem_cons.1 h with h | h
        · exact absurd h hx
        · obtain ⟨w, m, k⟩ := ih h; exact ⟨w, List.mem_cons_of_mem _ m, k⟩
/-! ### What is read of each of them -/
def optAll {α β : Type} (f : α → Option β) : List α → Option (List β)
  | [] => some []
  | a :: r => match f a, optAll f r with
    | some b, some bs => some (b :: bs)
    | _, _ => none
theorem optAll_cons {α β : Type} (f : α → Option β) (a : α) (r : List α) : optAll f (a :: r) = (match f a, optAll f r with | some b, some bs => some (b :: bs) | _, _ => none) := by rw [optAll]
theorem optAll_cons_some {α β : Type} {f : α → Option β} {a : α} {r : List α} {b : β} {bs : List β} (h : f a = some b) (hr : optAll f r = some bs) : optAll f (a :: r) = some (b :: bs) := by simp [optAll, h, hr]
theorem optAll_none {α β : Type} {f : α → Option β} {l : List α} {a : α} (h : a ∈ l) (hf : f a = none) : optAll f l = none := by
  induction l with
  | nil => cases h
  | cons x r ih =>
    rcases List.mem_cons.1 h with rfl | h
    · simp [optAll, hf]
    · simp [optAll, ih h]
theorem optAll_inv {α β : Type} {f : α → Option β} {a : α} {r : List α} {bs : List β} (h : optAll f (a :: r) = some bs) : ∃ b bs', f a = some b ∧ optAll f r = some bs' ∧ bs = b :: bs' := by
  unfold optAll at h
  split at h
  · rename_i b bs' h1 h2; exact ⟨b, bs', h1, h2, (Option.some.inj h).symm⟩
  · cases h
theorem optAll_length {α β : Type} {f : α → Option β} {l : List α} {bs : List β} (h : optAll f l = some bs) : bs.length = l.length := by
  induction l generalizing bs with
  | nil => simp [optAll] at h; simp [← h]
  | cons a r ih => obtain ⟨b, bs', _, h2, rfl⟩ := optAll_inv h; simp [ih h2]
theorem optAll_append {α β : Type} (f : α → Option β) (a b : List α) : optAll f (a ++ b) = match optAll f a, optAll f b with | some x, some y => some (x ++ y) | _, _ => none := by
  induction a with
  | nil => simp [optAll]; cases optAll f b <;> rfl
  | cons x r ih =>
    simp only [List.cons_append, optAll, ih]
    cases f x <;> cases optAll f r <;> cases optAll f b <;> rfl
theorem optAll_mem {α β : Type} {f : α → Option β} {l : List α} {bs : List β} (h : optAll f l = some bs) {a : α} (ha : a ∈ l) : ∃ b ∈ bs, f a = some b := by
  induction l generalizing bs with
  | nil => cases ha
  | cons x r ih =>
    obtain ⟨b, bs', h1, h2, rfl⟩ := optAll_inv h
    rcases List.mem_cons.1 ha with rfl | ha
    · exact ⟨b, List.mem_cons_self, h1⟩
    · obtain ⟨c, m, e⟩ := ih h2 ha; exact ⟨c, List.mem_cons_of_mem _ m, e⟩
theorem optAll_from {α β : Type} {f : α → Option β} {l : List α} {bs : List β} (h : optAll f l = some bs) {b : β} (hb : b ∈ bs) : ∃ a ∈ l, f a = some b := by
  induction l generalizing bs with
  | nil => simp [optAll] at h; subst h; cases hb
  | cons x r ih =>
    obtain ⟨c, bs', h1, h2, rfl⟩ := optAll_inv h
    rcases List.mem_cons.1 hb with rfl | hb
    · exact ⟨x, List.mem_cons_self, h1⟩
    · obtain ⟨a, m, e⟩ := ih h2 hb; exact ⟨a, List.mem_cons_of_mem _ m, e⟩
theorem optAll_map {α β γ : Type} {f : β → Option γ} (g : α → β) (k : α → γ) (l : List α) (h : ∀ a ∈ l, f (g a) = some (k a)) : optAll f (l.map g) = some (l.map k) := by
  induction l with
  | nil => rfl
  | cons a r ih => exact optAll_cons_some (h a List.mem_cons_self) (ih fun x m => h x (List.mem_cons_of_mem _ m))
theorem optAll_congr {α β : Type} {f g : α → Option β} {l : List α} (h : ∀ a ∈ l, f a = g a) : optAll f l = optAll g l := by
  induction l with
  | nil => rfl
  | cons a r ih => simp only [optAll, h a List.mem_cons_self, ih fun x m => h x (List.mem_cons_of_mem _ m)]
theorem optAll_comp {α β γ : Type} (f : β → Option γ) (g : α → β) (l : List α) : optAll f (l.map g) = optAll (fun a => f (g a)) l := by
  induction l with
  | nil => rfl
  | cons a r ih => simp only [List.map_cons, optAll, ih]
/-! ### Groups of hexadecimal digits -/
def hxd (n : Nat) : UInt8 := UInt8.ofNat (if n < 10 then 48 + n else 87 + n)
theorem hxd_nat (n : Nat) (h : n < 16) : (hxd n).toNat = if n < 10 then 48 + n else 87 + n := by
  unfold hxd
  split <;> (simp only [UInt8.toNat_ofNat']; omega)
def hexs (n : Nat) : List UInt8 := if n < 16 then [hxd n] else hexs (n / 16) ++ [hxd (n % 16)]
def hvN (n : Nat) : Option Nat := if 48 ≤ n ∧ n ≤ 57 then some (n - 48) else if 97 ≤ n ∧ n ≤ 102 then some (n - 87) else if 65 ≤ n ∧ n ≤ 70 then some (n - 55) else none
def isHex (c : UInt8) : Bool := (hvN c.toNat).isSome
def hval (c : UInt8) : Nat := (hvN c.toNat).getD 0
theorem hval_lt (c : UInt8) : hval c < 16 := by
  unfold hval hvN; (repeat' split) <;> simp <;> omega
theorem hex_hxd (n : Nat) (h : n < 16) : isHex (hxd n) = true ∧ hval (hxd n) = n := by
  unfold isHex hval hvN
  rw [hxd_nat n h]
  by_cases c : n < 10
  · rw [if_pos c, if_pos (by omega)]; simp
  · rw [if_neg c, if_neg (by omega), if_pos (by omega)]; simp
def hexV (l : List UInt8) : Nat := l.foldl (fun a c => 16 * a + hval c) 0
theorem hexV_append (l : List UInt8) (c : UInt8) : hexV (l ++ [c]) = 16 * hexV l + hval c := by simp [hexV, List.foldl_append]
theorem hexV_lt (l : List UInt8) : hexV l < 16 ^ l.length := by
  have h : ∀ (k : Nat) (l : List UInt8), l.length = k → hexV l < 16 ^ k := by
    intro k
    induction k with
    | zero => intro l hl; obtain rfl := List.length_eq_zero_iff.1 hl; simp [hexV]
    | succ k ih =>
      intro l hl
      have hne : l ≠ [] := by rintro rfl; cases hl
      have e := List.dropLast_concat_getLast hne
      have i := ih l.dropLast (by rw [List.length_dropLast]; omega)
      rw [← e, hexV_append, Nat.pow_succ]
      have := hval_lt (l.getLast hne)
      omega
  exact h _ l rfl
def hexO (l : List UInt8) : Option Nat := if 1 ≤ l.length ∧ l.length ≤ 4 ∧ l.all isHex = true then some (hexV l) else none
theorem hexs_hex (n : Nat) : (hexs n).all isHex = true ∧ hexV (hexs n) = n := by
  induction n using Nat.strongRecOn with
  | _ n ih =>
    unfold hexs
    split
    · rename_i h; have := hex_hxd n h; simp [hexV, this.1, this.2]
    · rename_i h
      obtain ⟨a, b⟩ := ih (n / 16) (by omega)
      have c := hex_hxd (n % 16) (by omega)
      rw [hexV_append, b, c.2]
      refine ⟨by simp [a, c.1], by omega⟩
theorem hexs_ne (n : Nat) : hexs n ≠ [] := by unfold hexs; split <;> simp
theorem hexs_length (k n : Nat) (h : n < 16 ^ k) (hk : 1 ≤ k) : (hexs n).length ≤ k := by
  induction k generalizing n with
  | zero => omega
  | succ k ih =>
    unfold hexs
    split
    · simp
    · have : k ≠ 0 := by rintro rfl; simp at h; omega
      have := ih (n / 16) (by rw [Nat.pow_succ] at h; omega) (by omega)
      simp; omega
theorem hexO_hexs (n : Nat) (h : n < 65536) : hexO (hexs n) = some n := by
  have l := hexs_length 4 n (by simpa using h) (by decide)
  have n1 : 1 ≤ (hexs n).length := Nat.one_le_iff_ne_zero.2 fun e => hexs_ne n (List.length_eq_zero_iff.1 e)
  unfold hexO
  rw [if_pos ⟨n1, l, (hexs_hex n).1⟩, (hexs_hex n).2]
theorem hexO_lt {l : List UInt8} {n : Nat} (h : hexO l = some n) : n < 65536 := by
  unfold hexO at h
  split at h
  · rename_i c
    obtain rfl := Option.some.inj h
    have := hexV_lt l
    have : (16 : Nat) ^ l.length ≤ 16 ^ 4 := Nat.pow_le_pow_right (by decide) c.2.1
    omega
  · cases h
theorem isHex_not {c : UInt8} (h : isHex c = true) : c ≠ 46 ∧ c ≠ 58 ∧ c ≠ 91 ∧ c ≠ 93 ∧ c.toNat < 128 := by
  refine ⟨?_, ?_, ?_, ?_, ?_⟩
  · rintro rfl; revert h; decide
  · rintro rfl; revert h; decide
  · rintro rfl; revert h; decide
  · rintro rfl; revert h; decide
  · unfold isHex hvN at h
    (repeat' split at h) <;> first | omega | (simp at h)
theorem hexs_free (n : Nat) (c : UInt8) (h : isHex c = false) : c ∉ hexs n := by
  intro m
  have := List.all_eq_true.1 (hexs_hex n).1 c m
  rw [h] at this; cases this
/-! ### Two colons -/
def cut2 : List UInt8 → Option (List UInt8 × List UInt8)
  | [] => none
  | [_] => none
  | x :: y :: r => if x = 58 ∧ y = 58 then some ([], r) else (cut2 (y :: r)).map fun p => (x :: p.1, p.2)
theorem cut2_hit (r : List UInt8) : cut2 (58 :: 58 :: r) = some ([], r) := by simp [cut2]
theorem cut2_miss {x y : UInt8} (h : ¬ (x = 58 ∧ y = 58)) (r : List UInt8) : cut2 (x :: y :: r) = (cut2 (y :: r)).map fun p => (x :: p.1, p.2) := by simp only [cut2, if_neg h]
theorem cut2_some {l f b : List UInt8} (h : cut2 l = some (f, b)) : l = f ++ 58 :: 58 :: b ∧ cut2 (f ++ [58]) = none := by
  induction l generalizing f with
  | nil => cases h
  | cons x r ih =>
    cases r with
    | nil => cases h
    | cons y r =>
      by_cases c : x = 58 ∧ y = 58
      · obtain ⟨rfl, rfl⟩ := c
        rw [cut2_hit] at h
        cases h
        exact ⟨rfl, rfl⟩
      · rw [cut2_miss c] at h
        cases e : cut2 (y :: r) with
        | none => rw [e] at h; cases h
        | some p =>
          rw [e] at h
          simp at h
          obtain ⟨rfl, rfl⟩ := h
          obtain ⟨i1, i2⟩ := ih (f := p.1) (by rw [e])
          refine ⟨by rw [i1]; rfl, ?_⟩
          cases q : p.1 with
          | nil =>
            rw [q] at i1
            simp at i1
            rw [i1.1] at c
            show cut2 [x, 58] = none
            rw [cut2_miss (fun k => c ⟨k.1, rfl⟩)]; rfl
          | cons z t =>
            rw [q] at i1 i2
            have hz : y = z := (List.cons.inj i1).1
            subst hz
            show cut2 (x :: y :: (t ++ [58])) = none
            rw [cut2_miss c, show y :: (t ++ [58]) = y :: t ++ [58] from rfl, i2]; rfl
/-- Behind a colon stands something that begins with none. -/
theorem cut2_behind (P X : List UInt8) (hX : cut2 X = none) (hh : X.head? ≠ some 58) : cut2 (P ++ 58 :: X) = (cut2 (P ++ [58])).map fun p => (p.1, p.2 ++ X) := by
  induction P with
  | nil =>
    show cut2 (58 :: X) = (cut2 [58]).map _
    cases X with
    | nil => rfl
    | cons y r =>
      have : y ≠ 58 := fun e => hh (by rw [e]; rfl)
      rw [cut2_miss (fun k => this k.2), hX]; rfl
  | cons x P ih =>
    cases P with
    | nil =>
      show cut2 (x :: 58 :: X) = (cut2 [x, 58]).map _
      by_cases c : x = 58
      · subst c; rw [cut2_hit, cut2_hit]; simp
      · rw [cut2_miss (fun k => c k.1), cut2_miss (fun k => c k.1)]
        rw [show cut2 (58 :: X) = _ from ih, Option.map_map, Option.map_map]; rfl
    | cons y P =>
      show cut2 (x :: y :: (P ++ 58 :: X)) = (cut2 (x :: y :: (P ++ [58]))).map _
      by_cases c : x = 58 ∧ y = 58
      · obtain ⟨rfl, rfl⟩ := c; rw [cut2_hit, cut2_hit]; simp
      · rw [cut2_miss c, cut2_miss c, show cut2 (y :: (P ++ 58 :: X)) = _ from ih, Option.map_map, Option.map_map]; rfl
theorem cut2_free {l : List UInt8} (h : 58 ∉ l) : cut2 l = none := by
  induction l with
  | nil => rfl
  | cons x r ih =>
    cases r with
    | nil => rfl
    | cons y r =>
      rw [cut2_miss (fun k => h (by rw [k.1]; exact List.mem_cons_self)), ih fun m => h (List.mem_cons_of_mem _ m)]; rfl
theorem cut2_append_free {A B : List UInt8} (hA : 58 ∉ A) : cut2 (A ++ B) = if A = [] then cut2 B else (cut2 B).map fun p => (A ++ p.1, p.2) := by
  induction A with
  | nil => simp
  | cons x A ih =>
    have hx : x ≠ 58 := fun e => hA (by rw [e]; exact List.mem_cons_self)
    have ih := ih fun m => hA (List.mem_cons_of_mem _ m)
    rw [if_neg (by simp)]
    cases e : A ++ B with
    | nil =>
      obtain ⟨rfl, rfl⟩ := List.append_eq_nil_iff.1 e; rfl
    | cons y r =>
      rw [List.cons_append, e, cut2_miss (fun k => hx k.1), ← e, ih]
      split
      · rename_i h; subst h; rfl
      · cases cut2 B <;> rfl
/-- Words joined by colons, none of them empty. -/
theorem cut2_join {ws : List (List UInt8)} (h : ∀ w ∈ ws, 58 ∉ w ∧ w ≠ []) : cut2 (joinC 58 ws) = none ∧ (joinC 58 ws).head? ≠ some 58 := by
  induction ws with
  | nil => exact ⟨rfl, by simp [joinC]⟩
  | cons a r ih =>
    have ha := h a List.mem_cons_self
    have hd : ∀ t : List UInt8, (a ++ t).head? ≠ some 58 := fun t => by
      cases a with
      | nil => exact absurd rfl ha.2
      | cons x a => simp; rintro rfl; exact ha.1 List.mem_cons_self
    cases r with
    | nil => exact ⟨cut2_free ha.1, by simpa [joinC] using hd []⟩
    | cons b r =>
      obtain ⟨i1, i2⟩ := ih fun w m => h w (List.mem_cons_of_mem _ m)
      rw [joinC_cons _ _ (by simp)]
      exact ⟨by rw [cut2_behind a _ i1 i2, cut2_append_free ha.1, if_neg ha.2]; rfl, hd _⟩
theorem cut2_run {ws : List (List UInt8)} (h : ∀ w ∈ ws, 58 ∉ w ∧ w ≠ []) (B : List UInt8) : cut2 (joinC 58 ws ++ 58 :: 58 :: B) = some (joinC 58 ws, B) := by
  induction ws with
  | nil => exact cut2_hit B
  | cons a r ih =>
    have ha := h a List.mem_cons_self
    cases r with
    | nil =>
      show cut2 (a ++ 58 :: 58 :: B) = some (a, B)
      rw [cut2_append_free ha.1, if_neg ha.2, cut2_hit]; simp
    | cons b r =>
      have i := ih fun w m => h w (List.mem_cons_of_mem _ m)
      have d := (cut2_join fun w m => h w (List.mem_cons_of_mem _ m)).2
      rw [joinC_cons _ _ (by simp), List.append_assoc, List.cons_append, cut2_append_free ha.1, if_neg ha.2]
      have hb := (h b (by simp)).2
      have hb1 := (h b (by simp)).1
      have e : ∃ y t, joinC 58 (b :: r) ++ 58 :: 58 :: B = y :: t ∧ y ≠ 58 := by
        cases b with
        | nil => exact absurd rfl hb
        | cons y b =>
          cases r with
          | nil => exact ⟨y, _, rfl, fun e => hb1 (by rw [e]; exact List.mem_cons_self)⟩
          | cons c r => rw [joinC_cons _ _ (by simp)]; exact ⟨y, _, rfl, fun e => hb1 (by rw [e]; exact List.mem_cons_self)⟩
      obtain ⟨y, t, e, hy⟩ := e
      rw [e, cut2_miss (fun k => hy k.2), ← e, i]; simp
end Go.Proofs.YthghanidabmfgaaGreatDoor
namespace Go.Proofs.YthghanidabmfgaaGreatDoor
open Go.Lib
/-! ### IPv4 -/
def Byte (n : Int) : Prop := 0 ≤ n ∧ n ≤ 255
def p4 (l : List UInt8) : Option (List Int) := if (words 46 l).length = 4 then optAll (num? 0 255) (words 46 l) else none
def t4 (b : List Int) : List UInt8 := joinC 46 (b.map itoa)
theorem itoa_digits {n : Int} (h : 0 ≤ n) : ∀ c ∈ itoa n, 48 ≤ c.toNat ∧ c.toNat ≤ 57 := by
  intro c hc
  unfold itoa at hc
  rw [if_neg (by omega)] at hc
  exact dec_all _ c hc
theorem itoa_free {n : Int} (h : 0 ≤ n) {c : UInt8} (hc : c.toNat < 48 ∨ 57 < c.toNat) : c ∉ itoa n := fun m => by have := itoa_digits h c m; omega
theorem nums_words {ws : List (List UInt8)} {b : List Int} {lo hi : Int} (h : optAll (num? lo hi) ws = some b) : ws = b.map itoa ∧ ∀ n ∈ b, lo ≤ n ∧ n ≤ hi := by
  induction ws generalizing b with
  | nil => simp [optAll] at h; subst h; simp
  | cons w r ih =>
    obtain ⟨n, bs, h1, h2, rfl⟩ := optAll_inv h
    obtain ⟨e, hn⟩ := num?_some h1
    obtain ⟨i1, i2⟩ := ih h2
    refine ⟨by rw [e, i1]; rfl, fun m hm => ?_⟩
    rcases List.mem_cons.1 hm with rfl | hm
    · exact hn
    · exact i2 m hm
theorem p4_some {l : List UInt8} {b : List Int} (h : p4 l = some b) : b.length = 4 ∧ (∀ n ∈ b, Byte n) ∧ l = t4 b := by
  unfold p4 at h
  split at h
  · rename_i c
    obtain ⟨e, hb⟩ := nums_words h
    refine ⟨by rw [← optAll_length h] at c; exact c, hb, ?_⟩
    unfold t4
    rw [← e, join_words]
  · cases h
theorem map_ne {α β : Type} {f : α → β} {l : List α} (h : l.length ≠ 0) : l.map f ≠ [] := by
  intro e; exact h (by simpa using congrArg List.length e)
theorem words_t4 {b : List Int} (hl : b.length = 4) (hb : ∀ n ∈ b, Byte n) : words 46 (t4 b) = b.map itoa :=
  words_join (map_ne (by omega)) fun w hw => by
    obtain ⟨n, hn, rfl⟩ := List.mem_map.1 hw
    exact itoa_free (hb n hn).1 (by decide)
theorem p4_t4 {b : List Int} (hl : b.length = 4) (hb : ∀ n ∈ b, Byte n) : p4 (t4 b) = some b := by
  unfold p4
  rw [words_t4 hl hb, if_pos (by simpa using hl)]
  have := optAll_map (f := num? 0 255) itoa id b fun n hn => num?_itoa (hb n hn)
  simpa using this
theorem mem_join {c x : UInt8} {ws : List (List UInt8)} (h : x ∈ joinC c ws) : x = c ∨ ∃ w ∈ ws, x ∈ w := by
  induction ws with
  | nil => cases h
  | cons a r ih =>
    cases r with
    | nil => exact Or.inr ⟨a, List.mem_cons_self, h⟩
    | cons b r =>
      rw [joinC_cons _ _ (by simp)] at h
      rcases List.mem_append.1 h with h | h
      · exact Or.inr ⟨a, List.mem_cons_self, h⟩
      · rcases List.mem_cons.1 h with h | h
        · exact Or.inl h
        · rcases ih h with e | ⟨w, m, k⟩
          · exact Or.inl e
          · exact Or.inr ⟨w, List.mem_cons_of_mem _ m, k⟩
/-- What stands in a text of an IPv4 address. -/
theorem p4_chars {l : List UInt8} {b : List Int} (h : p4 l = some b) : ∀ c ∈ l, c = 46 ∨ (48 ≤ c.toNat ∧ c.toNat ≤ 57) := by
  obtain ⟨_, hb, rfl⟩ := p4_some h
  intro c hc
  rcases mem_join hc with e | ⟨w, hw, hx⟩
  · exact Or.inl e
  · obtain ⟨n, hn, rfl⟩ := List.mem_map.1 hw
    exact Or.inr (itoa_digits (hb n hn).1 c hx)
theorem p4_free {l : List UInt8} {b : List Int} (h : p4 l = some b) : 58 ∉ l ∧ l ≠ [] := by
  refine ⟨fun m => ?_, ?_⟩
  · rcases p4_chars h 58 m with e | e
    · revert e; decide
    · revert e; decide
  · rintro rfl
    have : p4 [] = none := by decide +kernel
    rw [this] at h; cases h
theorem p4_short {l : List UInt8} (h : 46 ∉ l) : p4 l = none := by
  unfold p4
  rw [words_free h]; rfl
/-! ### IPv6 -/
def pair : List Int → List Nat
  | [a, b, c, d] => [(256 * a + b).toNat, (256 * c + d).toNat]
  | _ => []
def tailG : List (List UInt8) → Option (List Nat)
  | [] => some []
  | [w] => match p4 w with
    | some b => some (pair b)
    | none => (hexO w).map fun g => [g]
  | w :: v :: r => match hexO w, tailG (v :: r) with
    | some g, some gs => some (g :: gs)
    | _, _ => none
def unl (l : List UInt8) : Option (List Nat) := if l = [] then some [] else optAll hexO (words 58 l)
def fill8 (x y : List Nat) : List Nat := x ++ (List.replicate (8 - x.length - y.length) 0 ++ y)
def p6 (l : List UInt8) : Option (List Nat) := match cut2 l with
  | none => match tailG (words 58 l) with
    | some gs => if gs.length = 8 then some gs else none
    | none => none
  | some (f, b) => match unl f, (if b = [] then some [] else tailG (words 58 b)) with
    | some x, some y => if x.length + y.length ≤ 7 then some (fill8 x y) else none
    | _, _ => none
/-- .. as the program reads it: its end, if that is an IPv4 address, as two groups. -/
def h4 (a b : Int) : List UInt8 := [hxd (a.toNat / 16), hxd (a.toNat % 16), hxd (b.toNat / 16), hxd (b.toNat % 16)]
def h8 : List Int → List UInt8
  | [a, b, c, d] => h4 a b ++ 58 :: h4 c d
  | _ => []
def lastW (l : List UInt8) : List UInt8 := ((words 58 l).getLast?).getD []
def headW (l : List UInt8) : List UInt8 := l.take (l.length - (lastW l).length)
def und6 (l : List UInt8) : List UInt8 := match p4 (lastW l) with
  | some b => headW l ++ h8 b
  | none => l
def q6 (l : List UInt8) : Option (List Nat) := match cut2 (und6 l) with
  | none => match unl (und6 l) with
    | some gs => if gs.length = 8 then some gs else none
    | none => none
  | some (f, b) => match unl f, unl b with
    | some x, some y => if x.length + y.length ≤ 7 then some (fill8 x y) else none
    | _, _ => none
theorem last_append (a b : List UInt8) : lastW (a ++ 58 :: b) = lastW b := by
  unfold lastW
  rw [words_append, List.getLast?_append, List.getLast?_eq_some_getLast (words_ne 58 b)]; rfl
theorem last_free {l : List UInt8} (h : 58 ∉ l) : lastW l = l := by unfold lastW; rw [words_free h]; rfl
theorem last_mem (l : List UInt8) : (words 58 l).getLast? = some (lastW l) ∧ lastW l ∈ words 58 l := by
  have e : (words 58 l).getLast? = some (lastW l) := by unfold lastW; rw [List.getLast?_eq_some_getLast (words_ne 58 l)]; rfl
  exact ⟨e, List.mem_of_getLast? e⟩
/-- What stands ahead of the last colon, that colon with it. -/
theorem head_last (l : List UInt8) : headW l ++ lastW l = l ∧ 58 ∉ lastW l ∧ (headW l = [] ∨ ∃ P, headW l = P ++ [58]) := by
  have key : ∀ (n : Nat) (l : List UInt8), l.length = n → ∃ H, H ++ lastW l = l ∧ (H = [] ∨ ∃ P, H = P ++ [58]) := by
    intro n
    induction n using Nat.strongRecOn with
    | _ n ih =>
      intro l hl
      by_cases h : 58 ∈ l
      · obtain ⟨a, b, rfl⟩ := List.append_of_mem h
        obtain ⟨H, e1, e2⟩ := ih b.length (by subst hl; simp; omega) b rfl
        rw [last_append]
        refine ⟨a ++ 58 :: H, by rw [List.append_assoc, List.cons_append, e1], Or.inr ?_⟩
        rcases e2 with rfl | ⟨P, rfl⟩
        · exact ⟨a, rfl⟩
        · exact ⟨a ++ 58 :: P, by simp⟩
      · refine ⟨[], ?_, Or.inl rfl⟩
        rw [last_free h]; rfl
  obtain ⟨H, e1, e2⟩ := key _ l rfl
  have e : headW l = H := by
    unfold headW
    have : l.length - (lastW l).length = H.length := by rw [← congrArg List.length e1, List.length_append]; omega
    rw [this]
    conv => lhs; rw [← e1]
    simp
  rw [e]
  exact ⟨e1, words_mem (last_mem l).2, e2⟩
theorem tail_plain {ws : List (List UInt8)} (h : ∀ w, ws.getLast? = some w → p4 w = none) : tailG ws = optAll hexO ws := by
  induction ws with
  | nil => rfl
  | cons w r ih =>
    cases r with
    | nil =>
      simp only [tailG, h w rfl, optAll]
      cases hexO w <;> rfl
    | cons v r =>
      have i := ih (fun x hx => h x (by simpa using hx))
      show (match hexO w, tailG (v :: r) with | some g, some gs => some (g :: gs) | _, _ => none) = _
      rw [i]
      rw [optAll_cons hexO w (v :: r)]
      cases hexO w <;> cases optAll hexO (v :: r) <;> rfl
theorem tail_dots {ws : List (List UInt8)} {w : List UInt8} {b : List Int} (h : p4 w = some b) : tailG (ws ++ [w]) = match optAll hexO ws with | some x => some (x ++ pair b) | none => none := by
  induction ws with
  | nil => simp [tailG, h, optAll]
  | cons v r ih =>
    cases r with
    | nil =>
      simp only [List.cons_append, List.nil_append, tailG, h, optAll]
      cases hexO v <;> rfl
    | cons u r =>
      simp only [List.cons_append] at ih ⊢
      simp only [tailG, ih, optAll]
      cases hexO v <;> cases hexO u <;> cases optAll hexO r <;> rfl
theorem hxd_free (n : Nat) (h : n < 16) : hxd n ≠ 58 ∧ isHex (hxd n) = true := by
  have := hex_hxd n h
  exact ⟨fun e => (isHex_not this.1).2.1 e, this.1⟩
theorem h4_hex {a b : Int} (ha : Byte a) (hb : Byte b) : hexO (h4 a b) = some (256 * a + b).toNat ∧ 58 ∉ h4 a b := by
  unfold Byte at *
  have a1 := hex_hxd (a.toNat / 16) (by omega)
  have a2 := hex_hxd (a.toNat % 16) (by omega)
  have b1 := hex_hxd (b.toNat / 16) (by omega)
  have b2 := hex_hxd (b.toNat % 16) (by omega)
  refine ⟨?_, ?_⟩
  · unfold hexO h4
    rw [if_pos ⟨by simp, by simp, by simp [a1.1, a2.1, b1.1, b2.1]⟩]
    simp only [hexV, List.foldl_cons, List.foldl_nil, a1.2, a2.2, b1.2, b2.2]
    congr 1; omega
  · unfold h4
    simp only [List.mem_cons, List.not_mem_nil, or_false, not_or]
    exact ⟨(hxd_free _ (by omega)).1.symm, (hxd_free _ (by omega)).1.symm, (hxd_free _ (by omega)).1.symm, (hxd_free _ (by omega)).1.symm⟩
theorem h8_cut {b : List Int} (hl : b.length = 4) (hb : ∀ n ∈ b, Byte n) : cut2 (h8 b) = none ∧ (h8 b).head? ≠ some 58 ∧ ∃ w1 w2, words 58 (h8 b) = [w1, w2] ∧ optAll hexO [w1, w2] = some (pair b) ∧ h8 b ≠ [] := by
  match b, hl with
  | [a, b, c, d], _ =>
    have A := h4_hex (hb a (by simp)) (hb b (by simp))
    have C := h4_hex (hb c (by simp)) (hb d (by simp))
    have e : h8 [a, b, c, d] = joinC 58 [h4 a b, h4 c d] := rfl
    have f : ∀ w ∈ [h4 a b, h4 c d], 58 ∉ w ∧ w ≠ [] := by
      intro w hw
      simp only [List.mem_cons, List.not_mem_nil, or_false] at hw
      rcases hw with rfl | rfl
      · exact ⟨A.2, by simp [h4]⟩
      · exact ⟨C.2, by simp [h4]⟩
    refine ⟨by rw [e]; exact (cut2_join f).1, by rw [e]; exact (cut2_join f).2, _, _, by rw [e]; exact words_join (by simp) fun w hw => (f w hw).1, ?_, by simp [h8, h4]⟩
    rw [optAll_cons_some A.1 (optAll_cons_some C.1 rfl)]; rfl
theorem words_behind {H : List UInt8} (h : H = [] ∨ ∃ P, H = P ++ [58]) : ∃ ws, ∀ X, words 58 (H ++ X) = ws ++ words 58 X := by
  rcases h with rfl | ⟨P, rfl⟩
  · exact ⟨[], fun X => rfl⟩
  · exact ⟨words 58 P, fun X => by rw [List.append_assoc]; exact words_append 58 P X⟩
theorem tail_same {H w : List UInt8} {b : List Int} (h : p4 w = some b) (hH : H = [] ∨ ∃ P, H = P ++ [58]) : tailG (words 58 (H ++ w)) = optAll hexO (words 58 (H ++ h8 b)) := by
  obtain ⟨hl, hb, _⟩ := p4_some h
  obtain ⟨ws, e⟩ := words_behind hH
  obtain ⟨_, _, w1, w2, e2, e3, _⟩ := h8_cut hl hb
  rw [e, e, words_free (p4_free h).1, e2, tail_dots h, optAll_append, e3]
  cases optAll hexO ws <;> rfl
theorem q6_p6 {l : List UInt8} (h4 : p4 l = none) : q6 l = p6 l := by
  obtain ⟨e1, e2, e3⟩ := head_last l
  cases hp : p4 (lastW l) with
  | none =>
    have eu : und6 l = l := by unfold und6; rw [hp]
    have hl : ∀ w, (words 58 l).getLast? = some w → p4 w = none := fun w hw => by
      rw [(last_mem l).1] at hw
      rw [← Option.some.inj hw]; exact hp
    unfold q6 p6
    rw [eu]
    cases hc : cut2 l with
    | none =>
      dsimp only
      rw [tail_plain hl]
      unfold unl
      by_cases h0 : l = []
      · subst h0; rfl
      · rw [if_neg h0]
    | some p =>
      obtain ⟨f, b⟩ := p
      obtain ⟨ec, _⟩ := cut2_some hc
      dsimp only
      have : (if b = [] then some [] else tailG (words 58 b)) = unl b := by
        unfold unl
        by_cases h0 : b = []
        · rw [if_pos h0, if_pos h0]
        · rw [if_neg h0, if_neg h0, tail_plain]
          intro w hw
          refine hl w ?_
          rw [ec, show f ++ 58 :: 58 :: b = f ++ 58 :: (58 :: b) from rfl, words_append, words_cons_hit]
          rw [List.getLast?_append, List.getLast?_cons, hw]; rfl
      rw [this]
  | some b =>
    obtain ⟨hl, hb, _⟩ := p4_some hp
    obtain ⟨c1, c2, _⟩ := h8_cut hl hb
    have eu : und6 l = headW l ++ h8 b := by unfold und6; rw [hp]
    have f2 : (lastW l).head? ≠ some 58 := fun e => e2 (List.mem_of_mem_head? e)
    rcases e3 with hH | ⟨P, hH⟩
    · exfalso
      rw [hH, List.nil_append] at e1
      rw [e1, h4] at hp; cases hp
    · have k1 : cut2 l = (cut2 (P ++ [58])).map fun p => (p.1, p.2 ++ lastW l) := by
        conv => lhs; rw [← e1, hH, List.append_assoc]
        exact cut2_behind P _ (cut2_free e2) f2
      have k2 : cut2 (und6 l) = (cut2 (P ++ [58])).map fun p => (p.1, p.2 ++ h8 b) := by
        rw [eu, hH, List.append_assoc]
        exact cut2_behind P _ c1 c2
      unfold q6 p6
      rw [k1, k2]
      cases hc : cut2 (P ++ [58]) with
      | none =>
        dsimp only [Option.map]
        have : tailG (words 58 l) = unl (und6 l) := by
          have := tail_same hp (Or.inr ⟨P, hH⟩)
          rw [e1] at this
          rw [this, eu]
          unfold unl
          rw [if_neg (by rw [hH]; simp)]
        rw [this]
      | some p =>
        obtain ⟨f, b0⟩ := p
        dsimp only [Option.map]
        obtain ⟨ec, _⟩ := cut2_some hc
        have hb0 : b0 = [] ∨ ∃ Q, b0 = Q ++ [58] := by
          by_cases h0 : b0 = []
          · exact Or.inl h0
          · right
            refine ⟨b0.dropLast, ?_⟩
            have g := congrArg List.getLast? ec
            rw [List.getLast?_append, show f ++ 58 :: 58 :: b0 = (f ++ [58, 58]) ++ b0 by simp, List.getLast?_append, List.getLast?_eq_some_getLast h0] at g
            simp at g
            rw [g]
            exact (List.dropLast_concat_getLast h0).symm
        have n1 : b0 ++ lastW l ≠ [] := by simp [(p4_free hp).2]
        obtain ⟨_, _, _, _, _, _, n2⟩ := h8_cut hl hb
        have n2 : b0 ++ h8 b ≠ [] := by simp [n2]
        rw [if_neg n1, tail_same hp hb0]
        have : unl (b0 ++ h8 b) = optAll hexO (words 58 (b0 ++ h8 b)) := by unfold unl; rw [if_neg n2]
        rw [this]
theorem unl_lt {l : List UInt8} {x : List Nat} (h : unl l = some x) : ∀ n ∈ x, n < 65536 := by
  unfold unl at h
  split at h
  · cases h; simp
  · intro n hn; obtain ⟨w, _, e⟩ := optAll_from h hn; exact hexO_lt e
theorem q6_some {l : List UInt8} {g : List Nat} (h : q6 l = some g) : g.length = 8 ∧ ∀ n ∈ g, n < 65536 := by
  unfold q6 at h
  split at h
  · split at h
    · rename_i gs hg
      split at h
      · rename_i c; cases h; exact ⟨c, unl_lt hg⟩
      · cases h
    · cases h
  · split at h
    · rename_i x y hx hy
      split at h
      · rename_i c
        cases h
        refine ⟨by unfold fill8; simp; omega, fun n hn => ?_⟩
        unfold fill8 at hn
        rcases List.mem_append.1 hn with hn | hn
        · exact unl_lt hx n hn
        · rcases List.mem_append.1 hn with hn | hn
          · rw [List.eq_of_mem_replicate hn]; decide
          · exact unl_lt hy n hn
      · cases h
    · cases h
end Go.Proofs.YthghanidabmfgaaGreatDoor
