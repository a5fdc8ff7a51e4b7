/-
  Plain lemmas (no model): the words between bytes; hexadecimal groups; where two colons stand.
-/
import Derived.Test.YthghanidabmfgaaGreatDoorText
namespace Go.Proofs.YthghanidabmfgaaGreatDoor
open Go.Lib
/-! ### Words -/
def words (c : UInt8) : List UInt8 → List (List UInt8)
  | [] => [[]]
  | x :: r => if x = c then [] :: words c r else match words c r with
    | [] => [[x]]
    | p :: ps => (x :: p) :: ps
def joinC (c : UInt8) : List (List UInt8) → List UInt8
  | [] => []
  | [a] => a
  | a :: b :: r => a ++ c :: joinC c (b :: r)
theorem joinC_cons (c : UInt8) (a : List UInt8) {ws : List (List UInt8)} (h : ws ≠ []) : joinC c (a :: ws) = a ++ c :: joinC c ws := by
  cases ws with
  | nil => exact absurd rfl h
  | cons b r => rfl
theorem words_ne (c : UInt8) (l : List UInt8) : words c l ≠ [] := by
  cases l with
  | nil => simp [words]
  | cons x r => unfold words; split; · simp
                split <;> simp
theorem words_cons_hit (c : UInt8) (r : List UInt8) : words c (c :: r) = [] :: words c r := by simp [words]
theorem words_cons_miss {c x : UInt8} (h : x ≠ c) (r : List UInt8) {p : List UInt8} {ps : List (List UInt8)} (e : words c r = p :: ps) : words c (x :: r) = (x :: p) :: ps := by simp [words, h, e]
theorem words_free {c : UInt8} {l : List UInt8} (h : c ∉ l) : words c l = [l] := by
  induction l with
  | nil => rfl
  | cons x r ih =>
    have hx : x ≠ c := fun e => h (by rw [e]; exact List.mem_cons_self)
    exact words_cons_miss hx r (ih fun m => h (List.mem_cons_of_mem _ m))
theorem words_append (c : UInt8) (a b : List UInt8) : words c (a ++ c :: b) = words c a ++ words c b := by
  induction a with
  | nil => rw [List.nil_append, words_cons_hit]; rfl
  | cons x r ih =>
    rw [List.cons_append]
    by_cases h : x = c
    · subst h; rw [words_cons_hit, words_cons_hit, ih]; rfl
    · cases e : words c r with
      | nil => exact absurd e (words_ne c r)
      | cons p ps =>
        rw [words_cons_miss h r e, words_cons_miss h _ (by rw [ih, e]; rfl)]; rfl
theorem words_hit {c : UInt8} {a : List UInt8} (h : c ∉ a) (b : List UInt8) : words c (a ++ c :: b) = a :: words c b := by
  rw [words_append, words_free h]; rfl
theorem words_mem {c : UInt8} {l w : List UInt8} (h : w ∈ words c l) : c ∉ w := by
  induction l generalizing w with
  | nil => simp [words] at h; simp [h]
  | cons x r ih =>
    by_cases hx : x = c
    · subst hx
      rw [words_cons_hit] at h
      rcases List.mem_cons.1 h with rfl | h
      · simp
      · exact ih h
    · cases e : words c r with
      | nil => exact absurd e (words_ne c r)
      | cons p ps =>
        rw [words_cons_miss hx r e] at h
        rcases List.mem_cons.1 h with rfl | h
        · intro m
          rcases List.mem_cons.1 m with m | m
          · exact hx m.symm
          · exact ih (by rw [e]; exact List.mem_cons_self) m
        · exact ih (by rw [e]; exact List.mem_cons_of_mem _ h)
theorem join_words (c : UInt8) (l : List UInt8) : joinC c (words c l) = l := by
  induction l with
  | nil => rfl
  | cons x r ih =>
    by_cases hx : x = c
    · subst hx; rw [words_cons_hit, joinC_cons _ _ (words_ne _ _), ih]; rfl
    · cases e : words c r with
      | nil => exact absurd e (words_ne c r)
      | cons p ps =>
        rw [words_cons_miss hx r e]
        rw [e] at ih
        cases ps with
        | nil => simp only [joinC] at ih ⊢; rw [ih]
        | cons q ps => rw [joinC_cons _ _ (by simp)] at ih ⊢; rw [List.cons_append, ih]
theorem words_join {c : UInt8} {ws : List (List UInt8)} (hne : ws ≠ []) (h : ∀ w ∈ ws, c ∉ w) : words c (joinC c ws) = ws := by
  induction ws with
  | nil => exact absurd rfl hne
  | cons a r ih =>
    cases r with
    | nil => exact words_free (h a List.mem_cons_self)
    | cons b r =>
      rw [joinC_cons _ _ (by simp), words_hit (h a List.mem_cons_self), ih (by simp) fun w m => h w (List.mem_cons_of_mem _ m)]
theorem words_count (c : UInt8) (l : List UInt8) : (words c l).length = l.count c + 1 := by
  induction l with
  | nil => rfl
  | cons x r ih =>
    by_cases hx : x = c
    · subst hx; rw [words_cons_hit]; simp [ih]
    · cases e : words c r with
      | nil => exact absurd e (words_ne c r)
      | cons p ps =>
        rw [words_cons_miss hx r e, List.count_cons_of_ne hx, ← ih, e]; rfl
theorem mem_of_words {c x : UInt8} {l w : List UInt8} (h : w ∈ words c l) (hx : x ∈ w) : x ∈ l := by
  rw [← join_words c l]
  generalize words c l = ws at h
  induction ws with
  | nil => cases h
  | cons a r ih =>
    cases r with
    | nil => obtain rfl := List.mem_singleton.1 h; exact hx
    | cons b r =>
      rw [joinC_cons _ _ (by simp)]
      rcases List.mem_cons.1 h with rfl | h
      · exact List.mem_append_left _ hx
      · exact List.mem_append_right _ (List.mem_cons_of_mem _ (ih h))
theorem mem_words {c x : UInt8} {l : List UInt8} (h : x ∈ l) (hx : x ≠ c) : ∃ w ∈ words c l, x ∈ w := by
  rw [← join_words c l] at h
  generalize words c l = ws at h
  induction ws with
  | nil => cases h
  | cons a r ih =>
    cases r with
    | nil => exact ⟨a, List.mem_cons_self, h⟩
    | cons b r =>
      rw [joinC_cons _ _ (by simp)] at h
      rcases List.mem_append.1 h with h | h
      · exact ⟨a, List.mem_cons_self, h⟩
      · rcases List.mem_cons.1 h with h | h
        · exact absurd h hx
        · obtain ⟨w, m, k⟩ := ih h; exact ⟨w, List.mem_cons_of_mem _ m, k⟩
/-! ### What is read of each of them -/
def optAll {α β : Type} (f : α → Option β) : List α → Option (List β)
  | [] => some []
  | a :: r => match f a, optAll f r with
    | some b, some bs => some (b :: bs)
    | _, _ => none
theorem optAll_cons {α β : Type} (f : α → Option β) (a : α) (r : List α) : optAll f (a :: r) = (match f a, optAll f r with | some b, some bs => some (b :: bs) | _, _ => none) := by rw [optAll]
theorem optAll_cons_some {α β : Type} {f : α → Option β} {a : α} {r : List α} {b : β} {bs : List β} (h : f a = some b) (hr : optAll f r = some bs) : optAll f (a :: r) = some (b :: bs) := by simp [optAll, h, hr]
theorem optAll_none {α β : Type} {f : α → Option β} {l : List α} {a : α} (h : a ∈ l) (hf : f a = none) : optAll f l = none := by
  induction l with
  | nil => cases h
  | cons x r ih =>
    rcases List.mem_cons.1 h with rfl | h
    · simp [optAll, hf]
    · simp [optAll, ih h]
theorem optAll_inv {α β : Type} {f : α → Option β} {a : α} {r : List α} {bs : List β} (h : optAll f (a :: r) = some bs) : ∃ b bs', f a = some b ∧ optAll f r = some bs' ∧ bs = b :: bs' := by
  unfold optAll at h
  split at h
  · rename_i b bs' h1 h2; exact ⟨b, bs', h1, h2, (Option.some.inj h).symm⟩
  · cases h
theorem optAll_length {α β : Type} {f : α → Option β} {l : List α} {bs : List β} (h : optAll f l = some bs) : bs.length = l.length := by
  induction l generalizing bs with
  | nil => simp [optAll] at h; simp [← h]
  | cons a r ih => obtain ⟨b, bs', _, h2, rfl⟩ := optAll_inv h; simp [ih h2]
theorem optAll_append {α β : Type} (f : α → Option β) (a b : List α) : optAll f (a ++ b) = match optAll f a, optAll f b with | some x, some y => some (x ++ y) | _, _ => none := by
  induction a with
  | nil => simp [optAll]; cases optAll f b <;> rfl
  | cons x r ih =>
    simp only [List.cons_append, optAll, ih]
    cases f x <;> cases optAll f r <;> cases optAll f b <;> rfl
theorem optAll_mem {α β : Type} {f : α → Option β} {l : List α} {bs : List β} (h : optAll f l = some bs) {a : α} (ha : a ∈ l) : ∃ b ∈ bs, f a = some b := by
  induction l generalizing bs with
  | nil => cases ha
  | cons x r ih =>
    obtain ⟨b, bs', h1, h2, rfl⟩ := optAll_inv h
    rcases List.mem_cons.1 ha with rfl | ha
    · exact ⟨b, List.mem_cons_self, h1⟩
    · obtain ⟨c, m, e⟩ := ih h2 ha; exact ⟨c, List.mem_cons_of_mem _ m, e⟩
theorem optAll_from {α β : Type} {f : α → Option β} {l : List α} {bs : List β} (h : optAll f l = some bs) {b : β} (hb : b ∈ bs) : ∃ a ∈ l, f a = some b := by
  induction l generalizing bs with
  | nil => simp [optAll] at h; subst h; cases hb
  | cons x r ih =>
    obtain ⟨c, bs', h1, h2, rfl⟩ := optAll_inv h
    rcases List.mem_cons.1 hb with rfl | hb
    · exact ⟨x, List.mem_cons_self, h1⟩
    · obtain ⟨a, m, e⟩ := ih h2 hb; exact ⟨a, List.mem_cons_of_mem _ m, e⟩
theorem optAll_map {α β γ : Type} {f : β → Option γ} (g : α → β) (k : α → γ) (l : List α) (h : ∀ a ∈ l, f (g a) = some (k a)) : optAll f (l.map g) = some (l.map k) := by
  induction l with
  | nil => rfl
  | cons a r ih => exact optAll_cons_some (h a List.mem_cons_self) (ih fun x m => h x (List.mem_cons_of_mem _ m))
theorem optAll_congr {α β : Type} {f g : α → Option β} {l : List α} (h : ∀ a ∈ l, f a = g a) : optAll f l = optAll g l := by
  induction l with
  | nil => rfl
  | cons a r ih => simp only [optAll, h a List.mem_cons_self, ih fun x m => h x (List.mem_cons_of_mem _ m)]
theorem optAll_comp {α β γ : Type} (f : β → Option γ) (g : α → β) (l : List α) : optAll f (l.map g) = optAll (fun a => f (g a)) l := by
  induction l with
  | nil => rfl
  | cons a r ih => simp only [List.map_cons, optAll, ih]
/-! ### Groups of hexadecimal digits -/
def hxd (n : Nat) : UInt8 := UInt8.ofNat (if n < 10 then 48 + n else 87 + n)
theorem hxd_nat (n : Nat) (h : n < 16) : (hxd n).toNat = if n < 10 then 48 + n else 87 + n := by
  unfold hxd
  split <;> (simp only [UInt8.toNat_ofNat']; omega)
def hexs (n : Nat) : List UInt8 := if n < 16 then [hxd n] else hexs (n / 16) ++ [hxd (n % 16)]
def hvN (n : Nat) : Option Nat := if 48 ≤ n ∧ n ≤ 57 then some (n - 48) else if 97 ≤ n ∧ n ≤ 102 then some (n - 87) else if 65 ≤ n ∧ n ≤ 70 then some (n - 55) else none
def isHex (c : UInt8) : Bool := (hvN c.toNat).isSome
def hval (c : UInt8) : Nat := (hvN c.toNat).getD 0
theorem hval_lt (c : UInt8) : hval c < 16 := by
  unfold hval hvN; (repeat' split) <;> simp <;> omega
theorem hex_hxd (n : Nat) (h : n < 16) : isHex (hxd n) = true ∧ hval (hxd n) = n := by
  unfold isHex hval hvN
  rw [hxd_nat n h]
  by_cases c : n < 10
  · rw [if_pos c, if_pos (by omega)]; simp
  · rw [if_neg c, if_neg (by omega), if_pos (by omega)]; simp
def hexV (l : List UInt8) : Nat := l.foldl (fun a c => 16 * a + hval c) 0
theorem hexV_append (l : List UInt8) (c : UInt8) : hexV (l ++ [c]) = 16 * hexV l + hval c := by simp [hexV, List.foldl_append]
theorem hexV_lt (l : List UInt8) : hexV l < 16 ^ l.length := by
  have h : ∀ (k : Nat) (l : List UInt8), l.length = k → hexV l < 16 ^ k := by
    intro k
    induction k with
    | zero => intro l hl; obtain rfl := List.length_eq_zero_iff.1 hl; simp [hexV]
    | succ k ih =>
      intro l hl
      have hne : l ≠ [] := by rintro rfl; cases hl
      have e := List.dropLast_concat_getLast hne
      have i := ih l.dropLast (by rw [List.length_dropLast]; omega)
      rw [← e, hexV_append, Nat.pow_succ]
      have := hval_lt (l.getLast hne)
      omega
  exact h _ l rfl
def hexO (l : List UInt8) : Option Nat := if 1 ≤ l.length ∧ l.length ≤ 4 ∧ l.all isHex = true then some (hexV l) else none
theorem hexs_hex (n : Nat) : (hexs n).all isHex = true ∧ hexV (hexs n) = n := by
  induction n using Nat.strongRecOn with
  | _ n ih =>
    unfold hexs
    split
    · rename_i h; have := hex_hxd n h; simp [hexV, this.1, this.2]
    · rename_i h
      obtain ⟨a, b⟩ := ih (n / 16) (by omega)
      have c := hex_hxd (n % 16) (by omega)
      rw [hexV_append, b, c.2]
      refine ⟨by simp [a, c.1], by omega⟩
theorem hexs_ne (n : Nat) : hexs n ≠ [] := by unfold hexs; split <;> simp
theorem hexs_length (k n : Nat) (h : n < 16 ^ k) (hk : 1 ≤ k) : (hexs n).length ≤ k := by
  induction k generalizing n with
  | zero => omega
  | succ k ih =>
    unfold hexs
    split
    · simp
    · have : k ≠ 0 := by rintro rfl; simp at h; omega
      have := ih (n / 16) (by rw [Nat.pow_succ] at h; omega) (by omega)
      simp; omega
theorem hexO_hexs (n : Nat) (h : n < 65536) : hexO (hexs n) = some n := by
  have l := hexs_length 4 n (by simpa using h) (by decide)
  have n1 : 1 ≤ (hexs n).length := Nat.one_le_iff_ne_zero.2 fun e => hexs_ne n (List.length_eq_zero_iff.1 e)
  unfold hexO
  rw [if_pos ⟨n1, l, (hexs_hex n).1⟩, (hexs_hex n).2]
theorem hexO_lt {l : List UInt8} {n : Nat} (h : hexO l = some n) : n < 65536 := by
  unfold hexO at h
  split at h
  · rename_i c
    obtain rfl := Option.some.inj h
    have := hexV_lt l
    have : (16 : Nat) ^ l.length ≤ 16 ^ 4 := Nat.pow_le_pow_right (by decide) c.2.1
    omega
  · cases h
theorem isHex_not {c : UInt8} (h : isHex c = true) : c ≠ 46 ∧ c ≠ 58 ∧ c ≠ 91 ∧ c ≠ 93 ∧ c.toNat < 128 := by
  refine ⟨?_, ?_, ?_, ?_, ?_⟩
  · rintro rfl; revert h; decide
  · rintro rfl; revert h; decide
  · rintro rfl; revert h; decide
  · rintro rfl; revert h; decide
  · unfold isHex hvN at h
    (repeat' split at h) <;> first | omega | (simp at h)
theorem hexs_free (n : Nat) (c : UInt8) (h : isHex c = false) : c ∉ hexs n := by
  intro m
  have := List.all_eq_true.1 (hexs_hex n).1 c m
  rw [h] at this; cases this
/-! ### Two colons -/
def cut2 : List UInt8 → Option (List UInt8 × List UInt8)
  | [] => none
  | [_] => none
  | x :: y :: r => if x = 58 ∧ y = 58 then some ([], r) else (cut2 (y :: r)).map fun p => (x :: p.1, p.2)
theorem cut2_hit (r : List UInt8) : cut2 (58 :: 58 :: r) = some ([], r) := by simp [cut2]
theorem cut2_miss {x y : UInt8} (h : ¬ (x = 58 ∧ y = 58)) (r : List UInt8) : cut2 (x :: y :: r) = (cut2 (y :: r)).map fun p => (x :: p.1, p.2) := by simp only [cut2, if_neg h]
theorem cut2_some {l f b : List UInt8} (h : cut2 l = some (f, b)) : l = f ++ 58 :: 58 :: b ∧ cut2 (f ++ [58]) = none := by
  induction l generalizing f with
  | nil => cases h
  | cons x r ih =>
    cases r with
    | nil => cases h
    | cons y r =>
      by_cases c : x = 58 ∧ y = 58
      · obtain ⟨rfl, rfl⟩ := c
        rw [cut2_hit] at h
        cases h
        exact ⟨rfl, rfl⟩
      · rw [cut2_miss c] at h
        cases e : cut2 (y :: r) with
        | none => rw [e] at h; cases h
        | some p =>
          rw [e] at h
          simp at h
          obtain ⟨rfl, rfl⟩ := h
          obtain ⟨i1, i2⟩ := ih (f := p.1) (by rw [e])
          refine ⟨by rw [i1]; rfl, ?_⟩
          cases q : p.1 with
          | nil =>
            rw [q] at i1
            simp at i1
            rw [i1.1] at c
            show cut2 [x, 58] = none
            rw [cut2_miss (fun k => c ⟨k.1, rfl⟩)]; rfl
          | cons z t =>
            rw [q] at i1 i2
            have hz : y = z := (List.cons.inj i1).1
            subst hz
            show cut2 (x :: y :: (t ++ [58])) = none
            rw [cut2_miss c, show y :: (t ++ [58]) = y :: t ++ [58] from rfl, i2]; rfl
/-- Behind a colon stands something that begins with none. -/
theorem cut2_behind (P X : List UInt8) (hX : cut2 X = none) (hh : X.head? ≠ some 58) : cut2 (P ++ 58 :: X) = (cut2 (P ++ [58])).map fun p => (p.1, p.2 ++ X) := by
  induction P with
  | nil =>
    show cut2 (58 :: X) = (cut2 [58]).map _
    cases X with
    | nil => rfl
    | cons y r =>
      have : y ≠ 58 := fun e => hh (by rw [e]; rfl)
      rw [cut2_miss (fun k => this k.2), hX]; rfl
  | cons x P ih =>
    cases P with
    | nil =>
      show cut2 (x :: 58 :: X) = (cut2 [x, 58]).map _
      by_cases c : x = 58
      · subst c; rw [cut2_hit, cut2_hit]; simp
      · rw [cut2_miss (fun k => c k.1), cut2_miss (fun k => c k.1)]
        rw [show cut2 (58 :: X) = _ from ih, Option.map_map, Option.map_map]; rfl
    | cons y P =>
      show cut2 (x :: y :: (P ++ 58 :: X)) = (cut2 (x :: y :: (P ++ [58]))).map _
      by_cases c : x = 58 ∧ y = 58
      · obtain ⟨rfl, rfl⟩ := c; rw [cut2_hit, cut2_hit]; simp
      · rw [cut2_miss c, cut2_miss c, show cut2 (y :: (P ++ 58 :: X)) = _ from ih, Option.map_map, Option.map_map]; rfl
theorem cut2_free {l : List UInt8} (h : 58 ∉ l) : cut2 l = none := by
  induction l with
  | nil => rfl
  | cons x r ih =>
    cases r with
    | nil => rfl
    | cons y r =>
      rw [cut2_miss (fun k => h (by rw [k.1]; exact List.mem_cons_self)), ih fun m => h (List.mem_cons_of_mem _ m)]; rfl
theorem cut2_append_free {A B : List UInt8} (hA : 58 ∉ A) : cut2 (A ++ B) = if A = [] then cut2 B else (cut2 B).map fun p => (A ++ p.1, p.2) := by
  induction A with
  | nil => simp
  | cons x A ih =>
    have hx : x ≠ 58 := fun e => hA (by rw [e]; exact List.mem_cons_self)
    have ih := ih fun m => hA (List.mem_cons_of_mem _ m)
    rw [if_neg (by simp)]
    cases e : A ++ B with
    | nil =>
      obtain ⟨rfl, rfl⟩ := List.append_eq_nil_iff.1 e; rfl
    | cons y r =>
      rw [List.cons_append, e, cut2_miss (fun k => hx k.1), ← e, ih]
      split
      · rename_i h; subst h; rfl
      · cases cut2 B <;> rfl
/-- Words joined by colons, none of them empty. -/
theorem cut2_join {ws : List (List UInt8)} (h : ∀ w ∈ ws, 58 ∉ w ∧ w ≠ []) : cut2 (joinC 58 ws) = none ∧ (joinC 58 ws).head? ≠ some 58 := by
  induction ws with
  | nil => exact ⟨rfl, by simp [joinC]⟩
  | cons a r ih =>
    have ha := h a List.mem_cons_self
    have hd : ∀ t : List UInt8, (a ++ t).head? ≠ some 58 := fun t => by
      cases a with
      | nil => exact absurd rfl ha.2
      | cons x a => simp; rintro rfl; exact ha.1 List.mem_cons_self
    cases r with
    | nil => exact ⟨cut2_free ha.1, by simpa [joinC] using hd []⟩
    | cons b r =>
      obtain ⟨i1, i2⟩ := ih fun w m => h w (List.mem_cons_of_mem _ m)
      rw [joinC_cons _ _ (by simp)]
      exact ⟨by rw [cut2_behind a _ i1 i2, cut2_append_free ha.1, if_neg ha.2]; rfl, hd _⟩
theorem cut2_run {ws : List (List UInt8)} (h : ∀ w ∈ ws, 58 ∉ w ∧ w ≠ []) (B : List UInt8) : cut2 (joinC 58 ws ++ 58 :: 58 :: B) = some (joinC 58 ws, B) := by
  induction ws with
  | nil => exact cut2_hit B
  | cons a r ih =>
    have ha := h a List.mem_cons_self
    cases r with
    | nil =>
      show cut2 (a ++ 58 :: 58 :: B) = some (a, B)
      rw [cut2_append_free ha.1, if_neg ha.2, cut2_hit]; simp
    | cons b r =>
      have i := ih fun w m => h w (List.mem_cons_of_mem _ m)
      have d := (cut2_join fun w m => h w (List.mem_cons_of_mem _ m)).2
      rw [joinC_cons _ _ (by simp), List.append_assoc, List.cons_append, cut2_append_free ha.1, if_neg ha.2]
      have hb := (h b (by simp)).2
      have hb1 := (h b (by simp)).1
      have e : ∃ y t, joinC 58 (b :: r) ++ 58 :: 58 :: B = y :: t ∧ y ≠ 58 := by
        cases b with
        | nil => exact absurd rfl hb
        | cons y b =>
          cases r with
          | nil => exact ⟨y, _, rfl, fun e => hb1 (by rw [e]; exact List.mem_cons_self)⟩
          | cons c r => rw [joinC_cons _ _ (by simp)]; exact ⟨y, _, rfl, fun e => hb1 (by rw [e]; exact List.mem_cons_self)⟩
      obtain ⟨y, t, e, hy⟩ := e
      rw [e, cut2_miss (fun k => hy k.2), ← e, i]; simp
end Go.Proofs.YthghanidabmfgaaGreatDoor
