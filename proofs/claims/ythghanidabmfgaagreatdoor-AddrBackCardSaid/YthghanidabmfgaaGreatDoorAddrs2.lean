/-
  Plain lemmas: the text of an IPv6 address; what is printed is read as it was.
-/
import Derived.Test.YthghanidabmfgaaGreatDoorGroups5
namespace Go.Proofs.YthghanidabmfgaaGreatDoor
open Go.Lib
/-! ### The longest run of noughts -/
def zstep (p : Nat × Nat × Nat) (i : Nat) : Nat × Nat × Nat := if max (p.2.2 - p.2.1) 1 < i - p.1 then (i + 1, p.1, i) else (i + 1, p.2.1, p.2.2)
def zfold : List Bool → Nat → Nat × Nat × Nat → Nat × Nat × Nat
  | [], i, p => zstep p i
  | z :: r, i, p => zfold r (i + 1) (if z then p else zstep p i)
def zrun (bs : List Bool) : Nat × Nat := (zfold bs 0 (0, 0, 0)).2
theorem zrun_all : ∀ a b c d e f g h : Bool, (zrun [a, b, c, d, e, f, g, h]).1 ≤ (zrun [a, b, c, d, e, f, g, h]).2 ∧ (zrun [a, b, c, d, e, f, g, h]).2 ≤ 8 ∧ ((zrun [a, b, c, d, e, f, g, h]).2 ≠ (zrun [a, b, c, d, e, f, g, h]).1 → 2 ≤ (zrun [a, b, c, d, e, f, g, h]).2 - (zrun [a, b, c, d, e, f, g, h]).1 ∧
    ∀ i : Fin 8, (zrun [a, b, c, d, e, f, g, h]).1 ≤ i.val → i.val < (zrun [a, b, c, d, e, f, g, h]).2 → [a, b, c, d, e, f, g, h][i.val]? = some true) := by decide +kernel
theorem zrun_ok {bs : List Bool} (hl : bs.length = 8) : (zrun bs).1 ≤ (zrun bs).2 ∧ (zrun bs).2 ≤ 8 ∧ ((zrun bs).2 ≠ (zrun bs).1 → 2 ≤ (zrun bs).2 - (zrun bs).1 ∧ ∀ i, (zrun bs).1 ≤ i → i < (zrun bs).2 → bs[i]? = some true) := by
  match bs, hl with
  | [a, b, c, d, e, f, g, h], _ =>
    obtain ⟨h1, h2, h3⟩ := zrun_all a b c d e f g h
    exact ⟨h1, h2, fun n => ⟨(h3 n).1, fun i hi hj => (h3 n).2 ⟨i, by omega⟩ hi hj⟩⟩
def isZ (g : List Nat) : List Bool := g.map fun n => n == 0
def t6 (g : List Nat) : List UInt8 := if (zrun (isZ g)).2 = (zrun (isZ g)).1 then joinC 58 (g.map hexs) else joinC 58 ((g.take (zrun (isZ g)).1).map hexs) ++ 58 :: 58 :: joinC 58 ((g.drop (zrun (isZ g)).2).map hexs)
theorem hexs_words {gs : List Nat} : ∀ w ∈ gs.map hexs, 58 ∉ w ∧ w ≠ [] := by
  intro w hw
  obtain ⟨n, _, rfl⟩ := List.mem_map.1 hw
  exact ⟨hexs_free n 58 (by decide), hexs_ne n⟩
theorem join_ne {gs : List Nat} (h : gs ≠ []) : joinC 58 (gs.map hexs) ≠ [] := by
  cases gs with
  | nil => exact absurd rfl h
  | cons a r =>
    cases r with
    | nil => exact hexs_ne a
    | cons b r =>
      rw [List.map_cons, joinC_cons _ _ (by simp)]
      intro e
      exact hexs_ne a (List.append_eq_nil_iff.1 e).1
theorem words_hexs {gs : List Nat} (h : gs ≠ []) : words 58 (joinC 58 (gs.map hexs)) = gs.map hexs :=
  words_join (by simpa using h) fun w hw => (hexs_words w hw).1
theorem all_hexs {gs : List Nat} (hg : ∀ n ∈ gs, n < 65536) : optAll hexO (gs.map hexs) = some gs := by
  have := optAll_map (f := hexO) hexs id gs fun n hn => hexO_hexs n (hg n hn)
  simpa using this
theorem unl_join {gs : List Nat} (hg : ∀ n ∈ gs, n < 65536) : unl (joinC 58 (gs.map hexs)) = some gs := by
  unfold unl
  by_cases h : gs = []
  · subst h; rfl
  · rw [if_neg (join_ne h), words_hexs h, all_hexs hg]
theorem tail_join {gs : List Nat} (hg : ∀ n ∈ gs, n < 65536) (h : gs ≠ []) : tailG (words 58 (joinC 58 (gs.map hexs))) = some gs := by
  rw [words_hexs h, tail_plain, all_hexs hg]
  intro w hw
  have := List.mem_of_getLast? hw
  obtain ⟨n, _, rfl⟩ := List.mem_map.1 this
  exact p4_short (hexs_free n 46 (by decide))
theorem fill_run {g : List Nat} {s e : Nat} (hl : g.length = 8) (hs : s ≤ e) (he : e ≤ 8) (h : ∀ i, s ≤ i → i < e → g[i]? = some 0) : fill8 (g.take s) (g.drop e) = g := by
  unfold fill8
  have m : (g.drop s).take (e - s) = List.replicate (e - s) 0 := by
    refine List.ext_getElem? fun i => ?_
    by_cases hi : i < e - s
    · rw [List.getElem?_take_of_lt hi, List.getElem?_drop, h (s + i) (by omega) (by omega), List.getElem?_replicate_of_lt hi]
    · rw [List.getElem?_eq_none (by simp; omega), List.getElem?_eq_none (by simp; omega)]
  rw [show 8 - (g.take s).length - (g.drop e).length = e - s by simp [hl]; omega, ← m]
  conv => rhs; rw [← List.take_append_drop s g, ← List.take_append_drop (e - s) (g.drop s), List.drop_drop]
  rw [show s + (e - s) = e by omega]
theorem t6_colon {g : List Nat} (hl : g.length = 8) : 58 ∈ t6 g := by
  unfold t6
  split
  · match g, hl with
    | a :: b :: r, _ => rw [List.map_cons, List.map_cons, joinC_cons _ _ (by simp)]; simp
  · simp
theorem t6_parse {g : List Nat} (hl : g.length = 8) (hg : ∀ n ∈ g, n < 65536) : p4 (t6 g) = none ∧ p6 (t6 g) = some g := by
  constructor
  · cases h : p4 (t6 g) with
    | none => rfl
    | some b => exact absurd (t6_colon hl) (p4_free h).1
  have hne : g ≠ [] := by rintro rfl; cases hl
  have Z := zrun_ok (bs := isZ g) (by simp [isZ, hl])
  unfold p6 t6
  by_cases c : (zrun (isZ g)).2 = (zrun (isZ g)).1
  · rw [if_pos c, (cut2_join hexs_words).1]
    dsimp only
    rw [tail_join hg hne]
    simp [hl]
  · rw [if_neg c]
    obtain ⟨z1, z2, z3⟩ := Z
    obtain ⟨z3, z4⟩ := z3 c
    generalize (zrun (isZ g)).1 = s at *
    generalize (zrun (isZ g)).2 = e at *
    rw [cut2_run hexs_words]
    dsimp only
    have hs : ∀ n ∈ g.take s, n < 65536 := fun n hn => hg n (List.mem_of_mem_take hn)
    have he : ∀ n ∈ g.drop e, n < 65536 := fun n hn => hg n (List.mem_of_mem_drop hn)
    have hb : (if joinC 58 ((g.drop e).map hexs) = [] then some [] else tailG (words 58 (joinC 58 ((g.drop e).map hexs)))) = some (g.drop e) := by
      by_cases h0 : g.drop e = []
      · rw [h0]; rfl
      · rw [if_neg (join_ne h0), tail_join he h0]
    rw [unl_join hs, hb]
    dsimp only
    rw [if_pos (by simp [hl]; omega), fill_run hl z1 z2 fun i hi hj => ?_]
    have := z4 i hi hj
    simp only [isZ, List.getElem?_map, Option.map_eq_some_iff] at this
    obtain ⟨n, h1, h2⟩ := this
    rw [h1]; simpa using h2
/-! ### Addresses -/
def tx (v : Bool) (b : List Int) : List UInt8 := if v then t6 (b2g b) else t4 (b.take 4)
def parseA (l : List UInt8) : Option (Bool × List Int) := match p4 l with
  | some b => some (false, b ++ n12)
  | none => (q6 l).map fun g => (true, g2b g)
def IsA (b : List Int) : Prop := b.length = 16 ∧ ∀ n ∈ b, Byte n
theorem parse_tx {v : Bool} {b : List Int} (h : IsA b) (m : mayB v b = true) : parseA (tx v b) = some (v, b) := by
  obtain ⟨hl, hb⟩ := h
  cases v
  · have m : b.drop 4 = n12 := by simpa [mayB] using m
    have : p4 (tx false b) = some (b.take 4) := p4_t4 (by simp [hl]) fun n hn => hb n (List.mem_of_mem_take hn)
    unfold parseA
    rw [this]
    dsimp only
    rw [← m, List.take_append_drop]
  · have g1 : (b2g b).length = 8 := b2g_length 8 b hl
    obtain ⟨a, c⟩ := t6_parse g1 (b2g_lt hb)
    unfold parseA
    rw [show tx true b = t6 (b2g b) from rfl, a]
    dsimp only
    rw [q6_p6 a, c]
    show some (true, g2b (b2g b)) = _
    rw [g2b_b2g 8 hl hb]
theorem parse_is {l : List UInt8} {v : Bool} {b : List Int} (h : parseA l = some (v, b)) : IsA b ∧ mayB v b = true := by
  unfold parseA at h
  cases e : p4 l with
  | some c =>
    rw [e] at h
    simp only [Option.some.injEq, Prod.mk.injEq] at h
    obtain ⟨rfl, rfl⟩ := h
    obtain ⟨h1, h2, _⟩ := p4_some e
    refine ⟨⟨by simp [n12, h1], fun n hn => ?_⟩, ?_⟩
    · rcases List.mem_append.1 hn with hn | hn
      · exact h2 n hn
      · rw [List.eq_of_mem_replicate hn]; unfold Byte; omega
    · unfold mayB
      rw [List.drop_left' h1]; simp
  | none =>
    rw [e] at h
    cases e2 : q6 l with
    | none => rw [e2] at h; cases h
    | some g =>
      rw [e2] at h
      simp only [Option.map_some, Option.some.injEq, Prod.mk.injEq] at h
      obtain ⟨rfl, rfl⟩ := h
      obtain ⟨h1, h2⟩ := q6_some e2
      exact ⟨⟨by rw [g2b_length, h1], g2b_byte h2⟩, rfl⟩
theorem tx_inj {v v' : Bool} {b b' : List Int} (h : IsA b) (m : mayB v b = true) (h' : IsA b') (m' : mayB v' b' = true) (e : tx v b = tx v' b') : v = v' ∧ b = b' := by
  have := (parse_tx h m).symm.trans ((congrArg parseA e).trans (parse_tx h' m'))
  simpa using this
end Go.Proofs.YthghanidabmfgaaGreatDoor
