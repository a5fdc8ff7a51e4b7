/-
  Plain lemmas: great letters make no difference to what is read as an address.
-/
import Derived.Test.YthghanidabmfgaaGreatDoorLong5
import Derived.Shelf.Strings.CaseAny
import Derived.Lib.TrimUEq
namespace Go.Proofs.YthghanidabmfgaaGreatDoor
open Go.Lib
/-! ### Beyond ASCII -/
def rowUp (x : CaseRow) : Bool := decide (x.2.1 < 128) || (decide (128 ≤ x.1) && (decide (x.delta 0 > 1114111) || decide (128 ≤ (x.1 : Int) + x.delta 0) || (decide (x.1 = x.2.1) && (decide ((x.1 : Int) + x.delta 0 = 73) || decide ((x.1 : Int) + x.delta 0 = 83)))))
set_option maxRecDepth 1000000 in
theorem rowsUp : caseT.all rowUp = true := by decide +kernel
theorem caseA_up (i : Nat) (hi : i < caseA.size) : rowUp (caseA.getD i (0, 0, 0, 0, 0)) = true := by
  have hm : caseA.getD i (0, 0, 0, 0, 0) ∈ caseT := by
    unfold caseA at hi ⊢
    simp only [List.size_toArray] at hi
    simp [Array.getD, hi]
  exact List.all_eq_true.1 rowsUp _ hm
theorem up_rune (r : Int) (h : 128 ≤ r) : 128 ≤ toUpperU r ∨ toUpperU r = 73 ∨ toUpperU r = 83 := by
  unfold toUpperU
  rw [if_neg (by omega)]
  unfold toR lookupGo
  cases hi : lookupIdx caseA r (caseA.size + 1) 0 caseA.size with
  | none => left; exact h
  | some i =>
    obtain ⟨hil, hlo, hhi⟩ := lookupIdx_some caseA r _ _ _ i hi
    have hx := caseA_up i hil
    show 128 ≤ convertR 0 r (caseA.getD i (0, 0, 0, 0, 0)) ∨ convertR 0 r (caseA.getD i (0, 0, 0, 0, 0)) = 73 ∨ convertR 0 r (caseA.getD i (0, 0, 0, 0, 0)) = 83
    generalize caseA.getD i (0, 0, 0, 0, 0) = x at *
    unfold rowUp at hx
    simp only [Bool.or_eq_true, Bool.and_eq_true, decide_eq_true_eq] at hx
    unfold convertR
    split
    · omega
    · omega
theorem okc_low {c : UInt8} (h : okc c) : c.toNat < 128 := by
  rcases h with h | rfl | rfl
  · exact (isHex_not h).2.2.2.2
  · decide
  · decide
theorem high_byte {x : Int} (h : 128 ≤ x ∧ x ≤ 255) : 128 ≤ (x.toNat.toUInt8).toNat := by
  have : (x.toNat.toUInt8).toNat = x.toNat % 256 := by simp
  omega
theorem encode_high {v : Int} (h : 128 ≤ v) : ∃ c ∈ encodeRune v, 128 ≤ c.toNat := by
  unfold encodeRune encodeRuneZ
  split
  · omega
  · split
    · exact ⟨_, List.mem_map.2 ⟨_, List.mem_cons_self, rfl⟩, high_byte (by omega)⟩
    · split
      · exact ⟨_, List.mem_map.2 ⟨_, List.mem_cons_self, rfl⟩, high_byte (by omega)⟩
      · split
        · exact ⟨_, List.mem_map.2 ⟨_, List.mem_cons_self, rfl⟩, high_byte (by omega)⟩
        · exact ⟨_, List.mem_map.2 ⟨_, List.mem_cons_self, rfl⟩, high_byte (by omega)⟩
theorem up_bad (r : Int) (h : 128 ≤ r) : ∃ c ∈ encodeRune (toUpperU r), ¬ okc c := by
  rcases up_rune r h with u | u | u
  · obtain ⟨c, hc, hb⟩ := encode_high u
    exact ⟨c, hc, fun q => by have := okc_low q; omega⟩
  · rw [u]; exact ⟨73, by decide, by unfold okc isHex hvN; decide⟩
  · rw [u]; exact ⟨83, by decide, by unfold okc isHex hvN; decide⟩
theorem decodeL_high {b : UInt8} {t : List UInt8} (h : 128 ≤ b.toNat) : 128 ≤ (decodeL (b :: t)).1 := by
  have e := decodeL_drop (str (b :: t)) 0
  rw [str_list, List.drop_zero] at e
  rw [e]
  exact (decode_high (str (b :: t)) 0 (by rw [str_size]; simp) h).1
theorem upper_bad : ∀ (n : Nat) (l : List UInt8), l.length ≤ n → (∃ b ∈ l, 128 ≤ b.toNat) → ∃ c ∈ toUpperD l, ¬ okc c
  | 0, l, hl, h => by
    obtain ⟨b, hb, _⟩ := h
    rw [List.length_eq_zero_iff.1 (by omega : l.length = 0)] at hb
    cases hb
  | n + 1, [], _, h => by obtain ⟨b, hb, _⟩ := h; cases hb
  | n + 1, b :: t, hl, h => by
    have st := mapD_step toUpperU (b :: t) (by simp)
    by_cases hb : b.toNat < 128
    · have ih := upper_bad n t (by simpa using hl) (by
        obtain ⟨x, hx, hx2⟩ := h
        rcases List.mem_cons.1 hx with rfl | hx
        · omega
        · exact ⟨x, hx, hx2⟩)
      obtain ⟨c, hc, ho⟩ := ih
      refine ⟨c, ?_, ho⟩
      unfold toUpperD at hc ⊢
      rw [st, decodeL_ascii b t hb]
      exact List.mem_append_right _ hc
    · have hr := decodeL_high (b := b) (t := t) (by omega)
      have h0 := decodeL_rune (b :: t)
      obtain ⟨c, hc, ho⟩ := up_bad ((decodeL (b :: t)).1 : Int) (by omega)
      refine ⟨c, ?_, ho⟩
      unfold toUpperD
      rw [st, if_pos (toUpperU_range _ h0).1]
      exact List.mem_append_left _ hc
/-! ### ASCII -/
theorem up_fix : ∀ n : Fin 256, ((upperB (UInt8.ofNat n.val) = 58 ↔ UInt8.ofNat n.val = 58) ∧ (upperB (UInt8.ofNat n.val) = 46 ↔ UInt8.ofNat n.val = 46)) ∧ (isHex (upperB (UInt8.ofNat n.val)) = isHex (UInt8.ofNat n.val)) ∧ (hval (upperB (UInt8.ofNat n.val)) = hval (UInt8.ofNat n.val)) ∧
    ((upperB (UInt8.ofNat n.val) = 46 ∨ (48 ≤ (upperB (UInt8.ofNat n.val)).toNat ∧ (upperB (UInt8.ofNat n.val)).toNat ≤ 57)) → upperB (UInt8.ofNat n.val) = UInt8.ofNat n.val) ∧
    ((UInt8.ofNat n.val = 46 ∨ (48 ≤ (UInt8.ofNat n.val).toNat ∧ (UInt8.ofNat n.val).toNat ≤ 57)) → upperB (UInt8.ofNat n.val) = UInt8.ofNat n.val) := by decide +kernel
theorem up_all (c : UInt8) : (upperB c = 58 ↔ c = 58) ∧ isHex (upperB c) = isHex c ∧ hval (upperB c) = hval c ∧ ((upperB c = 46 ∨ (48 ≤ (upperB c).toNat ∧ (upperB c).toNat ≤ 57)) → upperB c = c) ∧ ((c = 46 ∨ (48 ≤ c.toNat ∧ c.toNat ≤ 57)) → upperB c = c) := by
  have := up_fix ⟨c.toNat, c.toNat_lt⟩
  simp only [UInt8.ofNat_toNat] at this
  exact ⟨this.1.1, this.2.1, this.2.2.1, this.2.2.2.1, this.2.2.2.2⟩
def up (l : List UInt8) : List UInt8 := l.map upperB
theorem up_same {l : List UInt8} (h : ∀ c ∈ l, upperB c = c) : up l = l := by
  unfold up
  conv => rhs; rw [← List.map_id l]
  exact List.map_congr_left fun c hc => h c hc
theorem p4_up (l : List UInt8) : p4 (up l) = p4 l := by
  cases h : p4 l with
  | some b => rw [up_same fun c hc => (up_all c).2.2.2.2 (p4_chars h c hc), h]
  | none =>
    cases h2 : p4 (up l) with
    | none => rfl
    | some b =>
      have e : up l = l := up_same fun c hc => (up_all c).2.2.2.1 (p4_chars h2 _ (List.mem_map.2 ⟨c, hc, rfl⟩))
      rw [e, h] at h2
      cases h2
theorem hexV_up (l : List UInt8) : hexV (up l) = hexV l := by
  unfold hexV up
  rw [List.foldl_map]
  congr 1
  funext a c
  rw [(up_all c).2.2.1]
theorem hexO_up (l : List UInt8) : hexO (up l) = hexO l := by
  unfold hexO
  rw [hexV_up, show (up l).length = l.length by simp [up], show (up l).all isHex = l.all isHex by
    unfold up
    rw [List.all_map]
    congr 1
    funext c
    exact (up_all c).2.1]
theorem words_up (l : List UInt8) : words 58 (up l) = (words 58 l).map up := by
  induction l with
  | nil => rfl
  | cons x r ih =>
    by_cases hx : x = 58
    · subst hx
      show words 58 (upperB 58 :: up r) = _
      rw [show upperB 58 = 58 from (up_all 58).1.2 rfl, words_cons_hit, words_cons_hit, ih]; rfl
    · cases e : words 58 r with
      | nil => exact absurd e (words_ne 58 r)
      | cons p ps =>
        rw [words_cons_miss hx r e]
        show words 58 (upperB x :: up r) = _
        rw [words_cons_miss (fun q => hx ((up_all x).1.1 q)) _ (show words 58 (up r) = up p :: ps.map up by rw [ih, e]; rfl)]
        rfl
theorem all_up (ws : List (List UInt8)) : optAll hexO (ws.map up) = optAll hexO ws := by
  rw [optAll_comp]
  exact optAll_congr fun a _ => hexO_up a
theorem tail_up (ws : List (List UInt8)) : tailG (ws.map up) = tailG ws := by
  induction ws with
  | nil => rfl
  | cons w r ih =>
    cases r with
    | nil =>
      show tailG [up w] = tailG [w]
      simp only [tailG, p4_up, hexO_up]
    | cons v r =>
      show tailG (up w :: up v :: r.map up) = _
      have ih' : tailG (up v :: r.map up) = tailG (v :: r) := ih
      simp only [tailG, hexO_up, ih']
theorem cut2_up (l : List UInt8) : cut2 (up l) = (cut2 l).map fun p => (up p.1, up p.2) := by
  induction l with
  | nil => rfl
  | cons x r ih =>
    cases r with
    | nil => rfl
    | cons y r =>
      by_cases c : x = 58 ∧ y = 58
      · obtain ⟨rfl, rfl⟩ := c
        show cut2 (upperB 58 :: upperB 58 :: up r) = _
        rw [show upperB 58 = 58 from (up_all 58).1.2 rfl, cut2_hit, cut2_hit]; rfl
      · show cut2 (upperB x :: upperB y :: up r) = _
        rw [cut2_miss (fun q => c ⟨(up_all x).1.1 q.1, (up_all y).1.1 q.2⟩), cut2_miss c]
        have ih' : cut2 (upperB y :: up r) = (cut2 (y :: r)).map fun p => (up p.1, up p.2) := ih
        rw [ih']
        cases cut2 (y :: r) <;> rfl
theorem up_nil {l : List UInt8} : up l = [] ↔ l = [] := by simp [up]
theorem unl_up (l : List UInt8) : unl (up l) = unl l := by
  unfold unl
  by_cases h : l = []
  · rw [if_pos (up_nil.2 h), if_pos h]
  · rw [if_neg (fun q => h (up_nil.1 q)), if_neg h, words_up, all_up]
theorem p6_up (l : List UInt8) : p6 (up l) = p6 l := by
  unfold p6
  rw [cut2_up]
  cases cut2 l with
  | none =>
    dsimp only [Option.map]
    rw [words_up, tail_up]
  | some p =>
    obtain ⟨f, b⟩ := p
    dsimp only [Option.map]
    rw [unl_up]
    by_cases h : b = []
    · rw [if_pos (up_nil.2 h), if_pos h]
    · rw [if_neg (fun q => h (up_nil.1 q)), if_neg h, words_up, tail_up]
theorem parse_up (l : List UInt8) : parseA (up l) = parseA l := by
  unfold parseA
  rw [p4_up]
  cases h : p4 l with
  | some b => rfl
  | none =>
    dsimp only
    rw [q6_p6 h, q6_p6 (by rw [p4_up]; exact h), p6_up]
/-- Great letters make no difference. -/
theorem parse_upper (l : List UInt8) : parseA (toUpperD l) = parseA l := by
  by_cases h : ∃ b ∈ l, 128 ≤ b.toNat
  · have e1 : parseA l = none := by
      cases hp : parseA l with
      | none => rfl
      | some a =>
        obtain ⟨b, hb, hh⟩ := h
        have := okc_low (parse_okc hp b hb)
        omega
    obtain ⟨c, hc, ho⟩ := upper_bad l.length l (Nat.le_refl _) h
    rw [e1]
    cases hp : parseA (toUpperD l) with
    | none => rfl
    | some a => exact absurd (parse_okc hp c hc) ho
  · have ha : ∀ b ∈ l, b.toNat < 128 := fun b hb => Nat.lt_of_not_le fun q => h ⟨b, hb, q⟩
    rw [toUpperD_ascii l ha]
    exact parse_up l
end Go.Proofs.YthghanidabmfgaaGreatDoor
