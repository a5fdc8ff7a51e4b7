/-
  Plain lemmas (no model): the text of a number ('Lib.itoa', 'Lib.decDigits': the kit's) and its reading.
-/
import Derived.Lib.ItoaNum
namespace Go.Proofs.YtcipgagpmglikaaGreatDoor
open Go.Lib

/-- The number that decimal digits make, whatever they are. -/
def horner (l : List UInt8) : Nat := l.foldl (fun a c => 10 * a + (c.toNat - 48)) 0
theorem horner_append (l : List UInt8) (c : UInt8) : horner (l ++ [c]) = 10 * horner l + (c.toNat - 48) := by simp [horner, List.foldl_append]
theorem dig_toNat (m : Nat) (h : m < 10) : (UInt8.ofNat (48 + m)).toNat = 48 + m := by
  simp [UInt8.toNat_ofNat']; omega
theorem horner_dec (u : Nat) : horner (decDigits u) = u := by
  induction u using Nat.strongRecOn with
  | _ u ih =>
    by_cases h : u < 10
    · rw [decDigits, dif_pos h]
      have := dig_toNat u h
      simp [horner]
      simp at this
      omega
    · rw [decDigits, dif_neg h, horner_append, ih (u / 10) (by omega), dig_toNat _ (by omega)]
      omega
theorem dec_all (u : Nat) : ∀ c ∈ decDigits u, 48 ≤ c.toNat ∧ c.toNat ≤ 57 := by
  induction u using Nat.strongRecOn with
  | _ u ih =>
    by_cases h : u < 10
    · rw [decDigits, dif_pos h]
      intro c hc
      obtain rfl := List.mem_singleton.1 hc
      rw [dig_toNat u h]
      omega
    · rw [decDigits, dif_neg h]
      intro c hc
      rcases List.mem_append.1 hc with hc | hc
      · exact ih _ (by omega) c hc
      · obtain rfl := List.mem_singleton.1 hc
        rw [dig_toNat _ (by omega)]
        omega
theorem dec_ne (u : Nat) : decDigits u ≠ [] := by
  intro h
  have := decDigits_length u
  rw [h] at this
  have := nDigits_pos u
  simp at *
  omega
theorem dec_inj {u v : Nat} (h : decDigits u = decDigits v) : u = v := by rw [← horner_dec u, h, horner_dec]
theorem dec_no_minus (u : Nat) (l : List UInt8) : decDigits u ≠ 45 :: l := by
  intro h
  have := dec_all u 45 (by rw [h]; exact List.mem_cons_self)
  revert this
  decide
theorem itoa_inj {m n : Int} (h : itoa m = itoa n) : m = n := by
  unfold itoa at h
  split at h <;> split at h
  · have := dec_inj (List.cons.inj h).2; omega
  · exact absurd h.symm (dec_no_minus _ _)
  · exact absurd h (dec_no_minus _ _)
  · have := dec_inj h; omega
theorem itoa_ne (n : Int) : itoa n ≠ [] := by
  unfold itoa
  split
  · simp
  · exact dec_ne _
/-- A text without its sign. -/
def bare (l : List UInt8) : List UInt8 := match l with | 45 :: r => r | l => l
def minus (l : List UInt8) : Bool := match l with | 45 :: _ => true | _ => false
theorem bare_dec (u : Nat) : bare (decDigits u) = decDigits u := by
  unfold bare
  split
  · rename_i r h; exact absurd h (dec_no_minus _ _)
  · rfl
theorem minus_dec (u : Nat) : minus (decDigits u) = false := by
  unfold minus
  split
  · rename_i r h; exact absurd h (dec_no_minus _ _)
  · rfl
theorem bare_itoa (n : Int) : bare (itoa n) = decDigits n.natAbs := by
  unfold itoa
  split
  · rfl
  · rw [bare_dec, show n.toNat = n.natAbs by omega]
theorem minus_itoa (n : Int) : minus (itoa n) = decide (n < 0) := by
  unfold itoa
  split <;> rename_i h
  · simp [minus, h]
  · rw [minus_dec]; simp [h]
/-- The one number whose text a list may be. -/
def cand (l : List UInt8) : Int := if minus l then -(horner (bare l) : Int) else horner (bare l)
theorem cand_itoa (n : Int) : cand (itoa n) = n := by
  unfold cand
  rw [bare_itoa, minus_itoa, horner_dec]
  split <;> rename_i h <;> simp at h <;> omega
/-- A text's number, from lo to hi; none: it is no number's there. -/
def num? (lo hi : Int) (l : List UInt8) : Option Int := if itoa (cand l) = l ∧ lo ≤ cand l ∧ cand l ≤ hi then some (cand l) else none
theorem num?_itoa {lo hi n : Int} (h : lo ≤ n ∧ n ≤ hi) : num? lo hi (itoa n) = some n := by
  unfold num?
  rw [cand_itoa, if_pos ⟨rfl, h⟩]
theorem num?_some {lo hi n : Int} {l : List UInt8} (h : num? lo hi l = some n) : l = itoa n ∧ lo ≤ n ∧ n ≤ hi := by
  unfold num? at h
  split at h
  · rename_i c
    obtain rfl := Option.some.inj h
    exact ⟨c.1.symm, c.2⟩
  · cases h
theorem num?_none {lo hi : Int} {l : List UInt8} (h : num? lo hi l = none) (n : Int) (hn : lo ≤ n ∧ n ≤ hi) : itoa n ≠ l := by
  rintro rfl
  rw [num?_itoa hn] at h
  cases h
theorem num?_of_not {lo hi : Int} {l : List UInt8} (h : ∀ n, lo ≤ n ∧ n ≤ hi → itoa n ≠ l) : num? lo hi l = none := by
  cases e : num? lo hi l with
  | none => rfl
  | some n => obtain ⟨a, b⟩ := num?_some e; exact absurd a.symm (h n b)
/-- .. within narrower bounds. -/
theorem num?_within {lo hi lo' hi' : Int} (hl : lo ≤ lo') (hh : hi' ≤ hi) (l : List UInt8) :
    num? lo' hi' l = match num? lo hi l with | some n => if lo' ≤ n ∧ n ≤ hi' then some n else none | none => none := by
  unfold num?
  by_cases h : itoa (cand l) = l
  · by_cases hb : lo' ≤ cand l ∧ cand l ≤ hi'
    · rw [if_pos ⟨h, hb⟩, if_pos ⟨h, by omega, by omega⟩]
      simp [hb]
    · rw [if_neg (fun c => hb c.2)]
      split
      · rename_i n hn
        split at hn
        · obtain rfl := Option.some.inj hn; simp [hb]
        · cases hn
      · rfl
  · rw [if_neg (fun c => h c.1), if_neg (fun c => h c.1)]

/-! ### A long number's text in pieces -/
/-- k digits of a number. -/
def pad : Nat → Nat → List UInt8
  | 0, _ => []
  | k + 1, m => pad k (m / 10) ++ [UInt8.ofNat (48 + m % 10)]
theorem pad_length (k m : Nat) : (pad k m).length = k := by
  induction k generalizing m with
  | zero => rfl
  | succ k ih => simp [pad, ih]
theorem dec_big {u : Nat} (h : ¬ u < 10) : decDigits u = decDigits (u / 10) ++ [UInt8.ofNat (48 + u % 10)] := by rw [decDigits, dif_neg h]
theorem dec_pad (k u : Nat) (h : 10 ^ k ≤ u) : decDigits u = decDigits (u / 10 ^ k) ++ pad k (u % 10 ^ k) := by
  induction k generalizing u with
  | zero => simp [pad]
  | succ k ih =>
    have h1 : 10 ^ k ≤ u / 10 := by rw [Nat.pow_succ] at h; omega
    have hp : 1 ≤ 10 ^ k := Nat.one_le_pow _ _ (by decide)
    have hu : ¬ u < 10 := by omega
    rw [dec_big hu, ih (u / 10) h1, pad, List.append_assoc, Nat.div_div_eq_div_mul]
    have e1 : 10 * 10 ^ k = 10 ^ (k + 1) := by rw [Nat.pow_succ, Nat.mul_comm]
    have e2 : u / 10 % 10 ^ k = u % 10 ^ (k + 1) / 10 := by rw [← e1, Nat.mod_mul_right_div_self]
    have e3 : u % 10 ^ (k + 1) % 10 = u % 10 := Nat.mod_mod_of_dvd u (by rw [← e1]; exact ⟨10 ^ k, rfl⟩)
    rw [e1, e2, e3]
theorem pad_one (k m : Nat) (h : m < 10 ^ k) : decDigits (10 ^ k + m) = 49 :: pad k m := by
  have e := dec_pad k (10 ^ k + m) (Nat.le_add_right _ _)
  rw [Nat.add_mod_left, Nat.mod_eq_of_lt h, Nat.add_div_left _ (Nat.lt_of_le_of_lt (Nat.zero_le _) h), Nat.div_eq_of_lt h] at e
  rw [e, decDigits, dif_pos (by decide)]
  rfl
/-- What DecWide puts together. -/
theorem dec_group (u : Nat) (h : 1000000000000000000 ≤ u) :
    decDigits u = decDigits (u / 1000000000000000000) ++ (decDigits (1000000000000000000 + u % 1000000000000000000)).drop 1 := by
  have e := dec_pad 18 u (by simpa using h)
  have p := pad_one 18 (u % 10 ^ 18) (Nat.mod_lt _ (by decide))
  rw [show (1000000000000000000 : Nat) = 10 ^ 18 by decide, p, e]
  rfl
theorem itoa_group (x q : Int) (r : Nat) (hq : q ≠ 0) (hx : x.natAbs = q.natAbs * 1000000000000000000 + r) (hr : r < 1000000000000000000) (hs : q < 0 ↔ x < 0) :
    itoa x = itoa q ++ (itoa (1000000000000000000 + (r : Int))).drop 1 := by
  have h1 : x.natAbs / 1000000000000000000 = q.natAbs := by omega
  have h2 : x.natAbs % 1000000000000000000 = r := by omega
  have e := dec_group x.natAbs (by omega)
  rw [h1, h2] at e
  have e2 : itoa (1000000000000000000 + (r : Int)) = decDigits (1000000000000000000 + r) := by
    unfold itoa
    rw [if_neg (by omega), show (1000000000000000000 + (r : Int)).toNat = 1000000000000000000 + r by omega]
  rw [e2]
  unfold itoa
  by_cases h : x < 0
  · rw [if_pos h, if_pos (hs.2 h), e]; rfl
  · rw [if_neg h, if_neg (fun c => h (hs.1 c)), show x.toNat = x.natAbs by omega, show q.toNat = q.natAbs by omega, e]
theorem nDigits_le (k u : Nat) (h : u < 10 ^ k) (hk : 1 ≤ k) : nDigits u ≤ k := by
  induction k generalizing u with
  | zero => omega
  | succ k ih =>
    by_cases hu : u < 10
    · rw [nDigits_small hu]; omega
    · rw [nDigits_big hu]
      have : k ≠ 0 := by rintro rfl; simp at h; omega
      have := ih (u / 10) (by rw [Nat.pow_succ] at h; omega) (by omega)
      omega
theorem itoa_length (n : Int) (k : Nat) (h : n.natAbs < 10 ^ k) (hk : 1 ≤ k) : (itoa n).length ≤ k + 1 := by
  have := nDigits_le k n.natAbs h hk
  unfold itoa
  split
  · rw [List.length_cons, decDigits_length]; omega
  · rw [decDigits_length, show n.toNat = n.natAbs by omega]; omega
theorem itoa_length_le {n : Int} (h : -170141183460469231731687303715884105728 ≤ n ∧ n ≤ 170141183460469231731687303715884105727) : (itoa n).length ≤ 40 :=
  itoa_length n 39 (by omega) (by decide)
theorem itoa_length_pos (n : Int) : 1 ≤ (itoa n).length := by
  have := itoa_ne n
  cases h : itoa n with
  | nil => exact absurd h this
  | cons a l => simp
end Go.Proofs.YtcipgagpmglikaaGreatDoor
