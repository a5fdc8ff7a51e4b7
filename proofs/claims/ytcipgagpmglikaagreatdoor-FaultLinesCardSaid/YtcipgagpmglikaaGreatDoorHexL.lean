/-
  Plain lemmas (no model): bytes as hexadecimal digits, and back.
-/
import Derived.Test.YtcipgagpmglikaaGreatDoorUndec
namespace Go.Proofs.YtcipgagpmglikaaGreatDoor
def hexD (n : Nat) : UInt8 := UInt8.ofNat (if n < 10 then 48 + n else 87 + n)
def hexL (l : List UInt8) : List UInt8 := l.flatMap fun c => [hexD (c.toNat / 16), hexD (c.toNat % 16)]
theorem hexL_append (l : List UInt8) (c : UInt8) : hexL (l ++ [c]) = hexL l ++ [hexD (c.toNat / 16)] ++ [hexD (c.toNat % 16)] := by simp [hexL]
theorem hexL_length (l : List UInt8) : (hexL l).length = 2 * l.length := by
  induction l with
  | nil => rfl
  | cons c l ih => simp [hexL] at *; omega
theorem hexD_nat (n : Nat) (h : n < 16) : (hexD n).toNat = if n < 10 then 48 + n else 87 + n := by
  unfold hexD
  rw [UInt8.toNat_ofNat']
  split <;> omega
theorem hexD_dig (n : Nat) (h : n < 16) : digB ((hexD n).toNat : Int) = true ∧ digV ((hexD n).toNat : Int) = n := by
  rw [hexD_nat n h]
  unfold digB digV
  split
  · constructor
    · simp; omega
    · rw [if_neg (by omega), if_pos (by omega)]; omega
  · constructor
    · simp; omega
    · rw [if_pos (by omega)]; omega
theorem dig_hexD (c : UInt8) (h : digB (c.toNat : Int) = true) : hexD (digV (c.toNat : Int)).toNat = c := by
  apply UInt8.toNat_inj.1
  unfold digB at h
  simp at h
  rcases h with h | h
  · have e : digV (c.toNat : Int) = (c.toNat : Int) - 87 := by unfold digV; rw [if_pos (by omega)]
    rw [e, hexD_nat _ (by omega), if_neg (by omega)]; omega
  · have e : digV (c.toNat : Int) = (c.toNat : Int) - 48 := digV_dec h
    rw [e, hexD_nat _ (by omega), if_pos (by omega)]; omega
/-- The value of the k-th letter. -/
def dAt (s : List UInt8) (k : Nat) : Nat := (digV ((s.getD k 0).toNat : Int)).toNat
theorem dAt_bd (s : List UInt8) (k : Nat) : dAt s k < 16 := by have := digV_bd (c := ((s.getD k 0).toNat : Int)); unfold dAt; omega
/-- The bytes whose text it is, if it is. -/
def outL (s : List UInt8) : List UInt8 := (List.range (s.length / 2)).map fun j => UInt8.ofNat (16 * dAt s (2 * j) + dAt s (2 * j + 1))
def okH (s : List UInt8) : Bool := decide (s.length % 2 = 0) && s.all fun c => digB (c.toNat : Int)
def unhexO (s : List UInt8) : Option (List UInt8) := if okH s then some (outL s) else none
theorem outL_length (s : List UInt8) : (outL s).length = s.length / 2 := by simp [outL]
theorem okH_bad {s : List UInt8} {c : UInt8} (hc : c ∈ s) (h : digB (c.toNat : Int) = false) : unhexO s = none := by
  unfold unhexO okH
  rw [if_neg]
  simp only [Bool.and_eq_true, List.all_eq_true, not_and]
  intro _ a
  rw [a c hc] at h
  cases h
theorem okH_odd {s : List UInt8} (h : s.length % 2 ≠ 0) : unhexO s = none := by
  unfold unhexO okH
  rw [if_neg (by simp [h])]
theorem okH_all {s : List UInt8} (h : s.length % 2 = 0) (ha : ∀ c ∈ s, digB (c.toNat : Int) = true) : unhexO s = some (outL s) := by
  unfold unhexO okH
  rw [if_pos (by simp only [h, decide_true, Bool.true_and, List.all_eq_true]; exact ha)]
theorem hexL_get (l : List UInt8) (k : Nat) (h : k < l.length) : (hexL l).getD (2 * k) 0 = hexD ((l[k]).toNat / 16) ∧ (hexL l).getD (2 * k + 1) 0 = hexD ((l[k]).toNat % 16) := by
  induction l generalizing k with
  | nil => simp at h
  | cons c l ih =>
    have e : hexL (c :: l) = hexD (c.toNat / 16) :: hexD (c.toNat % 16) :: hexL l := by simp [hexL]
    rw [e]
    cases k with
    | zero => simp
    | succ k =>
      have := ih k (by simpa using h)
      rw [show 2 * (k + 1) = 2 * k + 1 + 1 by omega, show 2 * k + 1 + 1 + 1 = (2 * k + 1) + 1 + 1 by omega]
      simpa [List.getD_cons_succ] using this
theorem unhex_hex (l : List UInt8) : unhexO (hexL l) = some l := by
  rw [okH_all]
  · congr 1
    apply List.ext_getElem
    · rw [outL_length, hexL_length]; omega
    · intro k h1 h2
      have g := hexL_get l k h2
      have b := (l[k]).toNat_lt
      simp only [outL, List.getElem_map, List.getElem_range, dAt]
      rw [g.1, g.2, (hexD_dig _ (by omega)).2, (hexD_dig _ (by omega)).2]
      apply UInt8.toNat_inj.1
      rw [UInt8.toNat_ofNat']
      omega
  · rw [hexL_length]; omega
  · intro c hc
    unfold hexL at hc
    obtain ⟨x, _, hx⟩ := List.mem_flatMap.1 hc
    have b := x.toNat_lt
    simp only [List.mem_cons, List.not_mem_nil, or_false] at hx
    rcases hx with rfl | rfl
    · exact (hexD_dig _ (by omega)).1
    · exact (hexD_dig _ (by omega)).1
theorem getD_get (s : List UInt8) (k : Nat) (h : k < s.length) : s.getD k 0 = s[k] := by simp [h]
theorem hex_unhex {s l : List UInt8} (h : unhexO s = some l) : hexL l = s := by
  have hk : okH s = true := by
    cases e : okH s with
    | true => rfl
    | false => unfold unhexO at h; rw [e] at h; cases h
  unfold unhexO at h
  rw [hk] at h
  obtain rfl := Option.some.inj h
  unfold okH at hk
  simp only [Bool.and_eq_true, decide_eq_true_eq, List.all_eq_true] at hk
  obtain ⟨he, ha⟩ := hk
  have len : (hexL (outL s)).length = s.length := by rw [hexL_length, outL_length]; omega
  apply List.ext_getElem len
  intro i h1 h2
  have hj : i / 2 < (outL s).length := by rw [outL_length]; omega
  have g := hexL_get (outL s) (i / 2) hj
  have b0 := dAt_bd s (2 * (i / 2))
  have b1 := dAt_bd s (2 * (i / 2) + 1)
  have ev : ((outL s)[i / 2]).toNat = 16 * dAt s (2 * (i / 2)) + dAt s (2 * (i / 2) + 1) := by
    simp only [outL, List.getElem_map, List.getElem_range]
    rw [UInt8.toNat_ofNat']; omega
  rw [ev] at g
  rw [← getD_get _ _ h1]
  rcases Nat.mod_two_eq_zero_or_one i with e | e
  · have e2 : i = 2 * (i / 2) := by omega
    rw [show (hexL (outL s)).getD i 0 = (hexL (outL s)).getD (2 * (i / 2)) 0 by rw [← e2], g.1]
    rw [show (16 * dAt s (2 * (i / 2)) + dAt s (2 * (i / 2) + 1)) / 16 = dAt s (2 * (i / 2)) by omega, ← e2]
    unfold dAt
    rw [getD_get s i h2]
    exact dig_hexD _ (ha _ (List.getElem_mem _))
  · have e2 : i = 2 * (i / 2) + 1 := by omega
    rw [show (hexL (outL s)).getD i 0 = (hexL (outL s)).getD (2 * (i / 2) + 1) 0 by rw [← e2], g.2]
    rw [show (16 * dAt s (2 * (i / 2)) + dAt s (2 * (i / 2) + 1)) % 16 = dAt s (2 * (i / 2) + 1) by omega, ← e2]
    unfold dAt
    rw [getD_get s i h2]
    exact dig_hexD _ (ha _ (List.getElem_mem _))
/-- A row of bytes on its way: the first i letters are in it. -/
def half (s : List UInt8) (i j : Nat) : Nat := if 2 * j + 1 < i then 16 * dAt s (2 * j) + dAt s (2 * j + 1) else if 2 * j < i then dAt s (2 * j) else 0
theorem half_zero (s : List UInt8) (j : Nat) : half s 0 j = 0 := by unfold half; rw [if_neg (by omega), if_neg (by omega)]
theorem half_other (s : List UInt8) {i j : Nat} (h : j ≠ i / 2) : half s (i + 1) j = half s i j := by
  unfold half
  by_cases h1 : 2 * j + 1 < i
  · rw [if_pos h1, if_pos (by omega)]
  · rw [if_neg h1, if_neg (by omega)]
    by_cases h2 : 2 * j < i
    · rw [if_pos h2, if_pos (by omega)]
    · rw [if_neg h2, if_neg (by omega)]
theorem half_step (s : List UInt8) (i : Nat) : half s i (i / 2) < 16 ∧ half s (i + 1) (i / 2) = 16 * half s i (i / 2) + dAt s i := by
  unfold half
  rcases Nat.mod_two_eq_zero_or_one i with e | e
  · rw [if_neg (by omega), if_neg (by omega), if_neg (by omega), if_pos (by omega), show 2 * (i / 2) = i by omega]; omega
  · rw [if_neg (by omega), if_pos (by omega), if_pos (by omega), show 2 * (i / 2) + 1 = i by omega]
    have := dAt_bd s (2 * (i / 2))
    omega
theorem half_end (s : List UInt8) (he : s.length % 2 = 0) (j : Nat) (h : j < (outL s).length) : ((outL s)[j]).toNat = half s s.length j := by
  have hl := outL_length s
  unfold half
  rw [if_pos (by omega)]
  have b0 := dAt_bd s (2 * j)
  have b1 := dAt_bd s (2 * j + 1)
  simp only [outL, List.getElem_map, List.getElem_range]
  rw [UInt8.toNat_ofNat']
  omega
end Go.Proofs.YtcipgagpmglikaaGreatDoor
