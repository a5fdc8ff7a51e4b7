/-
  Plain lemmas: which texts are numbers without a sign.
  The document's number (horologeref05).
-/
import Derived.Test.YthghanidabmfgaaGreatDoorText
import Derived.Test.YthghanidabmfgaaGreatDoorPrint6
namespace Go.Proofs.YthghanidabmfgaaGreatDoor
open Go.Lib
/-- Digits alone, no nought ahead: the text of its number. -/
theorem dec_of_digits : ∀ (k : Nat) (l : List UInt8), l.length = k + 1 → (∀ c ∈ l, 48 ≤ c.toNat ∧ c.toNat ≤ 57) → (l.head? = some 48 → l.length = 1) → decDigits (horner l) = l
  | 0, l, hl, hd, _ => by
    match l, hl with
    | [c], _ =>
      have := hd c (by simp)
      have e : horner [c] = c.toNat - 48 := by simp [horner]
      rw [e, decDigits, dif_pos (by omega)]
      congr 1
      apply UInt8.toNat_inj.1
      simp
      omega
  | k + 1, l, hl, hd, hz => by
    obtain ⟨m, c, rfl⟩ : ∃ m c, l = m ++ [c] := by
      cases h : l.reverse with
      | nil => simp at h; subst h; simp at hl
      | cons c r => exact ⟨r.reverse, c, by have := congrArg List.reverse h; simpa using this⟩
    have hm : m.length = k + 1 := by simpa using hl
    have hc := hd c (by simp)
    have hh : m.head? ≠ some 48 := fun e => by
      have : (m ++ [c]).head? = some 48 := by rw [List.head?_append, e]; rfl
      have := hz this
      omega
    have i := dec_of_digits k m hm (fun x hx => hd x (by simp [hx])) (fun e => absurd e hh)
    have h1 : 0 < horner m := by
      rcases Nat.eq_zero_or_pos (horner m) with e | e
      · rw [e] at i
        have z : decDigits 0 = [48] := by rw [decDigits, dif_pos (by decide)]; rfl
        rw [z] at i
        exact absurd (by rw [← i]; rfl) hh
      · exact e
    rw [horner_append, dec_big (by omega), show (10 * horner m + (c.toNat - 48)) / 10 = horner m by omega, i, show (10 * horner m + (c.toNat - 48)) % 10 = c.toNat - 48 by omega]
    congr 2
    apply UInt8.toNat_inj.1
    simp
    omega
theorem num0_some {m n : Int} {l : List UInt8} (h : num? 0 m l = some n) : l = decDigits n.toNat ∧ 0 ≤ n ∧ n ≤ m := by
  obtain ⟨e, h0, h1⟩ := num?_some h
  refine ⟨?_, h0, h1⟩
  rw [e]; unfold itoa; rw [if_neg (by omega)]
theorem num0_bad {m : Int} {l : List UInt8} {c : UInt8} (hc : c ∈ l) (h : c.toNat < 48 ∨ 57 < c.toNat) : num? 0 m l = none := by
  cases e : num? 0 m l with
  | none => rfl
  | some n =>
    have := dec_all n.toNat c ((num0_some e).1 ▸ hc)
    omega
theorem num0_nil {m : Int} : num? 0 m [] = none := by
  cases e : num? 0 m [] with
  | none => rfl
  | some n => exact absurd (num0_some e).1.symm (dec_ne _)
theorem num0_long {m : Int} (hm : m ≤ 65535) {l : List UInt8} (h : 5 < l.length) : num? 0 m l = none := by
  cases e : num? 0 m l with
  | none => rfl
  | some n =>
    obtain ⟨h1, h2, h3⟩ := num0_some e
    have := Lib.decDigits_length n.toNat
    have k := nDigits_le 5 n.toNat (by omega) (by decide)
    rw [h1, this] at h
    omega
theorem num0_digits {m : Int} {l : List UInt8} (h0 : l ≠ []) (hd : ∀ c ∈ l, 48 ≤ c.toNat ∧ c.toNat ≤ 57) (hz : l.head? = some 48 → l.length = 1) : num? 0 m l = if (horner l : Int) ≤ m then some (horner l : Int) else none := by
  have hp : 0 < l.length := List.length_pos_iff.2 h0
  have e := dec_of_digits (l.length - 1) l (by omega) hd hz
  have ei : itoa (horner l : Int) = l := by unfold itoa; rw [if_neg (by omega)]; exact e
  split
  · rename_i h
    have := num?_itoa (lo := 0) (hi := m) (n := (horner l : Int)) ⟨by omega, h⟩
    rwa [ei] at this
  · rename_i h
    cases e2 : num? 0 m l with
    | none => rfl
    | some n =>
      obtain ⟨h1, h2, h3⟩ := num?_some e2
      have : n = (horner l : Int) := itoa_inj (h1.symm.trans ei.symm)
      omega
theorem dec_head (u : Nat) : (decDigits u).head? = some 48 → u = 0 := by
  induction u using Nat.strongRecOn with
  | _ u ih =>
    intro h
    by_cases hu : u < 10
    · rw [decDigits, dif_pos hu] at h
      have := congrArg (·.map UInt8.toNat) h
      simp at this
      omega
    · have h' : (decDigits (u / 10)).head? = some 48 := by
        rw [dec_big hu, List.head?_append] at h
        cases e : (decDigits (u / 10)).head? with
        | none => exact absurd (List.head?_eq_none_iff.1 e) (dec_ne _)
        | some c => rw [e] at h; exact h
      have := ih (u / 10) (by omega) h'
      omega
theorem num0_nought {m : Int} {l : List UInt8} (h : l.head? = some 48) (hl : 1 < l.length) : num? 0 m l = none := by
  cases e : num? 0 m l with
  | none => rfl
  | some n =>
    obtain ⟨h1, h2, h3⟩ := num0_some e
    have z := dec_head n.toNat (h1 ▸ h)
    rw [h1, z, decDigits, dif_pos (by decide)] at hl
    simp at hl
end Go.Proofs.YthghanidabmfgaaGreatDoor
namespace Go.Proofs.YthghanidabmfgaaGreatDoor
open Go.RowKit Go.Sort
set_option maxRecDepth 8000
def numR (most : Int) (l : List UInt8) : Int := match num? 0 most l with | some n => n | none => -1
theorem numR_none {most : Int} {l : List UInt8} (h : num? 0 most l = none) : numR most l = -1 := by unfold numR; rw [h]
theorem head_byte (s : ByteArray) (h : 0 < s.size) : s.data.toList.head? = some (s[0]'h) := by
  obtain ⟨⟨l⟩⟩ := s
  cases l with
  | nil => exact absurd h (by decide)
  | cons c r => rfl
theorem take_next (s : ByteArray) (k : Nat) (h : k < s.size) : s.data.toList.take (k + 1) = s.data.toList.take k ++ [s[k]'h] := by
  have hl : k < s.data.toList.length := by simpa using h
  rw [List.take_succ_eq_append_getElem hl]
  rfl
/-- The digits so far. -/
def Dig (s : ByteArray) (k : Nat) (n : Nat) : Prop := horner (s.data.toList.take k) = n ∧ n < 10 ^ k ∧ ∀ c ∈ s.data.toList.take k, 48 ≤ c.toNat ∧ c.toNat ≤ 57
theorem Dig.next {s : ByteArray} {k n : Nat} (h : Dig s k n) (hk : k < s.size) (h1 : 48 ≤ (s[k]'hk).toNat) (h2 : (s[k]'hk).toNat ≤ 57) : Dig s (k + 1) (10 * n + ((s[k]'hk).toNat - 48)) := by
  refine ⟨by rw [take_next s k hk, horner_append, h.1], ?_, ?_⟩
  · have := h.2.1; rw [Nat.pow_succ]; omega
  · rw [take_next s k hk]
    intro c hc
    rcases List.mem_append.1 hc with hc | hc
    · exact h.2.2 c hc
    · rw [List.mem_singleton.1 hc]; exact ⟨h1, h2⟩
set_option maxHeartbeats 1000000 in
theorem r_number (s : ByteArray) (most : Int) (hm : 0 ≤ most ∧ most ≤ 65535) (hs : s.size ≤ 4000) (w : World) :
    Calls Tryz.prog 37 #[.string s, .int .i64 most] w fun e w' => e = .returned (.int .i64 (numR most s.data.toList)) ∧ w' = w := by
  have ls : s.data.toList.length = s.size := by simp
  by_cases h0 : s.size = 0
  · rw [numR_none (by rw [List.length_eq_zero_iff.1 (ls.trans h0)]; exact num0_nil)]
    go_enter Tryz.func37, Tryz.ntmps37
    go_wp2
    go_ret
    exact ⟨rfl, rfl⟩
  · by_cases h5 : 5 < s.size
    · rw [numR_none (num0_long hm.2 (by omega))]
      go_enter Tryz.func37, Tryz.ntmps37
      go_wp2
      go_ret
      exact ⟨rfl, rfl⟩
    · have hp : 0 < s.size := by omega
      have HB := head_byte s hp
      by_cases hn : (s[0]'hp).toNat = 48 ∧ 1 < s.size
      · have e1 : ((((s[0]'hp).toNat : Nat) : Int) == 48) = true := by simp [hn.1]
        have e2 := hn.2
        rw [numR_none (num0_nought (by rw [HB]; exact congrArg some (UInt8.toNat_inj.1 hn.1)) (by omega))]
        go_enter Tryz.func37, Tryz.ntmps37
        go_wp2
        go_ret
        exact ⟨rfl, rfl⟩
      · have HZ := Lib.hid (show s.data.toList.head? = some 48 → s.data.toList.length = 1 by
          intro h
          rw [HB] at h
          have : (s[0]'hp).toNat = 48 := by rw [Option.some.inj h]; rfl
          omega)
        have HN := Lib.hid hn
        have M := Lib.hid hm
        clear HB hm
        go_enter Tryz.func37, Tryz.ntmps37
        go_upto_region 1 with fail
        go_cut [24] from 7 to 25 (fun v wr => v = .bool false ∧ wr = w)
        case first =>
          by_cases hc : (s[0]'hp).toNat = 48
          · have e1 : ((((s[0]'hp).toNat : Nat) : Int) == 48) = true := by simp [hc]
            have e2 : ¬ 1 < s.size := fun h => hn ⟨hc, h⟩
            go_wp2
            go_meet
            exact ⟨by simp; omega, rfl⟩
          · have e1 : ((((s[0]'hp).toNat : Nat) : Int) == 48) = false := by simp; omega
            go_wp2
            go_meet
            exact ⟨by simp; omega, rfl⟩
        case rest =>
        obtain ⟨rfl, hw⟩ := hcut
        rw [hw]
        clear hw
        go_wp2
        go_loopw [5, 6] (fun n i wr => wr = w ∧ ∃ (k m : Nat), k ≤ s.size ∧ n = .int .i64 m ∧ i = .int .i64 k ∧ Hid (Dig s k m)) (fun _ i _ => s.size - (intOf i).toNat)
        case atStart => exact ⟨rfl, 0, 0, by omega, rfl, rfl, Lib.hid ⟨rfl, by decide, fun c hc => by cases hc⟩⟩
        case round =>
          obtain ⟨hw, k, m, hk, rfl, rfl, D⟩ := hrel
          rw [hw]
          clear hw
          have m5 : m ≤ 99999 := by
            have := D.out.2.1
            have : 10 ^ k ≤ 10 ^ 5 := Nat.pow_le_pow_right (by decide) (by omega)
            omega
          by_cases hlt : k < s.size
          · by_cases hb : (s[k]'hlt).toNat < 48 ∨ 57 < (s[k]'hlt).toNat
            · have N := Lib.hid (numR_none (num0_bad (m := most) (l := s.data.toList) (c := s[k]'hlt) (by
                have := take_next s k hlt
                exact List.mem_of_mem_take (i := k + 1) (by rw [this]; simp)) hb))
              by_cases h1 : (s[k]'hlt).toNat < 48
              · go_wp2
                go_ret
                exact ⟨by rw [N.out]; rfl, rfl⟩
              · have h2 : 57 < (s[k]'hlt).toNat := by omega
                go_wp2
                go_ret
                exact ⟨by rw [N.out]; rfl, rfl⟩
            · have b1 : 48 ≤ (s[k]'hlt).toNat := by omega
              have b2 : (s[k]'hlt).toNat ≤ 57 := by omega
              have X := Lib.hid (D.out.next hlt b1 b2)
              clear hb D
              go_wp2
              go_roundw
              case rel => exact ⟨trivial, k + 1, 10 * m + ((s[k]'hlt).toNat - 48), by omega, by go_num, by go_num, X⟩
              case measure => simp [intOf]; omega
          · obtain rfl : k = s.size := by omega
            have D2 := D.out
            unfold Dig at D2
            rw [List.take_of_length_le (by omega)] at D2
            have R := num0_digits (m := most) (by intro q; rw [q] at ls; simp at ls; omega) D2.2.2 HZ.out
            rw [D2.1] at R
            by_cases hq : (m : Int) ≤ most
            · rw [if_pos hq] at R
              have N := Lib.hid (show numR most s.data.toList = m by unfold numR; rw [R])
              clear R D2 D
              go_wp2
              go_ret
              exact ⟨by rw [N.out]; rfl, rfl⟩
            · rw [if_neg hq] at R
              have N := Lib.hid (numR_none R)
              clear R D2 D
              go_wp2
              go_ret
              exact ⟨by rw [N.out]; rfl, rfl⟩
end Go.Proofs.YthghanidabmfgaaGreatDoor
