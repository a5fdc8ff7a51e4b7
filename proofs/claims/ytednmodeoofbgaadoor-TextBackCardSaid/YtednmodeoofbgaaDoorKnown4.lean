/-
  The statements' own 'known': the chapter's rows.
-/
import Derived.Test.YtednmodeoofbgaaDoorFields
import Derived.Test.YtednmodeoofbgaaDoorREnds
namespace Go.Proofs.YtednmodeoofbgaaDoor
open Go.RowKit Go.Sort
set_option maxRecDepth 8000
/-- Texts of no number. -/
def badS : Nat → ByteArray
  | 0 => ⟨#[45, 48]⟩
  | 1 => ⟨#[48, 53]⟩
  | 2 => ⟨#[57, 50, 50, 51, 51, 55, 50, 48, 51, 54, 56, 53, 52, 55, 55, 53, 56, 48, 56]⟩
  | 3 => ⟨#[]⟩
  | 4 => ⟨#[45]⟩
  | _ => ⟨#[43, 49]⟩
theorem und_bad {l : List UInt8} (h : num64 l = none) : und64 l = .tuple #[.int .i64 0, .bool false] := by unfold und64; rw [h]; rfl
theorem big_bad : num64 [57, 50, 50, 51, 51, 55, 50, 48, 51, 54, 56, 53, 52, 55, 55, 53, 56, 48, 56] = none := by
  unfold num64 num?
  rw [if_neg]
  intro h
  have e : cand [57, 50, 50, 51, 51, 55, 50, 48, 51, 54, 56, 53, 52, 55, 55, 53, 56, 48, 56] = 9223372036854775808 := by decide +kernel
  rw [e] at h
  omega
theorem lead_bad : num64 [48, 53] = none := by
  unfold num64 num?
  rw [if_neg]
  intro h
  have e : cand [48, 53] = 5 := by decide +kernel
  rw [e] at h
  have := h.1
  unfold Lib.itoa at this
  rw [if_neg (by decide), Lib.decDigits, dif_pos (by decide)] at this
  revert this
  decide
theorem minus_bad : num64 [45, 48] = none := by
  unfold num64 num?
  rw [if_neg]
  intro h
  have e : cand [45, 48] = 0 := by decide +kernel
  rw [e] at h
  have := h.1
  unfold Lib.itoa at this
  rw [if_neg (by decide), Lib.decDigits, dif_pos (by decide)] at this
  revert this
  decide
theorem bad_none : ∀ k, num64 (badS k).data.toList = none
  | 0 => minus_bad
  | 1 => lead_bad
  | 2 => big_bad
  | 3 => num?_nought rfl
  | 4 => num?_nought rfl
  | _ + 5 => num?_bad (l := [43, 49]) (c := 43) (by decide) (by decide)
/-- The texts lie in block b. -/
def Bads (w : World) (b : Nat) : Prop := b < w.heap.size ∧ ∀ k, k < 6 → w.cell? ⟨b, k, none⟩ = some (.string (badS k))
theorem Bads.on {w w' : World} {b : Nat} (h : Bads w b) (hb : Below w.heap.size w w') : Bads w' b := ⟨Nat.lt_of_lt_of_le h.1 hb.size, fun k hk => (hb.cell (by exact h.1)).trans (h.2 k hk)⟩
theorem str_eq (n : Int) (l : List UInt8) (h : Lib.itoa n = l) : ((txt n).toList == l) = true := by rw [ByteArray.toList_eq, txt_list, h]; simp
theorem five : Lib.itoa (-5) = [45, 53] := by
  unfold Lib.itoa; rw [if_pos (by decide), Lib.decDigits, dif_pos (by decide)]; rfl
theorem two64 : Lib.itoa 18446744073709551616 = [49, 56, 52, 52, 54, 55, 52, 52, 48, 55, 51, 55, 48, 57, 53, 53, 49, 54, 49, 54] := by
  unfold Lib.itoa
  rw [if_neg (by decide), show (18446744073709551616 : Int).toNat = 18446744073709551616 from rfl, Lib.decDigits_eq]
  decide +kernel
theorem unhex_none (s : ByteArray) (hs : s.size ≤ 4000) (h : unhexO s.data.toList = none) (w : World) (hw : Env w) : Calls Tryd.prog 24 #[.string s] w fun e w' => (∃ u, e = .returned (.tuple #[u, .bool false])) ∧ Below w.heap.size w w' :=
  (t_unhex s hs w hw).mono fun e w' ⟨⟨v, he, u, hv, _⟩, hb⟩ => ⟨⟨u, by rw [he, hv, h]; rfl⟩, hb⟩
/-- Three words, where they lie. -/
def Three (w : World) (b o : Nat) : Prop := b < w.heap.size ∧ w.cell? ⟨b, o, none⟩ = some (.string ⟨#[97]⟩) ∧ w.cell? ⟨b, o + 1, none⟩ = some (.string ⟨#[]⟩) ∧ w.cell? ⟨b, o + 2, none⟩ = some (.string ⟨#[98]⟩)
theorem Three.on {w w' : World} {b o : Nat} (h : Three w b o) (hb : Below w.heap.size w w') : Three w' b o :=
  ⟨Nat.lt_of_lt_of_le h.1 hb.size, (hb.cell (by exact h.1)).trans h.2.1, (hb.cell (by exact h.1)).trans h.2.2.1, (hb.cell (by exact h.1)).trans h.2.2.2⟩
theorem fields_three {w : World} {v : Value} (h : FieldsOut w [97, 32, 32, 98] v) : ∃ b o c, v = .slice (some ⟨b, o, none⟩) 3 c ∧ b < w.heap.size ∧ w.cell? ⟨b, o, none⟩ = some (.string ⟨#[97]⟩) ∧ w.cell? ⟨b, o + 1, none⟩ = some (.string ⟨#[]⟩) ∧ w.cell? ⟨b, o + 2, none⟩ = some (.string ⟨#[98]⟩) := by
  obtain ⟨xs, hx, a, c, rfl, hc, h⟩ := h
  have e : fieldsL [97, 32, 32, 98] = [[97], [], [98]] := by decide +kernel
  rw [e] at hx
  have hl : xs.length = 3 := by have := congrArg List.length hx; simpa using this
  match xs, hl with
  | [x, y, z], _ =>
    simp at hx
    obtain ⟨h1, h2, h3⟩ := hx
    obtain rfl : x = ⟨#[97]⟩ := bytes_eq (by simpa using h1)
    obtain rfl : y = ⟨#[]⟩ := bytes_eq (by simpa using h2)
    obtain rfl : z = ⟨#[98]⟩ := bytes_eq (by simpa using h3)
    rcases h with h | ⟨b, o, rfl, hb, hx⟩
    · cases h
    · exact ⟨b, o, c, rfl, hb, hx 0 _ rfl, hx 1 _ rfl, hx 2 _ rfl⟩
theorem fields_none {w : World} {v : Value} (h : FieldsOut w [] v) : ∃ a c, v = .slice a 0 c := by
  obtain ⟨xs, hx, a, c, rfl, hc, h⟩ := h
  have e : fieldsL [] = [] := rfl
  rw [e] at hx
  have : xs = [] := by simpa using hx
  subst this
  exact ⟨a, c, rfl⟩
theorem two_bytes (w : World) : Bytes (w.alloc (.cells #[.int .u8 0, .int .u8 255] 5)) (.slice (some ⟨w.heap.size, 0, none⟩) 2 2) [0, 255] :=
  ⟨_, 2, rfl, Or.inr ⟨w.heap.size, 0, rfl, by simp, fun j hj => by
    rw [World.cell?_alloc_new]
    rcases (show j = 0 ∨ j = 1 by simp at hj; omega) with rfl | rfl <;> rfl⟩⟩
set_option maxHeartbeats 2000000 in
theorem known_any (w : World) (hw : Env w) : Calls Tryd.prog 7 #[] w fun e w' => e = .returned (.bool true) ∧ Below w.heap.size w w' := by
  have G := Lib.hid hw
  clear hw
  go_enter Tryd.func7, Tryd.ntmps7
  go_wp2
  go_loopw [12] (fun i wr => ∃ k : Nat, k ≤ 6 ∧ i = .int .i64 k ∧ Hid (Bads wr w.heap.size ∧ Below w.heap.size w wr)) (fun i _ => 6 - (intOf i).toNat)
  case atStart =>
    refine ⟨0, by omega, rfl, ⟨by simp, fun k hk => ?_⟩, below_alloc _ _⟩
    rw [World.cell?_alloc_new]
    rcases (show k = 0 ∨ k = 1 ∨ k = 2 ∨ k = 3 ∨ k = 4 ∨ k = 5 by omega) with rfl | rfl | rfl | rfl | rfl | rfl <;> rfl
  case round =>
    obtain ⟨k, hk, rfl, H⟩ := hrel
    by_cases hlt : k < 6
    · have c := H.out.1.2 k hlt
      have U := Lib.hid ((t_undec (badS k)).as rfl (und_bad (bad_none k)))
      generalize badS k = x at *
      go_wp2_with (go_at_call 13; refine (U.out _ (G.out.below H.out.2)).mono ?_; rintro e w1 ⟨rfl, hb⟩; have H1 := Lib.hid (show Bads w1 w.heap.size ∧ Below w.heap.size w w1 from ⟨H.out.1.on hb, H.out.2.trans (hb.mono H.out.2.size)⟩); clear hb H c U)
      go_roundw
      case rel => exact ⟨k + 1, by omega, by go_num, H1⟩
      case measure => simp [intOf]; omega
    · have B := Lib.hid H.out.2
      clear H
      have U1 := Lib.hid (fun w hw => unhex_none ⟨#[48, 71]⟩ (by decide) (by decide +kernel) w hw)
      have U2 := Lib.hid (fun w hw => unhex_none ⟨#[48]⟩ (by decide) (by decide +kernel) w hw)
      have F3 := Lib.hid (fun w => t_fields ⟨#[97, 32, 32, 98]⟩ (by decide) w)
      have F0 := Lib.hid (fun w => t_fields ⟨#[]⟩ (by decide) w)
      have D5 := Lib.hid (t_dec (-5) (by omega))
      have DW := Lib.hid ((t_decw 18446744073709551616 (by unfold In; omega)).as (args' := #[.agg #[.int .i64 1, .int .u64 0]]) rfl rfl)
      have HX := Lib.hid (fun v w hB => t_hex [0, 255] (by decide) v w hB)
      have k1 := str_eq (-5) [45, 53] five
      have k2 := str_eq 18446744073709551616 _ two64
      have k3 : hexL [0, 255] = [48, 48, 102, 102] := by decide +kernel
      generalize txt (-5) = t5 at *
      generalize txt 18446744073709551616 = tw at *
      go_upto_region 9 with (go_at_call 24; refine (U1.out _ (G.out.below B.out)).mono ?_; rintro e w1 ⟨⟨u1, rfl⟩, hb⟩; have B1 := Lib.hid (B.out.trans (hb.mono B.out.size)); clear hb B)
      go_upto_region 10 with (go_at_call 24; refine (U2.out _ (G.out.below B1.out)).mono ?_; rintro e w2 ⟨⟨u2, rfl⟩, hb⟩; have B2 := Lib.hid (B1.out.trans (hb.mono B1.out.size)); clear hb B1)
      go_upto_region 11 with (go_at_call 27; refine (F3.out _).mono ?_; rintro e w3 ⟨⟨v3, rfl, hF⟩, hb⟩; have B3 := Lib.hid (B2.out.trans (hb.mono B2.out.size)); clear hb B2)
      obtain ⟨b, o, c, rfl, hbw, hc0, hc1, hc2⟩ := fields_three hF
      have C := Lib.hid (show Three w3 b o from ⟨hbw, hc0, hc1, hc2⟩)
      clear hF hbw hc0 hc1 hc2
      go_wp2_with (first
        | (go_at_call 8; refine (D5.out _ (G.out.below B3.out)).mono ?_; rintro e w4 ⟨rfl, hb⟩; have B4 := Lib.hid (B3.out.trans (hb.mono B3.out.size)); have C4 := Lib.hid (C.out.on hb); clear hb B3 C)
        | (go_at_call 17; refine (DW.out _ (G.out.below B4.out)).mono ?_; rintro e w5 ⟨rfl, hb⟩; have B5 := Lib.hid (B4.out.trans (hb.mono B4.out.size)); have C5 := Lib.hid (C4.out.on hb); clear hb B4 C4)
        | (go_at_call 22; refine (HX.out _ _ (two_bytes w5)).mono ?_; rintro e w6 ⟨rfl, hb⟩; have B6 := Lib.hid ((B5.out.alloc B5.out.size _).trans (hb.mono (by simp; have := B5.out.size; omega))); have C6 := Lib.hid ((C5.out.on (below_alloc _ _)).on hb); have c0 := C6.out.2.1; have c1 := C6.out.2.2.1; have c2 := C6.out.2.2.2; clear hb B5 C5)
        | (go_at_call 27; refine (F0.out _).mono ?_; rintro e w7 ⟨⟨v7, rfl, hF⟩, hb⟩; have B7 := Lib.hid (B6.out.trans (hb.mono B6.out.size)); obtain ⟨a7, c7, rfl⟩ := fields_none hF; clear hF hb B6 C6 c0 c1 c2))
      go_ret
      exact ⟨rfl, B7.out⟩
end Go.Proofs.YtednmodeoofbgaaDoor
