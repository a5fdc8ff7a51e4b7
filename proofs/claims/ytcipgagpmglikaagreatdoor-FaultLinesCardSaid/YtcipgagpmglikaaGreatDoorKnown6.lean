/-
  The statements' own 'known': the chapter's rows.
-/
import Derived.Test.YtcipgagpmglikaaGreatDoorLine7
import Derived.Test.YtcipgagpmglikaaGreatDoorIsTop
import Derived.Test.YtcipgagpmglikaaGreatDoorAsSv
import Derived.Test.YtcipgagpmglikaaGreatDoorAsFv
namespace Go.Proofs.YtcipgagpmglikaaGreatDoor
open Go.RowKit Go.Sort
set_option maxRecDepth 8000
/-- What the package's variables hold. -/
def Ev (w : World) : Prop := Env w ∧ AsS.Ty w
theorem Ev.below {w w' : World} (h : Ev w) (hb : Below w.heap.size w w') : Ev w' := ⟨h.1.below hb, h.2.on hb⟩
theorem Ev.place {w : World} (h : Ev w) : AsF.Ty w := h.2
theorem parse_empty (w : World) : Calls Tryz.prog 18 #[.string ⟨#[]⟩] w fun ex w' => ex = .returned (.tuple #[.nilIface, .bool false]) ∧ Below w.heap.size w w' := by
  have F := Lib.hid (t_fields ⟨#[]⟩ (by decide) w)
  have L := Lib.hid (fun w1 v (h : FieldsOut w1 (⟨#[]⟩ : ByteArray).data.toList v) => show ∃ a c, v = .slice a 0 c from by
    obtain ⟨xs, h1, a, c, e, -⟩ := h
    have : xs = [] := by simpa [fieldsL] using h1
    subst this
    exact ⟨a, c, e⟩)
  go_enter Tryz.func18, Tryz.ntmps18
  go_wp2_with (refine F.out.mono ?_; rintro q w1 ⟨⟨v, rfl, h1⟩, hb⟩; obtain ⟨a, c, rfl⟩ := L.out _ _ h1; clear h1)
  go_ret2
  exact ⟨rfl, hb⟩
theorem wrap_small (s s' : ByteArray) (hs : s.size ≤ 4000) (hm : wordW s = s') (e : Er) (hc : e.cnt < 8) (v : Value) (w : World) (he : IsEr w e v) :
    Calls Tryz.prog 21 #[v, .string s] w fun ex w' => ∃ b, ex = .returned (.iface 77 (.pointer (some ⟨b, 0, none⟩))) ∧ Blk w' b 79 #[.string s', v] ∧ Below w.heap.size w w' :=
  (t_wrap s hs e v w he).mono fun ex w' ⟨h, hb⟩ => by
    rcases h with ⟨h, -⟩ | ⟨-, b, h1, h2⟩
    · omega
    · exact ⟨b, h1, hm ▸ h2, hb⟩
def blockB : ByteArray := ⟨#[98, 108, 111, 99, 107]⟩
def fileB : ByteArray := ⟨#[102, 105, 108, 101]⟩
def kE : Er := .note fileB (.note blockB (.fault 122 24))
/-- The error of the chapter's rows, and what is as it was. -/
def Kn (w wr : World) (v : Value) : Prop := IsEr wr kE v ∧ Ev wr ∧ Below w.heap.size w wr
theorem Kn.on {w wr w2 : World} {v : Value} (h : Kn w wr v) (hb : Below wr.heap.size wr w2) : Kn w w2 v := ⟨IsEr.on hb h.1, h.2.1.below hb, h.2.2.trans (hb.mono h.2.2.size)⟩
theorem k122 : Lib.itoa 122 = [49, 50, 50] := by
  unfold Lib.itoa
  rw [if_neg (by decide), Lib.decDigits, dif_neg (by decide), Lib.decDigits, dif_neg (by decide), Lib.decDigits, dif_pos (by decide)]; rfl
theorem k24 : Lib.itoa 24 = [50, 52] := by
  unfold Lib.itoa
  rw [if_neg (by decide), Lib.decDigits, dif_neg (by decide), Lib.decDigits, dif_pos (by decide)]; rfl
theorem k7 : Lib.itoa 7 = [55] := by
  unfold Lib.itoa
  rw [if_neg (by decide), Lib.decDigits, dif_pos (by decide)]; rfl
theorem kE_line : kE.line = ⟨#[102, 105, 108, 101, 58, 32, 98, 108, 111, 99, 107, 58, 32, 107, 105, 110, 100, 32, 49, 50, 50, 32, 97, 116, 32, 50, 52]⟩ := by
  unfold kE Er.line Er.line Er.line lineW txt
  rw [k122, k24]
  decide
theorem seven : kindB ++ txt 7 = ⟨#[107, 105, 110, 100, 32, 55]⟩ := by
  unfold txt
  rw [k7]
  decide
theorem kE_plain : kE.plain := ⟨by decide, by decide, by unfold W64; omega, by unfold W64; omega⟩
set_option maxHeartbeats 400000 in
theorem t_known (w : World) (hw : Ev w) : Calls Tryz.prog 6 #[] w fun ex w' => ex = .returned (.bool true) ∧ Below w.heap.size w w' := by
  have G := Lib.hid hw
  have N := Lib.hid (t_new 122 24 w (by decide))
  have NO := Lib.hid (fun w => new_ok 5 w)
  have W1 := Lib.hid (wrap_small blockB blockB (by decide) (by decide) (.fault 122 24) (by decide) _ w rfl)
  have W2 := Lib.hid (fun v w1 h => wrap_small fileB fileB (by decide) (by decide) (.note blockB (.fault 122 24)) (by decide) v w1 h)
  have WN := Lib.hid (fun w => wrap_nil (.string ⟨#[120]⟩) w)
  unfold blockB at W1
  unfold fileB at W2
  have L := Lib.hid (fun v w1 (h : Kn w w1 v) => line_yes kE v w1 h.1 kE_plain (by decide) h.2.1.1)
  rw [kE_line] at L
  have LN := Lib.hid (fun w => line_no none .nilIface w rfl (by decide) rfl)
  have K := Lib.hid (fun v w1 (h : Kn w w1 v) => t_kind kE v w1 h.1 h.2.1.2)
  have O := Lib.hid (fun v w1 (h : Kn w w1 v) => t_off kE v w1 h.1 h.2.1.place)
  have KN := Lib.hid (fun w => kind_nil w)
  have ON := Lib.hid (fun w => off_nil w)
  have P := Lib.hid (fun w => parse_empty w)
  have I1 := Lib.hid (fun v w1 (h : Kn w w1 v) => t_faultIs kE v 122 w1 h.1)
  have I2 := Lib.hid (fun v w1 (h : Kn w w1 v) => t_faultIs kE v 123 w1 h.1)
  have E := Lib.hid (fun x w1 (h : Kn w w1 (.iface 77 x)) => m_error kE _ x w1 kE_plain (by decide) h.1 h.2.1.1)
  rw [kE_line] at E
  have T := Lib.hid (fun w1 (h : Env w1) => m_sortE 7 (by unfold W64; omega) w1 h)
  rw [seven] at T
  have NN := Lib.hid (fun w => t_notes none .nilIface w rfl (by decide))
  rw [show kE.has (.sort 122) = true from rfl] at I1
  rw [show kE.has (.sort 123) = false from rfl] at I2
  rw [show kE.kind = some 122 from rfl, kindV] at K
  rw [show kE.place = some (122, 24) from rfl, offV] at O
  clear hw
  go_enter Tryz.func6, Tryz.ntmps6
  go_wp2_with fail
  refine N.out.mono ?_
  rintro q w1 ⟨rfl, hw⟩
  subst hw
  go_wp2_with fail
  refine W1.out.mono ?_
  rintro q w2 ⟨b1, rfl, h1, hb1⟩
  go_wp2_with fail
  refine (W2.out _ _ ⟨_, _, rfl, h1, rfl⟩).mono ?_
  rintro q w3 ⟨b2, rfl, h2, hb2⟩
  have S := Lib.hid (show Kn w1 w3 (.iface 77 (.pointer (some ⟨b2, 0, none⟩))) from ⟨⟨b2, _, rfl, h2, b1, _, rfl, h1.on hb2, rfl⟩, (G.out.below hb1).below hb2, hb1.trans (hb2.mono hb1.size)⟩)
  clear h1 h2 hb1 hb2 N W1 W2
  go_wp2_with fail
  refine (WN.out _).mono ?_
  rintro q w4 ⟨rfl, hw⟩
  subst hw
  go_wp2_with fail
  refine (NO.out _).mono ?_
  rintro q w5 ⟨rfl, hw⟩
  subst hw
  go_wp2_with fail
  refine (L.out _ _ S.out).mono ?_
  rintro q w6 ⟨rfl, hb⟩
  replace S := Lib.hid (S.out.on hb)
  clear hb
  go_wp2_with fail
  refine (K.out _ _ S.out).mono ?_
  rintro q w7 ⟨rfl, hb⟩
  replace S := Lib.hid (S.out.on hb)
  clear hb
  go_wp2_with fail
  refine (O.out _ _ S.out).mono ?_
  rintro q w8 ⟨rfl, hb⟩
  replace S := Lib.hid (S.out.on hb)
  clear hb
  go_wp2_with fail
  refine (KN.out _).mono ?_
  rintro q w9 ⟨rfl, hb⟩
  replace S := Lib.hid (S.out.on hb)
  clear hb
  go_wp2_with fail
  refine (ON.out _).mono ?_
  rintro q w10 ⟨rfl, hb⟩
  replace S := Lib.hid (S.out.on hb)
  clear hb
  go_wp2_with fail
  refine (LN.out _).mono ?_
  rintro q w11 ⟨rfl, hb⟩
  replace S := Lib.hid (S.out.on hb)
  clear hb
  go_wp2_with fail
  refine (P.out _).mono ?_
  rintro q w12 ⟨rfl, hb⟩
  replace S := Lib.hid (S.out.on hb)
  clear hb
  go_wp2_with fail
  refine (E.out _ _ S.out).mono ?_
  rintro q w13 ⟨rfl, hb⟩
  replace S := Lib.hid (S.out.on hb)
  clear hb
  go_wp2_with fail
  refine (I1.out _ _ S.out).mono ?_
  rintro q w14 ⟨rfl, hb⟩
  replace S := Lib.hid (S.out.on hb)
  clear hb
  go_wp2_with fail
  refine (I2.out _ _ S.out).mono ?_
  rintro q w15 ⟨rfl, hb⟩
  replace S := Lib.hid (S.out.on hb)
  clear hb
  go_wp2_with fail
  refine (NN.out _).mono ?_
  rintro q w16 ⟨⟨l, rfl, hl⟩, hb⟩
  replace S := Lib.hid (S.out.on hb)
  obtain ⟨la, lc, rfl, -⟩ := hl
  clear hb
  go_wp2_with fail
  refine (T.out _ S.out.2.1.1).mono ?_
  rintro q w17 ⟨rfl, hb⟩
  replace S := Lib.hid (S.out.on hb)
  clear hb
  go_wp2
  go_ret
  exact ⟨rfl, S.out.2.2⟩
end Go.Proofs.YtcipgagpmglikaaGreatDoor
