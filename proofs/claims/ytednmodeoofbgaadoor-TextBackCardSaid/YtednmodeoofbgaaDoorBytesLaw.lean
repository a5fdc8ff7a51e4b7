/-
  PROVED HERE (the walk): the statement TextBytes: the text of any bytes, and the bytes of any text, are the document's.
-/
import Derived.Test.YtednmodeoofbgaaDoorWides
import Derived.Test.YtednmodeoofbgaaDoorRUnhex
namespace Go.Proofs.YtednmodeoofbgaaDoor
open Go.RowKit Go.Sort
set_option maxRecDepth 8000
theorem Duo.which {w : World} {p : Nat} {s t : ByteArray} (h : Duo w p s t) (k : Nat) (hk : k < 2) : ∃ x, (x = s ∨ x = t) ∧ w.cell? ⟨p, k, none⟩ = some (.string x) := by
  rcases (show k = 0 ∨ k = 1 by omega) with rfl | rfl
  · exact ⟨_, Or.inl rfl, h.2.1⟩
  · exact ⟨_, Or.inr rfl, h.2.2⟩
set_option maxHeartbeats 2000000 in
theorem textBytes_any (l : List UInt8) (v : Value) (s : ByteArray) (w : World) (hB : Bytes w v l) (hw : Env w) :
    Calls Tryd.prog 5 #[v, .string s] w fun e w' => e = .returned (.bool true) ∧ Below w.heap.size w w' := by
  have G := Lib.hid hw
  have K := Lib.hid (fun w hw => known_any w hw)
  obtain ⟨a, c, hv, hc⟩ := id hB
  subst hv
  have HB := Lib.hid hB
  clear hw hB hc
  by_cases h1 : 1000 < l.length
  · have hl : (1000 : Int) < l.length := by omega
    clear h1
    go_enter Tryd.func5, Tryd.ntmps5
    go_wp2_with (go_at_call 7; refine (K.out _ G.out).mono ?_; rintro e w1 ⟨rfl, hb⟩; have B1 := Lib.hid hb; clear hb)
    go_ret
    exact ⟨rfl, B1.out⟩
  have hl : (l.length : Int) ≤ 1000 := by omega
  have h1 : l.length ≤ 1000 := by omega
  by_cases h2 : 1000 < s.size
  · have hs : (1000 : Int) < s.size := by omega
    clear h2 h1
    go_enter Tryd.func5, Tryd.ntmps5
    go_wp2_with (go_at_call 7; refine (K.out _ G.out).mono ?_; rintro e w1 ⟨rfl, hb⟩; have B1 := Lib.hid hb; clear hb)
    go_ret
    exact ⟨rfl, B1.out⟩
  have hs : (s.size : Int) ≤ 1000 := by omega
  have T := Lib.hid (fun w hB => t_hex l h1 (.slice a l.length c) w hB)
  have R := Lib.hid (fun w hB => r_hex l h1 (.slice a l.length c) w hB)
  have Z : Hid (∀ x : ByteArray, (x = s ∨ x = ⟨(hexL l).toArray⟩) → x.size ≤ 4000) := Lib.hid (by
    rintro x (rfl | rfl)
    · omega
    · show (hexL l).toArray.size ≤ 4000
      simp [hexL_length]; omega)
  generalize (⟨(hexL l).toArray⟩ : ByteArray) = tb at *
  clear h1 h2
  go_enter Tryd.func5, Tryd.ntmps5
  go_upto_region 3 with (go_at_call 7; refine (K.out _ G.out).mono ?_; rintro e w1 ⟨rfl, hb⟩; have B1 := Lib.hid (show Bytes w1 (.slice a l.length c) l ∧ Below w.heap.size w w1 from ⟨HB.out.on hb, hb⟩); clear hb)
  go_upto_region 7 with (first
    | (go_at_call 22; refine (T.out _ B1.out.1).mono ?_; rintro e w2 ⟨rfl, hb⟩; have B2 := Lib.hid (show Bytes w2 (.slice a l.length c) l ∧ Below w.heap.size w w2 from ⟨B1.out.1.on hb, B1.out.2.trans (hb.mono B1.out.2.size)⟩); clear hb B1)
    | (go_at_call 23; refine (R.out _ B2.out.1).mono ?_; rintro e w3 ⟨rfl, hb⟩; have B3 := Lib.hid (show Bytes w3 (.slice a l.length c) l ∧ Below w.heap.size w w3 from ⟨B2.out.1.on hb, B2.out.2.trans (hb.mono B2.out.2.size)⟩); clear hb B2))
  clear R
  go_cut [29, 30, 31] from 26 to 32 (fun v len i wr => ∃ p, v = .slice (some ⟨p, 0, none⟩) 2 2 ∧ len = .int .i64 2 ∧ i = .int .i64 0 ∧ Hid (Duo wr p s tb ∧ Below w.heap.size w wr))
  case first =>
    go_wp2_with (go_at_call 22; refine (T.out _ B3.out.1).mono ?_; rintro e w4 ⟨rfl, hb⟩; have B4 := Lib.hid (B3.out.2.trans (hb.mono B3.out.2.size)); clear hb B3)
    go_meet
    refine ⟨w4.heap.size, rfl, rfl, rfl, ⟨by simp, ?_, ?_⟩, B4.out.alloc B4.out.size _⟩ <;> (rw [World.cell?_alloc_new]; rfl)
  case rest =>
  obtain ⟨p, rfl, rfl, rfl, hT⟩ := hcut
  obtain ⟨w5, rfl⟩ : ∃ v : World, v = wc := ⟨_, rfl⟩
  clear T B3
  go_wp2
  go_loopw [31] (fun i wr => ∃ k : Nat, k ≤ 2 ∧ i = .int .i64 k ∧ Hid (Duo wr p s tb ∧ Below w.heap.size w wr)) (fun i _ => 2 - (intOf i).toNat)
  case atStart => exact ⟨0, by omega, rfl, hT⟩
  case round =>
    clear hT
    obtain ⟨k, hk, rfl, H⟩ := hrel
    by_cases hlt : k < 2
    · obtain ⟨x, hx, cx⟩ := H.out.1.which k hlt
      have U := Lib.hid (fun w hw => t_unhex x (Z.out x hx) w hw)
      have V := Lib.hid (fun w => r_unhex x (Z.out x hx) w)
      clear hx
      go_upto_region 10 with fail
      clear cx
      go_upto_region 11 with (go_at_call 24; refine (U.out _ (G.out.below H.out.2)).mono ?_; rintro e w6 ⟨⟨v6, rfl, u, rfl, hu⟩, hb⟩; have H6 := Lib.hid (show Bytes w6 u _ ∧ Duo w6 p s tb ∧ Below w.heap.size w w6 from ⟨hu, H.out.1.on hb, H.out.2.trans (hb.mono H.out.2.size)⟩); clear hu hb H U)
      go_upto_region 12 with (go_at_call 25; refine (V.out _).mono ?_; rintro e w7 ⟨⟨v7, rfl, u', rfl, hu⟩, hb⟩; have H7 := Lib.hid (show Bytes w7 u _ ∧ Bytes w7 u' _ ∧ Duo w7 p s tb ∧ Below w.heap.size w w7 from ⟨H6.out.1.on hb, hu, H6.out.2.1.on hb, H6.out.2.2.trans (hb.mono H6.out.2.2.size)⟩); clear hu hb H6 V)
      have cv1 := conv_bytes H7.out.1
      have cv2 := conv_bytes H7.out.2.1
      generalize (unhexO x.data.toList).isSome = ok at *
      generalize (⟨((unhexO x.data.toList).getD []).toArray⟩ : ByteArray) = out at *
      cases ok
      all_goals
        go_wp2
        go_roundw
        case rel => exact ⟨k + 1, by omega, by go_num, H7.out.2.2.1, H7.out.2.2.2⟩
        case measure => simp [intOf]; omega
    · go_wp2
      go_ret
      exact ⟨rfl, H.out.2⟩
end Go.Proofs.YtednmodeoofbgaaDoor
