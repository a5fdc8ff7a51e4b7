/-
  The document's Turn (horologeref09). Written by tools/gen9t.py.
-/
import Derived.Test.YtjdnekkbmanmdaaBTurn9
import Derived.Test.YtjdnekkbmanmdaaCut
namespace Go.Proofs.Ytjdnekkbmanmdaa
open Go.RowKit Go.Sort
set_option maxRecDepth 8000
theorem turn_far (l : List UInt8) (k : Nat) (h4 : k < 4) (hk : k < l.length) (h : l[k].toNat ≠ (sectB[k]'(by simpa [sectB] using h4)).toNat) : turnB l = (false, 120) := by
  unfold turnB
  rw [if_pos]
  intro e
  apply h
  have h1 : (l.take (min l.length 4))[k]? = some l[k] := by rw [List.getElem?_take_of_lt (by omega)]; simp [hk]
  have h2 : (sectB.take (min l.length 4))[k]? = some (sectB[k]'(by simpa [sectB] using h4)) := by rw [List.getElem?_take_of_lt (by omega)]; exact List.getElem?_eq_getElem _
  rw [e, h2] at h1
  simp only [Option.some.injEq] at h1
  rw [h1]
theorem turn_near (l : List UInt8) (k : Nat) (hk : k = min l.length 4) (h : l.take k = sectB.take k) : (l.length < 12 ∧ turnB l = (false, 121)) ∨ (¬ l.length < 12 ∧ ((l.drop 8).take 4 == ord false (lowB 439041101 4)) = true ∧ turnB l = (false, 0)) ∨
    (¬ l.length < 12 ∧ ((l.drop 8).take 4 == ord false (lowB 439041101 4)) = false ∧ ((l.drop 8).take 4 == ord true (lowB 439041101 4)) = true ∧ turnB l = (true, 0)) ∨ (¬ l.length < 12 ∧ ((l.drop 8).take 4 == ord false (lowB 439041101 4)) = false ∧ ((l.drop 8).take 4 == ord true (lowB 439041101 4)) = false ∧ turnB l = (false, 120)) := by
  subst hk
  unfold turnB
  rw [if_neg (by simpa using h)]
  by_cases h1 : l.length < 12
  · left; exact ⟨h1, if_pos h1⟩
  · right
    rw [if_neg h1]
    by_cases h2 : (l.drop 8).take 4 = ord false (lowB 439041101 4)
    · left; exact ⟨h1, by rw [h2]; simp, if_pos h2⟩
    · right
      have e2 : ((l.drop 8).take 4 == ord false (lowB 439041101 4)) = false := by rw [beq_eq_false_iff_ne]; exact h2
      rw [if_neg h2]
      by_cases h3 : (l.drop 8).take 4 = ord true (lowB 439041101 4)
      · left; exact ⟨h1, e2, by rw [h3]; simp, if_pos h3⟩
      · right
        exact ⟨h1, e2, by rw [beq_eq_false_iff_ne]; exact h3, if_neg h3⟩
set_option maxHeartbeats 4000000 in
theorem r_turnB (v : Value) (l : List UInt8) (w : World) (hB : Byt w v l) (hz : l.length ≤ 140737488355328) :
    Calls Try.prog 15 #[v] w fun e w' => e = .returned (turnV (turnB l)) ∧ Below w.heap.size w w' := by
  obtain ⟨ad, c, rfl, hc, hA⟩ := hB.open
  have PF := Lib.hid (fun w => r_putG 439041101 false 4 (by omega) (by omega) w)
  have PT := Lib.hid (fun w => r_putG 439041101 true 4 (by omega) (by omega) w)
  have LF := Lib.hid (show (ord false (lowB 439041101 4)).length = 4 from four_length _ _)
  have LT := Lib.hid (show (ord true (lowB 439041101 4)).length = 4 from four_length _ _)
  have HA := Lib.hid hA
  have FAR := Lib.hid (turn_far l)
  have NEAR := Lib.hid (turn_near l)
  clear hB hA
  generalize turnB l = o at *
  unfold turnV
  have R0 := Lib.hid (RowB.new w sectB (cs := #[.int .u8 10, .int .u8 13, .int .u8 13, .int .u8 10]) rfl)
  have B0 := Lib.hid (below_alloc w (.cells #[.int .u8 10, .int .u8 13, .int .u8 13, .int .u8 10] 5))
  go_enter Try.func15, Try.ntmps15
  go_upto_region 3 with fail
  generalize w.alloc (.cells #[.int .u8 10, .int .u8 13, .int .u8 13, .int .u8 10] 5) = w1 at *
  go_loopw [5] (fun i wr => ∃ k : Nat, k ≤ 4 ∧ k ≤ l.length ∧ i = .int .i64 k ∧ Hid (l.take k = sectB.take k) ∧ Hid (RowB wr w.heap.size sectB) ∧ Hid (Below w.heap.size w wr)) (fun i _ => 4 - (intOf i).toNat)
  case atStart => exact ⟨0, by omega, by omega, rfl, rfl, R0, B0⟩
  case round =>
    clear R0 B0
    obtain ⟨k, hk4, hkn, rfl, T, R0, B0⟩ := hrel
    by_cases h4 : k < 4
    · have g4 : decide (k < 4) = true := by simp; omega
      by_cases hn : k < l.length
      · have gn : decide (k < l.length) = true := by simp; omega
        rcases (HA.out.on B0.out) with h0 | ⟨g, o', rfl, hg, hcell⟩
        · rw [h0] at hn; exact absurd hn (by simp)
        have c0 := hcell k hn
        have c1 := R0.out.cell (j := k) (by simpa [sectB] using h4)
        have F := Lib.hid (FAR.out k h4 hn)
        have NX := Lib.hid (show l[k].toNat = (sectB[k]'(by simpa [sectB] using h4)).toNat → l.take (k + 1) = sectB.take (k + 1) from fun e => by
          rw [List.take_succ_eq_append_getElem hn, List.take_succ_eq_append_getElem (by simpa [sectB] using h4), T.out, UInt8.toNat_inj.1 e])
        clear hcell
        generalize (sectB[k]'(by simpa [sectB] using h4)).toNat = x at *
        generalize l[k].toNat = y at *
        by_cases e : y = x
        · have N2 := Lib.hid (NX.out e)
          subst e
          clear F NX
          go_wp2
          go_region
          go_wp2
          go_roundw
          case rel => exact ⟨k + 1, by omega, by omega, by go_num, N2.out, R0.out.on (Below.refl _ _).drew, B0.out.drew⟩
          case measure => simp [intOf]; omega
        · have E := Lib.hid (F.out e)
          have e' : ((y : Int) == (x : Int)) = false := by simp; omega
          go_wp2
          go_region
          go_wp2
          go_ret2
          rw [E.out]
          exact ⟨rfl, B0.out.drew⟩
      · have gn : decide (k < l.length) = false := by simp; omega
        have NR := Lib.hid (NEAR.out k (by omega) T.out)
        clear NEAR FAR T
        rcases NR.out with ⟨g, rfl⟩ | ⟨g, _⟩ | ⟨g, _⟩ | ⟨g, _⟩
        · have g2 : decide ((l.length : Int) < 12) = true := by simp; omega
          go_wp2
          go_ret2
          exact ⟨rfl, B0.out⟩
        all_goals omega
    · have g4 : decide (k < 4) = false := by simp; omega
      have NR := Lib.hid (NEAR.out k (by omega) T.out)
      clear NEAR FAR T
      rcases NR.out with ⟨g, rfl⟩ | NR
      · have g2 : decide ((l.length : Int) < 12) = true := by simp; omega
        go_wp2
        go_ret2
        exact ⟨rfl, B0.out⟩
      have g : ¬ l.length < 12 := by omega
      have g2 : decide ((l.length : Int) < 12) = false := by simp; omega
      have HR := Lib.hid (fun W' (hb : Below w.heap.size w W') => ((HA.out.sub 8 4 c (by omega) hc).on hb).byt (n := 4) (c := c - 8) (piece_length l 8 4 (by omega)).symm (by omega))
      have C12 := Lib.hid (show (12 : Int) ≤ (c : Nat) by omega)
      have C8 := Lib.hid (show ¬ c = 8 by omega)
      have KF := Lib.hid (show ((l.drop 8).take 4 == ord false (lowB 439041101 4)) = true ∧ o = (false, 0) ∨ ((l.drop 8).take 4 == ord false (lowB 439041101 4)) = false ∧ (((l.drop 8).take 4 == ord true (lowB 439041101 4)) = true ∧ o = (true, 0) ∨ ((l.drop 8).take 4 == ord true (lowB 439041101 4)) = false ∧ o = (false, 120)) by
        rcases NR with ⟨_, a, b⟩ | ⟨_, a, b, d⟩ | ⟨_, a, b, d⟩
        · exact Or.inl ⟨a, b⟩
        · exact Or.inr ⟨a, Or.inl ⟨b, d⟩⟩
        · exact Or.inr ⟨a, Or.inr ⟨b, d⟩⟩)
      clear NR g
      generalize (l.drop 8).take 4 = r at *
      generalize ord false (lowB 439041101 4) = mF at *
      generalize ord true (lowB 439041101 4) = mT at *
      obtain ⟨PV, hPV⟩ : ∃ PV, PV = Value.slice (if c = 8 then ad else ad.map (·.add 8)) 4 (c - 8) := ⟨_, rfl⟩
      rw [← hPV] at HR
      have HPV := Lib.hid (show PV = Value.slice (Option.map (fun x : Addr => ({ block := x.block, off := x.off + 8 } : Addr)) ad) 4 (c - 8) by
        rw [hPV, if_neg C8.out]
        congr 2)
      have CV := Lib.hid (show ∀ W', Byt W' PV r → (convert 22 9 PV).run Try.prog W' = .ok (.string ⟨r.toArray⟩) W' from fun W' h => conv_bytes h.bytes)
      clear hPV HA
      generalize l.length = n at *
      have B9 := B0
      clear R0 B0
      obtain ⟨v9, hv9⟩ : ∃ v, v = wr := ⟨_, rfl⟩
      rw [← hv9] at B9 ⊢
      clear hv9
      obtain ⟨kF, hkF⟩ : ∃ k, k = (r == mF) := ⟨_, rfl⟩
      have KF0 := Lib.hid hkF.symm
      rw [← hkF] at KF
      clear hkF
      obtain ⟨kT, hkT⟩ : ∃ k, k = (r == mT) := ⟨_, rfl⟩
      have KT0 := Lib.hid hkT.symm
      rw [← hkT] at KF
      clear hkT
      go_upto_region 9 with fail
      refine wp_region_held_drew (S := fun W' => Byt W' PV r) (by kernel_rfl) (HR.out _ B9.out.drew) (fun hHeld => ?_)
      refine wpAnyH_take (i := 0) (v := .slice ad n c) rfl (by kernel_rfl) (by kernel_rfl) (by kernel_rfl) (fun _ _ _ h => h) (Or.inl ⟨by rfl, ?_⟩) (by assumption) ?_
      · intro W' hS; go_simp
      refine castP (d := 29) rfl (by simp only [List.set_cons_succ, List.set_cons_zero]; exact rfl) ?_
      refine wpAnyH_take (i := 1) (v := PV) rfl (by kernel_rfl) (by kernel_rfl) (by kernel_rfl) (fun _ _ _ h => h) (Or.inl ⟨by rfl, ?_⟩) (by assumption) ?_
      · intro W' hS; have c12 := C12.out; have c8 := C8.out; have pv := HPV.out; go_simp
      refine castP (d := 30) rfl (by simp only [List.set_cons_succ, List.set_cons_zero]; exact rfl) ?_
      refine wpAnyH_take (i := 2) (v := .string ⟨r.toArray⟩) rfl (by kernel_rfl) (by kernel_rfl) (by kernel_rfl) (fun _ _ _ h => h) (Or.inl ⟨by rfl, ?_⟩) (by assumption) ?_
      · intro W' hS; have cv := CV.out W' hS; go_simp
      refine castP (d := 31) rfl (by simp only [List.set_cons_succ, List.set_cons_zero]; exact rfl) ?_
      refine wpAnyH_ready (rs := [3]) (by kernel_rfl) (by simp) ?_
      refine AllReadyH.cons rfl (fun K hK => ?_) AllReadyH.nil
      go_simp
      go_at_call 22
      refine (PF.out _).mono ?_
      rintro e u9 ⟨g9, rfl, hY, hg, hb0⟩
      have hb := Below.trans (Below.refl v9.heap.size _).drew (hb0.mono (by simp))
      have B10 := Lib.hid (B9.out.trans (hb.mono B9.out.size))
      have Y := Lib.hid (hY.byt (n := 4) (c := 4) LF.out.symm (Nat.le_refl _))
      refine hK.out _ _ (hHeld.on hb0) (fun hHeld2 => ?_)
      clear hK K hY
      have CQ := Lib.hid (show ∀ W', Byt W' (.slice (some ⟨g9, 0, none⟩) 4 4) mF → (convert 22 9 (.slice (some ⟨g9, 0, none⟩) 4 4)).run Try.prog W' = .ok (.string ⟨mF.toArray⟩) W' from fun W' h => conv_bytes h.bytes)
      refine wpAnyH_mono (T := fun W' => Byt W' PV r ∧ Byt W' (.slice (some ⟨g9, 0, none⟩) 4 4) mF) (fun _ h => h.1) _ _ _ _ ?_
      have hHeld3 : Byt u9 PV r ∧ Byt u9 (.slice (some ⟨g9, 0, none⟩) 4 4) mF := ⟨hHeld2, Y.out⟩
      refine wpAnyH_take (i := 4) (v := .string ⟨mF.toArray⟩) rfl (by kernel_rfl) (by kernel_rfl) (by kernel_rfl) (fun _ _ _ h => h) (Or.inl ⟨by rfl, ?_⟩) (by assumption) ?_
      · intro W' hS; have cv := CQ.out W' hS.2; go_simp
      refine castP (d := 33) rfl (by simp only [List.set_cons_succ, List.set_cons_zero]; exact rfl) ?_
      refine wpAnyH_take (i := 5) (v := .bool kF) rfl (by kernel_rfl) (by kernel_rfl) (by kernel_rfl) (fun _ _ _ h => h) (Or.inl ⟨by rfl, ?_⟩) (by assumption) ?_
      · intro W' hS; have kk := KF0.out; go_simp
      refine castP (d := 34) rfl (by simp only [List.set_cons_succ, List.set_cons_zero]; exact rfl) ?_
      refine wpAnyH_done (by kernel_rfl) ?_ _
      clear hHeld hHeld2 hHeld3 CQ Y hb hb0 hg B9
      rcases KF.out with ⟨rfl, rfl⟩ | ⟨rfl, KF2⟩
      · go_wp2
        go_ret2
        exact ⟨rfl, B10.out⟩
      go_upto_region 11 with fail
      obtain ⟨v10, hv10⟩ : ∃ v, v = u9 := ⟨_, rfl⟩
      rw [← hv10] at B10 ⊢
      clear hv10
      refine wp_region_held_drew (S := fun W' => Byt W' PV r) (by kernel_rfl) (HR.out _ B10.out.drew) (fun hHeld => ?_)
      refine wpAnyH_take (i := 0) (v := .slice ad n c) rfl (by kernel_rfl) (by kernel_rfl) (by kernel_rfl) (fun _ _ _ h => h) (Or.inl ⟨by rfl, ?_⟩) (by assumption) ?_
      · intro W' hS; go_simp
      refine castP (d := 35) rfl (by simp only [List.set_cons_succ, List.set_cons_zero]; exact rfl) ?_
      refine wpAnyH_take (i := 1) (v := PV) rfl (by kernel_rfl) (by kernel_rfl) (by kernel_rfl) (fun _ _ _ h => h) (Or.inl ⟨by rfl, ?_⟩) (by assumption) ?_
      · intro W' hS; have c12 := C12.out; have c8 := C8.out; have pv := HPV.out; go_simp
      refine castP (d := 36) rfl (by simp only [List.set_cons_succ, List.set_cons_zero]; exact rfl) ?_
      refine wpAnyH_take (i := 2) (v := .string ⟨r.toArray⟩) rfl (by kernel_rfl) (by kernel_rfl) (by kernel_rfl) (fun _ _ _ h => h) (Or.inl ⟨by rfl, ?_⟩) (by assumption) ?_
      · intro W' hS; have cv := CV.out W' hS; go_simp
      refine castP (d := 37) rfl (by simp only [List.set_cons_succ, List.set_cons_zero]; exact rfl) ?_
      refine wpAnyH_ready (rs := [3]) (by kernel_rfl) (by simp) ?_
      refine AllReadyH.cons rfl (fun K hK => ?_) AllReadyH.nil
      go_simp
      go_at_call 22
      refine (PT.out _).mono ?_
      rintro e u10 ⟨g10, rfl, hY, hg, hb0⟩
      have hb := Below.trans (Below.refl v10.heap.size _).drew (hb0.mono (by simp))
      have B11 := Lib.hid (B10.out.trans (hb.mono B10.out.size))
      have Y := Lib.hid (hY.byt (n := 4) (c := 4) LT.out.symm (Nat.le_refl _))
      refine hK.out _ _ (hHeld.on hb0) (fun hHeld2 => ?_)
      clear hK K hY
      have CQ := Lib.hid (show ∀ W', Byt W' (.slice (some ⟨g10, 0, none⟩) 4 4) mT → (convert 22 9 (.slice (some ⟨g10, 0, none⟩) 4 4)).run Try.prog W' = .ok (.string ⟨mT.toArray⟩) W' from fun W' h => conv_bytes h.bytes)
      refine wpAnyH_mono (T := fun W' => Byt W' PV r ∧ Byt W' (.slice (some ⟨g10, 0, none⟩) 4 4) mT) (fun _ h => h.1) _ _ _ _ ?_
      have hHeld3 : Byt u10 PV r ∧ Byt u10 (.slice (some ⟨g10, 0, none⟩) 4 4) mT := ⟨hHeld2, Y.out⟩
      refine wpAnyH_take (i := 4) (v := .string ⟨mT.toArray⟩) rfl (by kernel_rfl) (by kernel_rfl) (by kernel_rfl) (fun _ _ _ h => h) (Or.inl ⟨by rfl, ?_⟩) (by assumption) ?_
      · intro W' hS; have cv := CQ.out W' hS.2; go_simp
      refine castP (d := 39) rfl (by simp only [List.set_cons_succ, List.set_cons_zero]; exact rfl) ?_
      refine wpAnyH_take (i := 5) (v := .bool kT) rfl (by kernel_rfl) (by kernel_rfl) (by kernel_rfl) (fun _ _ _ h => h) (Or.inl ⟨by rfl, ?_⟩) (by assumption) ?_
      · intro W' hS; have kk := KT0.out; go_simp
      refine castP (d := 40) rfl (by simp only [List.set_cons_succ, List.set_cons_zero]; exact rfl) ?_
      refine wpAnyH_done (by kernel_rfl) ?_ _
      clear hHeld hHeld2 hHeld3 CQ Y hb hb0 hg B10
      rcases KF2 with ⟨rfl, rfl⟩ | ⟨rfl, rfl⟩
      all_goals
        go_wp2
        go_ret2
        exact ⟨rfl, B11.out⟩
end Go.Proofs.Ytjdnekkbmanmdaa
