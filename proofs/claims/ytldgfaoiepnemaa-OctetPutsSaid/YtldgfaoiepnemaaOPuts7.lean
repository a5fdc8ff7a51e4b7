/-
  PROVED HERE (the walk): the statement OctetPuts: rows to which any numbers are put have the document's bytes; the row that was is as it was.
-/
import Derived.Test.YtldgfaoiepnemaaOKnown7
import Derived.Test.YtldgfaoiepnemaaORef7
import Derived.Test.YtldgfaoiepnemaaConvB
import Derived.Test.YtldgfaoiepnemaaOctD
import Derived.Test.YtldgfaoiepnemaaQuiet
import Derived.StillTailTactics
namespace Go.Proofs.Ytldgfaoiepnemaa
open Go.RowKit Go.Sort
set_option maxRecDepth 100000
/-- A row in a variable of the call's own. -/
def PSt (w wr : World) (p : Nat) (a : Option Addr) (m c : Nat) (L : List UInt8) (b : Bool) : Prop :=
  Byt wr (.slice a m c) L ∧ wr.heap[p]? = some (.cells #[.slice a m c, .bool b] 25 (0, 0)) ∧ w.heap.size ≤ p ∧ Below w.heap.size w wr
theorem PSt.on {w wr w2 : World} {p : Nat} {a : Option Addr} {m c : Nat} {L : List UInt8} {b : Bool} (h : PSt w wr p a m c L b) (hb : Below wr.heap.size wr w2) : PSt w w2 p a m c L b :=
  ⟨h.1.on hb, (hb.block p (Array.getElem?_eq_some_iff.1 h.2.1).1).trans h.2.1, h.2.2.1, h.2.2.2.trans (hb.mono h.2.2.2.size)⟩
theorem PSt.cells {w wr : World} {p : Nat} {a : Option Addr} {m c : Nat} {L : List UInt8} {b : Bool} (h : PSt w wr p a m c L b) : wr.cell? ⟨p, 0, none⟩ = some (.slice a m c) ∧ wr.cell? ⟨p, 1, none⟩ = some (.bool b) ∧ wr.frozen? ⟨p, 0, none⟩ = false ∧ wr.frozen? ⟨p, 1, none⟩ = false :=
  ⟨cell_of_row _ _ _ _ _ _ h.2.1, cell_of_row _ _ _ _ _ _ h.2.1, frozen_of_row _ _ _ _ _ h.2.1, frozen_of_row _ _ _ _ _ h.2.1⟩
theorem PSt.put {w wr : World} {p : Nat} {a : Option Addr} {m c : Nat} {L : List UInt8} {b : Bool} (h : PSt w wr p a m c L b) {a' : Option Addr} {m' c' : Nat} {L' : List UInt8} (hY : Byt wr (.slice a' m' c') L') :
    PSt w ((wr.setCell ⟨p, 0, none⟩ (.slice a' m' c')).setCell ⟨p, 1, none⟩ (.bool b)) p a' m' c' L' b :=
  ⟨hY.stored h.2.1 _ _, two_row h.2.1 _ _, h.2.2.1, below_two h.2.2.2 h.2.2.1 _ _⟩
theorem str_append (L q : List UInt8) : (⟨L.toArray⟩ : ByteArray) ++ ⟨q.toArray⟩ = ⟨(L ++ q).toArray⟩ := by
  apply ByteArray.ext
  rw [ByteArray.data_append]
  simp
theorem padV_bd (n : Int) : 0 ≤ padV n ∧ padV n ≤ 3 := by unfold padV; split <;> omega
set_option maxHeartbeats 4000000 in
theorem octetPuts_in (a : Option Addr) (l : List UInt8) (c : Nat) (b : Bool) (ax : Option Addr) (xs : List Int) (cx : Nat) (am : Option Addr) (ms : List Int) (cm : Nat) (z : Int) (w : World) (hB : Byt w (.slice a l.length c) l) (hl : l.length ≤ 300) (hx : Nums .u64 w (.slice ax xs.length cx) xs) (hxl : xs.length ≤ 20)
    (hxw : ∀ x ∈ xs, 0 ≤ x ∧ x ≤ 18446744073709551615) (hm : Nums .i64 w (.slice am ms.length cm) ms) (hmw : ∀ x ∈ ms, -9223372036854775808 ≤ x ∧ x ≤ 9223372036854775807) (hz : -9223372036854775808 ≤ z ∧ z ≤ 9223372036854775807) :
    Calls Try.prog 4 #[.slice a l.length c, .bool b, .slice ax xs.length cx, .slice am ms.length cm, .int .i64 z] w fun e w' => e = .returned (.bool true) ∧ Below w.heap.size w w' := by
  have HB := Lib.hid hB
  have HX := Lib.hid hx
  have HM := Lib.hid hm
  have XW := Lib.hid hxw
  have MW := Lib.hid hmw
  have TP := Lib.hid (fun w => t_pad z hz w)
  clear hB hx hm hxw hmw
  obtain ⟨n0, hn0⟩ : ∃ n, n = l.length := ⟨_, rfl⟩
  obtain ⟨nx, hnx⟩ : ∃ n, n = xs.length := ⟨_, rfl⟩
  obtain ⟨nm, hnm⟩ : ∃ n, n = ms.length := ⟨_, rfl⟩
  have N0 := Lib.hid hn0
  have NX := Lib.hid hnx
  have NM := Lib.hid hnm
  rw [← hn0] at HB hl ⊢
  rw [← hnx] at HX hxl ⊢
  rw [← hnm] at HM ⊢
  clear hn0 hnx hnm
  have pb := padV_bd z
  have g1 : decide ((300 : Int) < (n0 : Nat)) = false := by simp; omega
  have g2 : decide ((20 : Int) < (nx : Nat)) = false := by simp; omega
  go_enter Try.func4, Try.ntmps4
  go_upto_region 1 with fail
  go_upto_region 5 with (go_at_call 7; refine (t_known _).mono ?_; rintro e w1 ⟨rfl, hb⟩)
  have HB1 := Lib.hid (HB.out.on hb)
  have B1 := Lib.hid hb
  clear HB hb
  go_upto_block 0 with fail
  go_cut [11] from 29 to 40 (fun v wr => v = .int .i64 (padV z) ∧ wr = w1)
  case first =>
    go_wp2_with fail
    go_loop [11] (fun t => ∃ j : Nat, (j : Int) ≤ padV z ∧ t = .int .i64 j) (fun t => (padV z - intOf t).toNat)
    case atStart => exact ⟨0, by omega, rfl⟩
    case round =>
      obtain ⟨j, hj, rfl⟩ := hrel
      have h3 : (j : Int) ≤ 3 := by omega
      by_cases hlt : (j : Int) < padV z
      · have z0 : 0 < z := by
          rcases Int.lt_trichotomy z 0 with h | h | h
          · unfold padV at hlt; rw [if_pos h] at hlt; omega
          · subst h; have : padV 0 = 0 := by decide
            omega
          · exact h
        have zp : padV z = (4 - z % 4) % 4 := by unfold padV; rw [if_neg (by omega)]
        have z1 : 0 < (z % 4 + (j : Int)) % 4 := by omega
        have ZP := Lib.hid zp
        clear zp
        go_wp2
        go_round
        case rel => exact ⟨j + 1, by omega, by go_num⟩
        case measure => simp [intOf]; omega
      · have zj : padV z = j := by omega
        have zz : z ≤ 0 ∨ (0 < z ∧ (z % 4 + (j : Int)) % 4 = 0) := by
          by_cases h : 0 < z
          · right; unfold padV at zj; rw [if_neg (by omega)] at zj; omega
          · left; omega
        have ZJ := Lib.hid zj
        clear zj hlt hj pb
        rcases zz with zz | ⟨zz, zz'⟩
        · go_wp2
          go_meet
          exact ⟨by rw [ZJ.out], rfl⟩
        · go_wp2
          go_meet
          exact ⟨by rw [ZJ.out], rfl⟩
  case rest =>
    obtain ⟨rfl, hw⟩ := hcut
    rw [hw]
    clear hw
    go_upto_region 10 with (go_at_call 14; refine (TP.out _).mono ?_; rintro e w2 ⟨rfl, rfl⟩)
    go_upto_region 11 with fail
    have S1 := Lib.hid (show PSt w (w1.alloc (.cells #[.slice a n0 c, .bool b] 25)) w1.heap.size a n0 c l b from
      ⟨HB1.out.on (below_alloc _ _), row_new _ _ rfl, B1.out.size, B1.out.trans ((below_alloc _ _).mono B1.out.size)⟩)
    have HV := conv_bytes S1.out.1.bytes
    clear HB1
    generalize w1.alloc (.cells #[.slice a n0 c, .bool b] 25) = w3 at *
    generalize w1.heap.size = p at *
    have L1 := Lib.hid (show l.length ≤ 300 + 8 * 0 by have := N0.out; omega)
    go_wp2
    clear HV
    go_loopw [13, 52] (fun s i wr => ∃ (k : Nat) (L : List UInt8) (a' : Option Addr) (m c' : Nat), k ≤ nx ∧ i = .int .i64 k ∧ s = .string ⟨L.toArray⟩ ∧ Hid (PSt w wr p a' m c' L b) ∧ Hid (L.length ≤ 300 + 8 * k)) (fun _ i _ => nx - (intOf i).toNat)
    case atStart => exact ⟨0, l, a, n0, c, by omega, rfl, rfl, S1, L1⟩
    case round =>
      clear S1 L1
      obtain ⟨k, L, a', m, c', hk, rfl, rfl, S, LL⟩ := hrel
      by_cases hlt : k < nx
      · obtain ⟨g, o, rfl, x0⟩ := (HX.out.on S.out.2.2.2).get (j := k) (by have := NX.out; omega)
        have hxb := XW.out _ (List.getElem_mem (show k < xs.length by have := NX.out; omega))
        generalize xs[k]'(by have := NX.out; omega) = x at *
        by_cases hlm : k < nm
        · obtain ⟨g', o', rfl, m0⟩ := (HM.out.on S.out.2.2.2).get (j := k) (by have := NM.out; omega)
          have hmb := MW.out _ (List.getElem_mem (show k < ms.length by have := NM.out; omega))
          generalize hmq : ms[k]'(by have := NM.out; omega) = q at *
          have MQ := Lib.hid hmq
          clear hmq
          have h1 : decide (nm ≤ k) = false := by simp; omega
          go_upto_region 16 with fail
          obtain ⟨e0, e1, f0, f1⟩ := S.out.cells
          have ev := conv_bytes (S.out.1.on (w' := wr.drew) (Below.refl _ _).drew).bytes
          go_region_held3 (fun W' => W'.cell? ⟨p, 0, none⟩ = some (.slice a' m c') ∧ W'.cell? ⟨p, 1, none⟩ = some (.bool b) ∧ (convert 22 9 (.slice a' m c')).run Try.prog W' = .ok (.string ⟨L.toArray⟩) W')
            (first
              | exact ⟨e0, e1, ev⟩
              | (refine ⟨?_, ?_, conv_bytes (S.out.1.on ?_).bytes⟩; rotate_left 2; ((repeat (first | exact Below.refl _ _ | assumption | (refine Below.drew ?_) | (refine below_drewN ?_ _) | (refine Below.alloc ?_ (by first | (simp; done) | (simp; omega) | omega) _) | (refine Below.setCell ?_ (by first | (simp; done) | (simp; omega) | omega) _) | (refine Below.trans ?_ (Below.mono (by assumption) (by first | (simp; done) | (simp; omega) | omega)))))); all_goals go_keep))
            (fail)
          clear e0 e1 f0 f1 ev x0 m0 h1
          have S4 := Lib.hid (S.out.on (w2 := (wr.alloc (.cells #[.slice a' m c', .bool b] 25)).drew) (below_alloc wr _).drew)
          have R4 := Lib.hid (show ((wr.alloc (.cells #[.slice a' m c', .bool b] 25)).drew).heap[wr.heap.size]? = some (.cells #[.slice a' m c', .bool b] 25 (0, 0)) from row_new wr _ rfl)
          have RP := Lib.hid (show p ≠ wr.heap.size from by have := (Array.getElem?_eq_some_iff.1 S.out.2.1).1; omega)
          generalize (wr.alloc (.cells #[.slice a' m c', .bool b] 25)).drew = w4 at *
          generalize wr.heap.size = r at *
          clear S
          obtain ⟨g'', o'', e, m0⟩ := (HM.out.on S4.out.2.2.2).get (j := k) (by have := NM.out; omega)
          cases e
          rw [MQ.out] at m0
          obtain ⟨e0, e1, f0, f1⟩ := S4.out.cells
          go_wp2_with fail
          go_still_tail 6, (by kernel_rfl)
          have S5 := Lib.hid (S4.out.on (w2 := w4.drew) (Below.refl _ _).drew)
          have R5 := Lib.hid (show (w4.drew).heap[r]? = some (.cells #[.slice a' m c', .bool b] 25 (0, 0)) from R4.out)
          change wpList _ _ _ _ _ w4.drew
          generalize w4.drew = w5 at *
          clear S4 R4 e0 e1 f0 f1 m0
          obtain ⟨xn, rfl⟩ := Int.eq_ofNat_of_zero_le hxb.1
          by_cases hq : 0 ≤ q ∧ q ≤ 8
          · obtain ⟨qn, rfl⟩ := Int.eq_ofNat_of_zero_le hq.1
            obtain ⟨L', hL⟩ : ∃ L', L' = L ++ ord b (low xn qn) := ⟨_, rfl⟩
            have HL := Lib.hid hL
            have TB := Lib.hid (t_put_byt (.slice a' m c') L b xn qn (by omega) (by omega) (by have := LL.out; omega) w5 S5.out.1)
            have RB := Lib.hid (fun w => r_put xn b qn (by omega) (by omega) w)
            have LQ := Lib.hid (show L'.length ≤ 300 + 8 * (k + 1) by rw [hL, List.length_append, ord_length, low_length]; have := LL.out; omega)
            rw [← hL] at TB
            clear hL
            go_wp2_with fail
            refine TB.out.mono ?_
            rintro e w6 ⟨v6, rfl, hY, hb⟩
            obtain ⟨a6, c6, rfl, _, _⟩ := hY.open
            have S6 := Lib.hid (S5.out.on hb)
            have R6 := Lib.hid (show w6.heap[r]? = some (.cells #[.slice a' m c', .bool b] 25 (0, 0)) from (hb.block r (Array.getElem?_eq_some_iff.1 R5.out).1).trans R5.out)
            have WA := Lib.hid (S5.out.1.on hb)
            have Y6 := Lib.hid hY
            generalize hm6 : L'.length = m6 at *
            have M6 := Lib.hid hm6
            clear hm6
            obtain ⟨e0, e1, f0, f1⟩ := S6.out.cells
            clear S5 R5 TB hb hY
            go_upto_region 18 with fail
            have S7 := Lib.hid (S6.out.put Y6.out)
            have R7 := Lib.hid ((two_far (fun e => RP.out e.symm) (.slice a6 m6 c6) (.bool b)).trans R6.out)
            have W7 := Lib.hid (WA.out.stored S6.out.2.1 (.slice a6 m6 c6) (.bool b))
            generalize (w6.setCell ⟨p, 0, none⟩ (.slice a6 m6 c6)).setCell ⟨p, 1, none⟩ (.bool b) = w7 at *
            clear S6 R6 WA Y6 e0 e1 f0 f1
            obtain ⟨g2, o2, e, m0⟩ := (HM.out.on S7.out.2.2.2).get (j := k) (by have := NM.out; omega)
            cases e
            rw [MQ.out] at m0
            have q1 : decide ((qn : Int) ≤ 8) = true := by simp; omega
            go_upto_region 20 with fail
            clear m0
            go_wp2_with fail
            refine (RB.out _).mono ?_
            rintro e w8 ⟨v8, rfl, hY, hb⟩
            have S8 := Lib.hid (S7.out.on hb)
            have R8 := Lib.hid ((hb.block r (Array.getElem?_eq_some_iff.1 R7.out).1).trans R7.out)
            have W8 := Lib.hid (W7.out.on hb)
            have cv := conv_bytes hY.bytes
            clear S7 R7 W7 RB hb hY
            have zL : (⟨L.toArray⟩ : ByteArray).size ≤ 460 := by
              have := LL.out
              simp only [ByteArray.size, List.size_toArray]; omega
            have zQ : (⟨(ord b (low xn qn)).toArray⟩ : ByteArray).size ≤ 8 := by
              simp only [ByteArray.size, List.size_toArray, ord_length, low_length]; omega
            have TT := Lib.hid (show (⟨L.toArray⟩ : ByteArray) ++ ⟨(ord b (low xn qn)).toArray⟩ = ⟨L'.toArray⟩ by rw [str_append, HL.out])
            have TL := Lib.hid (show (⟨L.toArray⟩ : ByteArray) = ⟨L.toArray⟩ from rfl)
            have va := conv_bytes S8.out.1.bytes
            have vw := conv_bytes W8.out.bytes
            generalize htq : (⟨(ord b (low xn qn)).toArray⟩ : ByteArray) = tq at *
            generalize htl : (⟨L.toArray⟩ : ByteArray) = tl at *
            have TH := Lib.hid htl
            clear htq htl
            go_upto_region 21 with fail
            rw [TT.out]
            obtain ⟨e0, e1, _, _⟩ := S8.out.cells
            have e2 := (cell_of_row _ _ 0 _ _ _ R8.out).trans rfl
            have e3 := (cell_of_row _ _ 1 _ _ _ R8.out).trans rfl
            generalize htn : (⟨L'.toArray⟩ : ByteArray) = tn at *
            have TN := Lib.hid htn
            clear htn
            go_wp2
            go_roundw
            case rel => exact ⟨k + 1, L', a6, m6, c6, by omega, by go_num, by rw [TN.out], S8, Lib.hid (by have := M6.out; have := LQ.out; omega)⟩
            case measure => simp [intOf]; omega
          · have TB := Lib.hid (t_put_no a' m c' b xn q (by omega) hmb w5)
            have q1 : decide (0 ≤ q) = false ∨ (decide (0 ≤ q) = true ∧ decide (q ≤ 8) = false) := by simp only [decide_eq_true_eq, decide_eq_false_iff_not]; omega
            clear hq
            go_wp2_with fail
            refine TB.out.mono ?_
            rintro e w6 ⟨rfl, hb⟩
            have S6 := Lib.hid (S5.out.on hb)
            have R6 := Lib.hid (show w6.heap[r]? = some (.cells #[.slice a' m c', .bool b] 25 (0, 0)) from (hb.block r (Array.getElem?_eq_some_iff.1 R5.out).1).trans R5.out)
            obtain ⟨e0, e1, f0, f1⟩ := S6.out.cells
            clear S5 R5 TB hb
            go_upto_region 18 with fail
            have S7 := Lib.hid (S6.out.put S6.out.1)
            have R7 := Lib.hid ((two_far (fun e => RP.out e.symm) (.slice a' m c') (.bool b)).trans R6.out)
            generalize (w6.setCell ⟨p, 0, none⟩ (.slice a' m c')).setCell ⟨p, 1, none⟩ (.bool b) = w7 at *
            clear S6 R6 e0 e1 f0 f1
            obtain ⟨g2, o2, e, m0⟩ := (HM.out.on S7.out.2.2.2).get (j := k) (by have := NM.out; omega)
            cases e
            rw [MQ.out] at m0
            have va := conv_bytes S7.out.1.bytes
            obtain ⟨e0, e1, _, _⟩ := S7.out.cells
            have e2 := (cell_of_row _ _ 0 _ _ _ R7.out).trans rfl
            have e3 := (cell_of_row _ _ 1 _ _ _ R7.out).trans rfl
            rcases q1 with q1 | ⟨q1, q2⟩
            all_goals
              generalize htn : (⟨L.toArray⟩ : ByteArray) = tn at *
              have TN := Lib.hid htn
              clear htn
              go_wp2
              go_roundw
              case rel => exact ⟨k + 1, L, a', m, c', by omega, by go_num, by rw [TN.out], S7, Lib.hid (by have := LL.out; omega)⟩
              case measure => simp [intOf]; omega
        · have h1 : decide (nm ≤ k) = true := by simp; omega
          go_wp2
          go_ret
          exact ⟨rfl, S.out.2.2.2⟩
      · go_wp2
        go_ret
        exact ⟨rfl, S.out.2.2.2⟩
set_option maxHeartbeats 1000000 in
theorem octetPuts_any (l : List UInt8) (v : Value) (b : Bool) (xs : List Int) (vx : Value) (ms : List Int) (vm : Value) (z : Int) (w : World) (hB : Byt w v l) (hx : Nums .u64 w vx xs ∧ ∀ x ∈ xs, 0 ≤ x ∧ x ≤ 18446744073709551615) (hm : Nums .i64 w vm ms ∧ ∀ x ∈ ms, -9223372036854775808 ≤ x ∧ x ≤ 9223372036854775807) (hz : -9223372036854775808 ≤ z ∧ z ≤ 9223372036854775807) :
    Calls Try.prog 4 #[v, .bool b, vx, vm, .int .i64 z] w fun e w' => e = .returned (.bool true) ∧ Below w.heap.size w w' := by
  obtain ⟨a, c, rfl, _⟩ := hB.open
  obtain ⟨hx, hxw⟩ := hx
  obtain ⟨hm, hmw⟩ := hm
  obtain ⟨ax, cx, rfl, kx⟩ := id hx
  obtain ⟨am, cm, rfl, km⟩ := id hm
  clear kx km
  by_cases hl : l.length ≤ 300
  · by_cases hxl : xs.length ≤ 20
    · exact octetPuts_in a l c b ax xs cx am ms cm z w hB hl hx hxl hxw hm hmw hz
    · have g : decide ((300 : Int) < (l.length : Nat)) = false := by simp; omega
      have g' : decide ((20 : Int) < (xs.length : Nat)) = true := by simp; omega
      clear hl hxl hB hx hm hxw hmw
      generalize l.length = n at *
      generalize xs.length = nx at *
      generalize ms.length = nm at *
      go_enter Try.func4, Try.ntmps4
      go_wp2_with (go_at_call 7; refine (t_known _).mono ?_; rintro e w1 ⟨rfl, hb⟩)
      go_ret
      exact ⟨rfl, hb⟩
  · have g : decide ((300 : Int) < (l.length : Nat)) = true := by simp; omega
    clear hl hB hx hm hxw hmw
    generalize l.length = n at *
    generalize xs.length = nx at *
    generalize ms.length = nm at *
    go_enter Try.func4, Try.ntmps4
    go_wp2_with (go_at_call 7; refine (t_known _).mono ?_; rintro e w1 ⟨rfl, hb⟩)
    go_ret
    exact ⟨rfl, hb⟩
end Go.Proofs.Ytldgfaoiepnemaa
