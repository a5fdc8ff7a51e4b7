/-
  The document's reading of a number (horologeref06): read.
  The document's Parse (horologeref06).
  fault.Parse.
  Plain lemmas: fault.Parse against the document's Parse.
  fault.Parse and the document's Parse agree.
  FaultLines' law, walked.
-/
import Derived.Test.YtcipgagpmglikaaGreatDoorRLine6
import Derived.Test.YtcipgagpmglikaaGreatDoorUndec2
import Derived.Test.YtcipgagpmglikaaGreatDoorPeel6
import Derived.Test.YtcipgagpmglikaaGreatDoorBuilds6
import Derived.Test.YtcipgagpmglikaaGreatDoorFields
namespace Go.Proofs.YtcipgagpmglikaaGreatDoor
open Go.RowKit Go.Sort
set_option maxRecDepth 8000
def isDg (c : UInt8) : Bool := decide (48 ≤ c.toNat) && decide (c.toNat ≤ 57)
/-- The figures at the beginning, k of them at most. -/
def scanD : Nat → List UInt8 → List UInt8
  | k + 1, c :: r => if isDg c then c :: scanD k r else []
  | _, _ => []
def belowL (t : List UInt8) : Bool := t.head? == some 45
/-- What is read as a number: the sign, the figures. -/
def spanR (t : List UInt8) : List UInt8 := if belowL t then 45 :: scanD 24 (t.drop 1) else scanD 25 t
/-- The number, and the place behind it. -/
def readV (t : List UInt8) (at_ : Nat) : Int × Int := match num64 (spanR t) with
  | some v => (v, (at_ + (spanR t).length : Nat))
  | none => (0, -1)
theorem scanD_le (k : Nat) (l : List UInt8) : (scanD k l).length ≤ k := by
  induction k generalizing l with
  | zero => cases l <;> simp [scanD]
  | succ k ih =>
    cases l with
    | nil => simp [scanD]
    | cons c r => simp only [scanD]; split; simp; exact ih r; simp
theorem scanD_pre (k : Nat) (l : List UInt8) : scanD k l = l.take (scanD k l).length := by
  induction k generalizing l with
  | zero => cases l <;> simp [scanD]
  | succ k ih =>
    cases l with
    | nil => simp [scanD]
    | cons c r =>
      simp only [scanD]
      split
      · simp only [List.length_cons, List.take_succ_cons]; rw [← ih r]
      · simp
/-- After j figures: what is still to come. -/
def Scan (K : Nat) (l : List UInt8) (j : Nat) : Prop := j ≤ K ∧ scanD K l = l.take j ++ scanD (K - j) (l.drop j) ∧ j ≤ l.length
theorem Scan.start (K : Nat) (l : List UInt8) : Scan K l 0 := ⟨Nat.zero_le _, by simp, Nat.zero_le _⟩
theorem Scan.next {K : Nat} {l : List UInt8} {j : Nat} (h : Scan K l j) (hj : j < K) (hl : j < l.length) (hd : isDg l[j] = true) : Scan K l (j + 1) := by
  obtain ⟨h1, h2, h3⟩ := h
  refine ⟨hj, ?_, hl⟩
  rw [h2, List.drop_eq_getElem_cons hl, List.take_succ_eq_append_getElem hl]
  obtain ⟨q, hq⟩ : ∃ q, K - j = q + 1 := ⟨K - j - 1, by omega⟩
  rw [hq, scanD, if_pos hd, show K - (j + 1) = q by omega, List.append_assoc]
  rfl
theorem Scan.stop {K : Nat} {l : List UInt8} {j : Nat} (h : Scan K l j) (he : j = K ∨ ¬ j < l.length ∨ ∃ hl : j < l.length, isDg l[j] = false) : scanD K l = l.take j := by
  obtain ⟨h1, h2, h3⟩ := h
  rw [h2]
  have e : scanD (K - j) (l.drop j) = [] := by
    rcases he with rfl | he | ⟨hl, hd⟩
    · rw [Nat.sub_self]; cases l.drop j <;> rfl
    · rw [List.drop_of_length_le (by omega)]; cases K - j <;> rfl
    · rw [List.drop_eq_getElem_cons hl]
      cases hk : K - j with
      | zero => rfl
      | succ q => rw [scanD, if_neg (by rw [hd]; exact Bool.false_ne_true)]
  rw [e, List.append_nil]
/-- The number that is computed of the figures. -/
def valR (b : Bool) (ds : List UInt8) : Int := IntKind.wrap .i64 (IntKind.wrap .u64 (if b then - ((horner ds : Int) % 18446744073709551616) else (horner ds : Int) % 18446744073709551616))
theorem dec_cons_minus (v : Int) : (Lib.itoa v).head? = some 45 ↔ v < 0 := by
  unfold Lib.itoa
  split
  · rename_i h; simp [h]
  · rename_i h
    simp only [h, iff_false]
    intro q
    cases hd : Lib.decDigits v.toNat with
    | nil => rw [hd] at q; cases q
    | cons c r => rw [hd] at q; simp at q; subst q; exact dec_no_minus _ _ hd
theorem valR_is {b : Bool} {ds : List UInt8} {v : Int} (h : W64 v) (he : (if b then 45 :: ds else ds) = Lib.itoa v) (hb : b = decide (v < 0)) : valR b ds = v := by
  unfold W64 at h
  by_cases hv : v < 0
  · rw [decide_eq_true hv] at hb
    subst hb
    have hd : ds = Lib.decDigits v.natAbs := by unfold Lib.itoa at he; rw [if_pos hv] at he; simpa using he
    unfold valR
    rw [hd, horner_dec]
    simp [IntKind.wrap, IntKind.signed, IntKind.bits]
    omega
  · rw [decide_eq_false hv] at hb
    subst hb
    have hd : ds = Lib.decDigits v.toNat := by unfold Lib.itoa at he; rw [if_neg hv] at he; simpa using he
    unfold valR
    rw [hd, horner_dec]
    simp [IntKind.wrap, IntKind.signed, IntKind.bits]
    omega
theorem read_is (b : Bool) (ds : List UInt8) (hds : ds.head? ≠ some 45) (hv : W64 (valR b ds)) :
    num64 (if b then 45 :: ds else ds) = if Lib.itoa (valR b ds) = (if b then 45 :: ds else ds) then some (valR b ds) else none := by
  by_cases h : Lib.itoa (valR b ds) = (if b then 45 :: ds else ds)
  · rw [if_pos h]
    have q := num?_itoa hv
    rw [h] at q
    exact q
  · rw [if_neg h]
    refine num?_of_not fun n hn he => h ?_
    have hb : b = decide (n < 0) := by
      have := dec_cons_minus n
      rw [he] at this
      cases b with
      | true => simp at this; exact (decide_eq_true this).symm
      | false =>
        have : ¬ n < 0 := fun q => hds (by simpa using this.2 q)
        exact (decide_eq_false this).symm
    rw [valR_is hn he.symm hb, he]
theorem wrap_dig (N : Int) (H c : Nat) (hN : N = (H : Int) % 18446744073709551616) (hc : 48 ≤ c) : IntKind.wrap .u64 (IntKind.wrap .u64 (IntKind.wrap .u64 (10 * N) + (c : Int)) - 48) = ((10 * H + (c - 48) : Nat) : Int) % 18446744073709551616 := by
  simp [IntKind.wrap, IntKind.signed, IntKind.bits]
  omega
theorem scanD_head (k : Nat) (l : List UInt8) : (scanD k l).head? ≠ some 45 := by
  cases k with
  | zero => cases l <;> simp [scanD]
  | succ k =>
    cases l with
    | nil => simp [scanD]
    | cons c r =>
      simp only [scanD]
      split
      · rename_i h
        simp only [List.head?_cons, ne_eq, Option.some.injEq]
        rintro rfl
        exact absurd h (by decide)
      · simp
theorem below_cons {t : List UInt8} (h : belowL t = true) : t = 45 :: t.drop 1 := by
  cases t with
  | nil => cases h
  | cons c r => simp [belowL] at h; subst h; rfl
theorem valR_W64 (b : Bool) (ds : List UInt8) : W64 (valR b ds) := by
  unfold W64 valR
  generalize (if b = true then - ((horner ds : Int) % 18446744073709551616) else (horner ds : Int) % 18446744073709551616) = x
  simp [IntKind.wrap, IntKind.signed, IntKind.bits]
  omega
set_option maxHeartbeats 4000000 in
theorem r_read (s : ByteArray) (at_ : Nat) (hat : at_ ≤ s.size) (hs : s.size ≤ 4000) (w : World) :
    Calls Tryz.prog 34 #[.string s, .int .i64 at_] w fun ex w' => ex = .returned (.tuple #[.int .i64 (readV (s.data.toList.drop at_) at_).1, .int .i64 (readV (s.data.toList.drop at_) at_).2]) ∧ Below w.heap.size w w' := by
  obtain ⟨t0, ht0⟩ : ∃ t0, t0 = s.data.toList.drop at_ := ⟨_, rfl⟩
  rw [← ht0]
  obtain ⟨RR, hRR⟩ : ∃ RR, RR = readV t0 at_ := ⟨_, rfl⟩
  rw [← hRR]
  obtain ⟨b, hb⟩ : ∃ b, b = belowL t0 := ⟨_, rfl⟩
  have T0 := Lib.hid ht0
  have R0 := Lib.hid hRR
  clear ht0 hRR
  have hat' : (at_ : Int) ≤ s.size := by omega
  have hs' : (s.size : Int) ≤ 4000 := by omega
  go_enter Tryz.func34, Tryz.ntmps34
  go_upto_region 1 with fail
  go_cut [6] from 10 to 19 (fun v wr => v = .bool b ∧ wr = w)
  case first =>
    by_cases hlt : at_ < s.size
    · have hlt' : (at_ : Int) < s.size := by omega
      have E := Lib.hid (show b = ((s[at_].toNat : Int) == 45) by
        rw [hb, belowL, T0.out, List.drop_eq_getElem_cons (by rw [len_list]; exact hlt), List.head?_cons]
        have e : s.data.toList[at_]'(by rw [len_list]; exact hlt) = s[at_] := rfl
        rw [e]
        generalize s[at_] = c
        rw [Bool.eq_iff_iff]
        simp only [beq_iff_eq, Option.some.injEq]
        constructor
        · rintro rfl; rfl
        · intro h; exact UInt8.toNat_inj.1 (by have e : (45 : UInt8).toNat = 45 := rfl; omega))
      go_wp2
      go_meet
      exact ⟨by rw [E.out], rfl⟩
    · have hlt' : ¬ (at_ : Int) < s.size := by omega
      have E := Lib.hid (show b = false by
        rw [hb, belowL, T0.out, List.drop_of_length_le (by rw [len_list]; omega)]; rfl)
      clear hlt
      go_wp2
      go_meet
      exact ⟨by rw [E.out], rfl⟩
  case rest =>
  obtain ⟨rfl, rfl⟩ := hcut
  have HB := Lib.hid hb
  have HS := Lib.hid (And.intro hat hs)
  clear hb hat hs
  cases b with
  | true =>
    have LE : Hid (at_ + 1 ≤ s.size) := Lib.hid (by have h := HB.out; rw [belowL, T0.out] at h; rcases Nat.lt_or_ge at_ s.size with q | q; omega; rw [List.drop_of_length_le (by rw [len_list]; exact q)] at h; cases h)
    have SP := Lib.hid (show spanR t0 = (if true then 45 :: scanD 24 (s.data.toList.drop (at_ + 1)) else scanD 24 (s.data.toList.drop (at_ + 1))) by
      rw [spanR, ← HB.out, T0.out]; simp [List.drop_drop])
    obtain ⟨l, hl⟩ : ∃ l, l = s.data.toList.drop (at_ + 1) := ⟨_, rfl⟩
    rw [← hl] at SP
    have LL := Lib.hid hl
    clear hl
    go_upto_block 0 with fail
    go_cut [1, 8] from 24 to 55 (fun v1 v8 wr => wr = wc ∧ ∃ (j P : Nat) (N : Int), v1 = .int .i64 (P : Int) ∧ v8 = .int .u64 N ∧ Hid (P = at_ + 1 + j ∧ N = (horner (l.take j) : Int) % 18446744073709551616 ∧ scanD 24 l = l.take j ∧ j ≤ l.length))
    case first =>
      go_wp2
      go_loopg [1, 8] (24) (fun g v1 v8 wr => wr = wc ∧ ∃ j P : Nat, g = 24 - j ∧ v1 = .int .i64 (P : Int) ∧ Hid (P = at_ + 1 + j) ∧ v8 = .int .u64 ((horner (l.take j) : Int) % 18446744073709551616) ∧ Hid (Scan 24 l j))
      case atStart => exact ⟨rfl, 0, at_ + 1, rfl, by first | rfl | go_num, rfl, rfl, Lib.hid (Scan.start _ _)⟩
      case round =>
        obtain ⟨rfl, j, P, rfl, rfl, PP, rfl, A⟩ := hrel
        have J := Lib.hid A.out.1
        generalize hN : ((horner (l.take j) : Int) % 18446744073709551616) = N
        have NN := Lib.hid hN
        have hPl : (P : Int) ≤ 5000 := by have := PP.out; have := J.out; have := LE.out; have := HS.out; omega
        clear hN
        by_cases hlt : P < s.size
        · have hlt' : (P : Int) < s.size := by omega
          have ec : l[j]? = some s[P] := by
            rw [LL.out, List.getElem?_drop, ← PP.out, List.getElem?_eq_getElem (by rw [len_list]; exact hlt)]; rfl
          obtain ⟨hl, eg⟩ := List.getElem?_eq_some_iff.1 ec
          have EG := Lib.hid (show ∃ hl : j < l.length, l[j] = s[P] from ⟨hl, eg⟩)
          have EJ := Lib.hid (show (P : Int) - at_ < 25 ↔ j < 24 by have := PP.out; omega)
          clear ec hl eg
          by_cases d1 : (48 : Int) ≤ s[P].toNat
          · by_cases d2 : (s[P].toNat : Int) ≤ 57
            · have DG := Lib.hid (And.intro d1 d2)
              by_cases hj : j < 24
              · have hj' := EJ.out.2 hj
                have HJ := Lib.hid hj
                obtain ⟨hl, eg⟩ := EG.out
                have A2 := Lib.hid (A.out.next hj hl (by rw [eg, isDg, decide_eq_true (by omega), decide_eq_true (by omega)]; rfl))
                have HN := Lib.hid (show (horner (l.take (j + 1)) : Nat) = 10 * horner (l.take j) + (s[P].toNat - 48) by rw [List.take_succ_eq_append_getElem hl, horner_append, eg])
                clear hj hl eg
                go_wp2
                go_roundg (24 - (j + 1))
                case measure => have := HJ.out; omega
                case rel =>
                  refine ⟨rfl, j + 1, P + 1, rfl, by go_num, Lib.hid (by have := PP.out; omega), ?_, A2⟩
                  have e := NN.out
                  have h := HN.out
                  have g := DG.out
                  rw [h, wrap_dig N _ _ e.symm (by omega)]
              · have hj' : ¬ (P : Int) - at_ < 25 := fun q => hj (EJ.out.1 q)
                have E2 := Lib.hid (A.out.stop (Or.inl (by have := J.out; omega)))
                clear hj
                go_wp2
                go_meet
                exact ⟨rfl, j, P, N, rfl, rfl, Lib.hid ⟨PP.out, NN.out.symm, E2.out, A.out.2.2⟩⟩
            · have E2 := Lib.hid (A.out.stop (Or.inr (Or.inr (by obtain ⟨hl, eg⟩ := EG.out; exact ⟨hl, by rw [eg, isDg, decide_eq_false (show ¬ s[P].toNat ≤ 57 by omega), Bool.and_false]⟩))))
              go_wp2
              go_meet
              exact ⟨rfl, j, P, N, rfl, rfl, Lib.hid ⟨PP.out, NN.out.symm, E2.out, A.out.2.2⟩⟩
          · have E2 := Lib.hid (A.out.stop (Or.inr (Or.inr (by obtain ⟨hl, eg⟩ := EG.out; exact ⟨hl, by rw [eg, isDg, decide_eq_false (show ¬ 48 ≤ s[P].toNat by omega), Bool.false_and]⟩))))
            go_wp2
            go_meet
            exact ⟨rfl, j, P, N, rfl, rfl, Lib.hid ⟨PP.out, NN.out.symm, E2.out, A.out.2.2⟩⟩
        · have hlt' : ¬ (P : Int) < s.size := by omega
          have E2 := Lib.hid (A.out.stop (Or.inr (Or.inl (by rw [LL.out, List.length_drop, len_list]; have := PP.out; omega))))
          clear hlt
          go_wp2
          go_meet
          exact ⟨rfl, j, P, N, rfl, rfl, Lib.hid ⟨PP.out, NN.out.symm, E2.out, A.out.2.2⟩⟩
    case rest =>
    obtain ⟨rfl, j, P, N, rfl, rfl, F⟩ := hcut
    obtain ⟨V, hV⟩ : ∃ V, V = valR true (l.take j) := ⟨_, rfl⟩
    have e3 : wrap64 (IntKind.wrap .u64 (-N)) = V := by
      rw [hV, valR, F.out.2.1]
      simp [wrap64, IntKind.wrap, IntKind.signed, IntKind.bits]
      split <;> omega
    have VW := Lib.hid (show W64 V by rw [hV]; exact valR_W64 _ _)
    have VV := Lib.hid hV
    have NB : Hid (∀ d os, Calls Tryz.prog 17 #[.int .i64 V] (grow (redrawn wc d) os) fun e w'' => e = .returned (.string (txt V)) ∧ ∃ p : Regrown, w'' = grow (redrawn wc p.d) p.os) :=
      Lib.hid (fun d os => Calls.regrown_of (r_number V VW.out _))
    have hPs : (P : Int) ≤ s.size := by have := F.out.1; have := F.out.2.2.2; rw [LL.out, List.length_drop, len_list] at this; have := LE.out; omega
    have hPa : (at_ : Int) ≤ P := by have := F.out.1; omega
    have XS := Lib.hid (show (s.extract at_ P).data.toList = (if true then 45 :: l.take j else l.take j) by
      rw [extract_list, List.drop_take, F.out.1]
      rw [← T0.out, below_cons HB.out.symm, show at_ + 1 + j - at_ = j + 1 by omega, List.take_succ_cons, if_pos rfl, LL.out, T0.out, List.drop_drop])
    have PL := Lib.hid (show ((if true then 45 :: l.take j else l.take j) : List UInt8).length + at_ = P by
      have h1 := F.out.1
      have h2 := F.out.2.2.2
      rw [if_pos rfl, List.length_cons, List.length_take]; omega)
    have RV := Lib.hid (show RR = if txt V = s.extract at_ P then (V, (P : Int)) else (0, -1) by
      rw [R0.out]
      unfold readV
      rw [SP.out, F.out.2.2.1, read_is true (l.take j) (by rw [← F.out.2.2.1]; exact scanD_head _ _) (by rw [← VV.out]; exact VW.out), ← VV.out]
      have e : (txt V = s.extract at_ P) ↔ Lib.itoa V = (if true then 45 :: l.take j else l.take j) := by rw [txt_eq, XS.out]
      by_cases q : Lib.itoa V = (if true then 45 :: l.take j else l.take j)
      · rw [if_pos q, if_pos (e.2 q)]
        have h := PL.out
        refine Prod.ext rfl ?_
        show ((at_ + (if true then 45 :: l.take j else l.take j : List UInt8).length : Nat) : Int) = (P : Int)
        rw [Nat.add_comm, h]
      · rw [if_neg q, if_neg (fun h => q (e.1 h))])
    generalize txt V = tv at *
    clear hV
    by_cases hq : tv = s.extract at_ P
    · have RF := Lib.hid (show RR = (V, (P : Int)) by rw [RV.out, if_pos hq])
      have er : (tv.toList == (s.extract at_ P).toList) = true := by rw [hq]; simp
      clear hq RV
      go_upto_region 12 with fail
      refine wp_region_quiet_below (by kernel_rfl) (by kernel_rfl) ?_
      repeat (go_big_quiet_step (exact (NB.out _ _)))
      (refine wpQuiet_nil ?_; intro _ hw'; obtain ⟨⟨dq, osq⟩, hw''⟩ := hw'; subst hw'')
      have hb := below_quiet (W := wc) dq osq
      generalize grow (redrawn wc dq) osq = w2 at *
      go_wp2
      go_ret2
      exact ⟨by rw [RF.out]; first | rfl | (rw [← e3]; rfl), hb⟩
    · have RF := Lib.hid (show RR = (0, -1) by rw [RV.out, if_neg hq])
      have er : (tv.toList == (s.extract at_ P).toList) = false := by
        rw [ByteArray.toList_eq, ByteArray.toList_eq]
        simp only [beq_eq_false_iff_ne, ne_eq]
        exact fun q => hq (bytes_eq q)
      clear hq RV
      go_upto_region 12 with fail
      refine wp_region_quiet_below (by kernel_rfl) (by kernel_rfl) ?_
      repeat (go_big_quiet_step (exact (NB.out _ _)))
      (refine wpQuiet_nil ?_; intro _ hw'; obtain ⟨⟨dq, osq⟩, hw''⟩ := hw'; subst hw'')
      have hb := below_quiet (W := wc) dq osq
      generalize grow (redrawn wc dq) osq = w2 at *
      go_wp2
      go_ret2
      exact ⟨by rw [RF.out]; first | rfl | (rw [← e3]; rfl), hb⟩
  | false =>
    have LE : Hid (at_ ≤ s.size) := Lib.hid (by exact HS.out.1)
    have SP := Lib.hid (show spanR t0 = (if false then 45 :: scanD 25 (s.data.toList.drop (at_)) else scanD 25 (s.data.toList.drop (at_))) by
      rw [spanR, ← HB.out, T0.out]; simp)
    obtain ⟨l, hl⟩ : ∃ l, l = s.data.toList.drop (at_) := ⟨_, rfl⟩
    rw [← hl] at SP
    have LL := Lib.hid hl
    clear hl
    go_upto_block 0 with fail
    go_cut [1, 8] from 24 to 55 (fun v1 v8 wr => wr = wc ∧ ∃ (j P : Nat) (N : Int), v1 = .int .i64 (P : Int) ∧ v8 = .int .u64 N ∧ Hid (P = at_ + j ∧ N = (horner (l.take j) : Int) % 18446744073709551616 ∧ scanD 25 l = l.take j ∧ j ≤ l.length))
    case first =>
      go_wp2
      go_loopg [1, 8] (25) (fun g v1 v8 wr => wr = wc ∧ ∃ j P : Nat, g = 25 - j ∧ v1 = .int .i64 (P : Int) ∧ Hid (P = at_ + j) ∧ v8 = .int .u64 ((horner (l.take j) : Int) % 18446744073709551616) ∧ Hid (Scan 25 l j))
      case atStart => exact ⟨rfl, 0, at_, rfl, by first | rfl | go_num, rfl, rfl, Lib.hid (Scan.start _ _)⟩
      case round =>
        obtain ⟨rfl, j, P, rfl, rfl, PP, rfl, A⟩ := hrel
        have J := Lib.hid A.out.1
        generalize hN : ((horner (l.take j) : Int) % 18446744073709551616) = N
        have NN := Lib.hid hN
        have hPl : (P : Int) ≤ 5000 := by have := PP.out; have := J.out; have := LE.out; have := HS.out; omega
        clear hN
        by_cases hlt : P < s.size
        · have hlt' : (P : Int) < s.size := by omega
          have ec : l[j]? = some s[P] := by
            rw [LL.out, List.getElem?_drop, ← PP.out, List.getElem?_eq_getElem (by rw [len_list]; exact hlt)]; rfl
          obtain ⟨hl, eg⟩ := List.getElem?_eq_some_iff.1 ec
          have EG := Lib.hid (show ∃ hl : j < l.length, l[j] = s[P] from ⟨hl, eg⟩)
          have EJ := Lib.hid (show (P : Int) - at_ < 25 ↔ j < 25 by have := PP.out; omega)
          clear ec hl eg
          by_cases d1 : (48 : Int) ≤ s[P].toNat
          · by_cases d2 : (s[P].toNat : Int) ≤ 57
            · have DG := Lib.hid (And.intro d1 d2)
              by_cases hj : j < 25
              · have hj' := EJ.out.2 hj
                have HJ := Lib.hid hj
                obtain ⟨hl, eg⟩ := EG.out
                have A2 := Lib.hid (A.out.next hj hl (by rw [eg, isDg, decide_eq_true (by omega), decide_eq_true (by omega)]; rfl))
                have HN := Lib.hid (show (horner (l.take (j + 1)) : Nat) = 10 * horner (l.take j) + (s[P].toNat - 48) by rw [List.take_succ_eq_append_getElem hl, horner_append, eg])
                clear hj hl eg
                go_wp2
                go_roundg (25 - (j + 1))
                case measure => have := HJ.out; omega
                case rel =>
                  refine ⟨rfl, j + 1, P + 1, rfl, by go_num, Lib.hid (by have := PP.out; omega), ?_, A2⟩
                  have e := NN.out
                  have h := HN.out
                  have g := DG.out
                  rw [h, wrap_dig N _ _ e.symm (by omega)]
              · have hj' : ¬ (P : Int) - at_ < 25 := fun q => hj (EJ.out.1 q)
                have E2 := Lib.hid (A.out.stop (Or.inl (by have := J.out; omega)))
                clear hj
                go_wp2
                go_meet
                exact ⟨rfl, j, P, N, rfl, rfl, Lib.hid ⟨PP.out, NN.out.symm, E2.out, A.out.2.2⟩⟩
            · have E2 := Lib.hid (A.out.stop (Or.inr (Or.inr (by obtain ⟨hl, eg⟩ := EG.out; exact ⟨hl, by rw [eg, isDg, decide_eq_false (show ¬ s[P].toNat ≤ 57 by omega), Bool.and_false]⟩))))
              go_wp2
              go_meet
              exact ⟨rfl, j, P, N, rfl, rfl, Lib.hid ⟨PP.out, NN.out.symm, E2.out, A.out.2.2⟩⟩
          · have E2 := Lib.hid (A.out.stop (Or.inr (Or.inr (by obtain ⟨hl, eg⟩ := EG.out; exact ⟨hl, by rw [eg, isDg, decide_eq_false (show ¬ 48 ≤ s[P].toNat by omega), Bool.false_and]⟩))))
            go_wp2
            go_meet
            exact ⟨rfl, j, P, N, rfl, rfl, Lib.hid ⟨PP.out, NN.out.symm, E2.out, A.out.2.2⟩⟩
        · have hlt' : ¬ (P : Int) < s.size := by omega
          have E2 := Lib.hid (A.out.stop (Or.inr (Or.inl (by rw [LL.out, List.length_drop, len_list]; have := PP.out; omega))))
          clear hlt
          go_wp2
          go_meet
          exact ⟨rfl, j, P, N, rfl, rfl, Lib.hid ⟨PP.out, NN.out.symm, E2.out, A.out.2.2⟩⟩
    case rest =>
    obtain ⟨rfl, j, P, N, rfl, rfl, F⟩ := hcut
    obtain ⟨V, hV⟩ : ∃ V, V = valR false (l.take j) := ⟨_, rfl⟩
    have e3 : wrap64 N = V := by
      rw [hV, valR, F.out.2.1]
      simp [wrap64, IntKind.wrap, IntKind.signed, IntKind.bits]
      split <;> omega
    have VW := Lib.hid (show W64 V by rw [hV]; exact valR_W64 _ _)
    have VV := Lib.hid hV
    have NB : Hid (∀ d os, Calls Tryz.prog 17 #[.int .i64 V] (grow (redrawn wc d) os) fun e w'' => e = .returned (.string (txt V)) ∧ ∃ p : Regrown, w'' = grow (redrawn wc p.d) p.os) :=
      Lib.hid (fun d os => Calls.regrown_of (r_number V VW.out _))
    have hPs : (P : Int) ≤ s.size := by have := F.out.1; have := F.out.2.2.2; rw [LL.out, List.length_drop, len_list] at this; have := LE.out; omega
    have hPa : (at_ : Int) ≤ P := by have := F.out.1; omega
    have XS := Lib.hid (show (s.extract at_ P).data.toList = (if false then 45 :: l.take j else l.take j) by
      rw [extract_list, List.drop_take, F.out.1]
      rw [LL.out, if_neg Bool.false_ne_true, show at_ + j - at_ = j by omega])
    have PL := Lib.hid (show ((if false then 45 :: l.take j else l.take j) : List UInt8).length + at_ = P by
      have h1 := F.out.1
      have h2 := F.out.2.2.2
      rw [if_neg Bool.false_ne_true, List.length_take]; omega)
    have RV := Lib.hid (show RR = if txt V = s.extract at_ P then (V, (P : Int)) else (0, -1) by
      rw [R0.out]
      unfold readV
      rw [SP.out, F.out.2.2.1, read_is false (l.take j) (by rw [← F.out.2.2.1]; exact scanD_head _ _) (by rw [← VV.out]; exact VW.out), ← VV.out]
      have e : (txt V = s.extract at_ P) ↔ Lib.itoa V = (if false then 45 :: l.take j else l.take j) := by rw [txt_eq, XS.out]
      by_cases q : Lib.itoa V = (if false then 45 :: l.take j else l.take j)
      · rw [if_pos q, if_pos (e.2 q)]
        have h := PL.out
        refine Prod.ext rfl ?_
        show ((at_ + (if false then 45 :: l.take j else l.take j : List UInt8).length : Nat) : Int) = (P : Int)
        rw [Nat.add_comm, h]
      · rw [if_neg q, if_neg (fun h => q (e.1 h))])
    generalize txt V = tv at *
    clear hV
    by_cases hq : tv = s.extract at_ P
    · have RF := Lib.hid (show RR = (V, (P : Int)) by rw [RV.out, if_pos hq])
      have er : (tv.toList == (s.extract at_ P).toList) = true := by rw [hq]; simp
      clear hq RV
      go_upto_region 12 with fail
      refine wp_region_quiet_below (by kernel_rfl) (by kernel_rfl) ?_
      repeat (go_big_quiet_step (exact (NB.out _ _)))
      (refine wpQuiet_nil ?_; intro _ hw'; obtain ⟨⟨dq, osq⟩, hw''⟩ := hw'; subst hw'')
      have hb := below_quiet (W := wc) dq osq
      generalize grow (redrawn wc dq) osq = w2 at *
      go_wp2
      go_ret2
      exact ⟨by rw [RF.out]; first | rfl | (rw [← e3]; rfl), hb⟩
    · have RF := Lib.hid (show RR = (0, -1) by rw [RV.out, if_neg hq])
      have er : (tv.toList == (s.extract at_ P).toList) = false := by
        rw [ByteArray.toList_eq, ByteArray.toList_eq]
        simp only [beq_eq_false_iff_ne, ne_eq]
        exact fun q => hq (bytes_eq q)
      clear hq RV
      go_upto_region 12 with fail
      refine wp_region_quiet_below (by kernel_rfl) (by kernel_rfl) ?_
      repeat (go_big_quiet_step (exact (NB.out _ _)))
      (refine wpQuiet_nil ?_; intro _ hw'; obtain ⟨⟨dq, osq⟩, hw''⟩ := hw'; subst hw'')
      have hb := below_quiet (W := wc) dq osq
      generalize grow (redrawn wc dq) osq = w2 at *
      go_wp2
      go_ret2
      exact ⟨by rw [RF.out]; first | rfl | (rw [← e3]; rfl), hb⟩
end Go.Proofs.YtcipgagpmglikaaGreatDoor
namespace Go.Proofs.YtcipgagpmglikaaGreatDoor
open Go.RowKit Go.Sort
set_option maxRecDepth 8000
/-- How far the first colon is. -/
def colon (l : List UInt8) : Nat := (l.takeWhile fun c => c != 58).length
/-- A word, and what stands behind its colon and blank. -/
def stepR (l : List UInt8) : Option (List UInt8 × List UInt8) :=
  if l[colon l + 1]? = some 32 ∧ wordW ⟨(l.take (colon l)).toArray⟩ = ⟨(l.take (colon l)).toArray⟩ then some (l.take (colon l), l.drop (colon l + 2)) else none
theorem stepR_no {l : List UInt8} (h : l[colon l + 1]? ≠ some 32 ∨ wordW ⟨(l.take (colon l)).toArray⟩ ≠ ⟨(l.take (colon l)).toArray⟩) : stepR l = none := by
  unfold stepR
  rw [if_neg]
  rintro ⟨h1, h2⟩
  rcases h with h | h
  · exact h h1
  · exact h h2
inductive Steps (l : List UInt8) : List ByteArray → List UInt8 → Prop where
  | nil : Steps l [] l
  | snoc {ws r a r'} : Steps l ws r → stepR r = some (a, r') → Steps l (ws ++ [⟨a.toArray⟩]) r'
theorem colon_le (l : List UInt8) : colon l ≤ l.length := by
  unfold colon
  exact (List.takeWhile_prefix _).length_le
theorem colon_stop {l : List UInt8} {j : Nat} (h : j ≤ l.length) (ha : ∀ i, i < j → l[i]? ≠ some 58) (he : j = l.length ∨ l[j]? = some 58) : colon l = j := by
  induction l generalizing j with
  | nil => simp at h; subst h; rfl
  | cons c r ih =>
    cases j with
    | zero =>
      rcases he with he | he
      · cases he
      · simp at he; subst he; rfl
    | succ j =>
      have h0 := ha 0 (Nat.zero_lt_succ _)
      have hc : (c != 58) = true := by simpa using h0
      have := ih (j := j) (by simpa using h) (fun i hi => by have := ha (i + 1) (by omega); simpa using this) (by simpa using he)
      unfold colon at this ⊢
      rw [List.takeWhile_cons, if_pos hc, List.length_cons, this]
/-- What the words and the rest tell. -/
def tail3 (ws : List ByteArray) (r : List UInt8) (k : Int) (y : Int × Int) : Option (List ByteArray × Int × Int) := if y.2 ≠ r.length then none else some (ws, k, y.1)
def tail2 (ws : List ByteArray) (r : List UInt8) (x : Int × Int) : Option (List ByteArray × Int × Int) :=
  if x.2 < 0 ∨ x.1 = 0 ∨ (r.length : Int) < x.2 + 4 ∨ (r.drop x.2.toNat).take 4 ≠ [32, 97, 116, 32] then none else tail3 ws r x.1 (readV (r.drop (x.2.toNat + 4)) (x.2.toNat + 4))
def tailR (n : Nat) (ws : List ByteArray) (r : List UInt8) : Option (List ByteArray × Int × Int) :=
  if r.length < 6 ∨ r.take 5 ≠ [107, 105, 110, 100, 32] ∨ 400 < n ∨ 8 < ws.length then none else tail2 ws r (readV (r.drop 5) 5)
def DOut (w' : World) (o : Option (List ByteArray × Int × Int)) (ex : Ending) : Prop := match o with
  | none => ex = .returned (.tuple #[.slice none 0 0, .int .i64 0, .int .i64 0, .bool false])
  | some (ws, k, o) => ∃ l, ex = .returned (.tuple #[l, .int .i64 k, .int .i64 o, .bool true]) ∧ Strs w' l ws
def Dp (w wr : World) (l : List UInt8) (ws : List ByteArray) (r : ByteArray) (v : Value) : Prop :=
  Steps l ws r.data.toList ∧ Own w wr 9 (ws.map .string) v ∧ r.size + 2 * ws.length ≤ l.length
theorem Dp.on {w w1 w2 : World} {l : List UInt8} {ws : List ByteArray} {r : ByteArray} {v : Value} (h : Dp w w1 l ws r v) (hb : Below w1.heap.size w1 w2) : Dp w w2 l ws r v :=
  ⟨h.1, h.2.1.on hb, h.2.2⟩
theorem span_le (t : List UInt8) : (spanR t).length ≤ t.length := by
  unfold spanR
  split
  · rename_i h
    have h := below_cons h
    have e := congrArg List.length (scanD_pre 24 (t.drop 1))
    rw [List.length_take] at e
    have := congrArg List.length h
    simp only [List.length_cons, List.length_drop] at this e ⊢
    omega
  · have e := congrArg List.length (scanD_pre 25 t)
    rw [List.length_take] at e
    omega
theorem readV_bd (t : List UInt8) (a : Nat) : readV t a = (0, -1) ∨ ∃ v n, readV t a = (v, ((a + n : Nat) : Int)) ∧ n ≤ t.length := by
  unfold readV
  split
  · exact Or.inr ⟨_, _, rfl, span_le t⟩
  · exact Or.inl rfl
set_option maxHeartbeats 8000000 in
theorem r_parse (s : ByteArray) (hs : s.size ≤ 4000) (w : World) :
    Calls Tryz.prog 19 #[.string s] w fun ex w' => (∃ ws r, Steps s.data.toList ws r ∧ stepR r = none ∧ DOut w' (tailR s.size ws r) ex) ∧ Below w.heap.size w w' := by
  have hs' : (s.size : Int) ≤ 4000 := by omega
  have S : Hid (Dp w w s.data.toList [] s (.slice none 0 0)) := Lib.hid ⟨.nil, Own.nil w _, by simp⟩
  have HS := Lib.hid hs
  clear hs
  go_enter Tryz.func19, Tryz.ntmps19
  go_upto_block 0 with fail
  go_cut [6, 7] from 8 to 57 (fun v6 v7 wr => ∃ (ws : List ByteArray) (r : ByteArray), v7 = .string r ∧ Hid (Dp w wr s.data.toList ws r v6 ∧ stepR r.data.toList = none))
  case first =>
    go_wp2
    go_loopg [6, 7] (s.size) (fun g v6 v7 wr => ∃ (ws : List ByteArray) (r : ByteArray), v7 = .string r ∧ g = r.size ∧ Hid (Dp w wr s.data.toList ws r v6))
    case atStart => exact ⟨[], s, rfl, rfl, S⟩
    case round =>
      obtain ⟨ws, r, rfl, rfl, D⟩ := hrel
      clear S
      have hrs : (r.size : Int) ≤ 4000 := by have := D.out.2.2; rw [len_list] at this; have := HS.out; omega
      go_upto_block 2 with fail
      go_cut [8] from 14 to 25 (fun v wq => wq = wr ∧ ∃ j : Nat, v = .int .i64 j ∧ Hid (j = colon r.data.toList ∧ j ≤ r.size))
      case first =>
        go_wp2
        go_loopg [8] (r.size) (fun g v8 wq => wq = wr ∧ ∃ j : Nat, j ≤ r.size ∧ g = r.size - j ∧ v8 = .int .i64 j ∧ Hid (∀ i, i < j → r.data.toList[i]? ≠ some 58))
        case atStart => exact ⟨rfl, 0, Nat.zero_le _, rfl, rfl, Lib.hid (fun i hi => absurd hi (Nat.not_lt_zero _))⟩
        case round =>
          obtain ⟨rfl, j, hj, rfl, rfl, A⟩ := hrel
          have HJ := Lib.hid hj
          by_cases hlt : j < r.size
          · have hlt' : (j : Int) < r.size := by omega
            have ec : r.data.toList[j]? = some r[j] := by rw [List.getElem?_eq_getElem (by rw [len_list]; exact hlt)]; rfl
            have EC := Lib.hid ec
            have LT := Lib.hid hlt
            clear ec
            by_cases h58 : r[j] = 58
            · have b1 : ((r[j].toNat : Int) == 58) = true := by rw [h58]; rfl
              have b2 : ((r[j].toNat : Int) != 58) = false := by rw [h58]; rfl
              have b3 : (r[j].toNat : Int) = 58 := by rw [h58]; rfl
              have E := Lib.hid (colon_stop (by rw [len_list]; exact HJ.out) A.out (Or.inr (by rw [EC.out]; exact congrArg some h58)))
              clear h58
              go_wp2
              go_meet
              exact ⟨rfl, j, rfl, Lib.hid ⟨E.out.symm, HJ.out⟩⟩
            · have b3 : ¬ (r[j].toNat : Int) = 58 := fun q => h58 (UInt8.toNat_inj.1 (by have e : (58 : UInt8).toNat = 58 := rfl; omega))
              have b1 : ((r[j].toNat : Int) == 58) = false := by simpa using b3
              have b2 : ((r[j].toNat : Int) != 58) = true := by simpa using b3
              have A2 := Lib.hid (show ∀ i, i < j + 1 → r.data.toList[i]? ≠ some 58 from fun i hi => by
                rcases Nat.lt_or_eq_of_le (Nat.le_of_lt_succ hi) with q | q
                · exact A.out i q
                · subst q; rw [EC.out]; intro q; exact h58 (Option.some.inj q))
              clear h58 hj
              go_wp2
              go_roundg (r.size - (j + 1))
              case measure => have := LT.out; omega
              case rel => exact ⟨rfl, j + 1, LT.out, rfl, by go_num, A2⟩
          · have hlt' : ¬ (j : Int) < r.size := by omega
            have E := Lib.hid (colon_stop (by rw [len_list]; exact HJ.out) A.out (Or.inl (by rw [len_list]; omega)))
            clear hlt hj
            go_wp2
            go_meet
            exact ⟨rfl, j, rfl, Lib.hid ⟨E.out.symm, HJ.out⟩⟩
      case rest =>
      obtain ⟨rfl, j, rfl, J⟩ := hcut
      obtain ⟨X, hX⟩ : ∃ X, X = r.extract 0 j := ⟨_, rfl⟩
      have XL := Lib.hid (show X = ⟨(r.data.toList.take (colon r.data.toList)).toArray⟩ by
        rw [hX, ← J.out.1]; exact bytes_eq (by rw [extract_list]; simp))
      have XZ := Lib.hid (show X.size ≤ 4000 by rw [hX]; simp; omega)
      have WQ : Hid (∀ d os, Calls Tryz.prog 27 #[.string X] (grow (redrawn wc d) os) fun e w'' => e = .returned (.string (wordW X)) ∧ ∃ p : Regrown, w'' = grow (redrawn wc p.d) p.os) :=
        Lib.hid (fun d os => Calls.regrown_of (r_word X XZ.out _))
      rw [hX] at WQ
      have HX := Lib.hid hX
      have hj : (j : Int) ≤ r.size := by have := J.out.2; omega
      clear hX
      by_cases hA : j + 1 < r.size
      · have hA' : (j : Int) + 1 < r.size := by omega
        have g1 : decide ((r.size : Int) ≤ (j : Int) + 1) = false := decide_eq_false (by omega)
        have ec : r.data.toList[j + 1]? = some r[j + 1] := by rw [List.getElem?_eq_getElem (by rw [len_list]; exact hA)]; rfl
        have EC := Lib.hid ec
        clear ec
        obtain ⟨c, hc⟩ : ∃ c : Nat, c = r[j + 1].toNat := ⟨_, rfl⟩
        have IX : ∀ W, (Instr.index 9 (.string r) (.int .i64 ((j : Int) + 1))).run Tryz.prog W = .ok (.int .u8 (c : Int)) W := fun W => by
          have h0 : (0 : Int) ≤ (j : Int) + 1 := by omega
          have ht : ((j : Int) + 1).toNat = j + 1 := by omega
          simp [Instr.index, asIntOf, run_underlying Tryz.underlying9, h0, ht, hA, hc]
        have HC := Lib.hid hc
        clear hc
        by_cases h32 : r[j + 1] = 32
        · have b1 : (c : Int) = 32 := by rw [HC.out, h32]; rfl
          have b2 : ((c : Int) != 32) = false := by rw [b1]; rfl
          have b4 : ((c : Int) == 32) = true := by rw [b1]; rfl
          have C32 := Lib.hid (show r.data.toList[colon r.data.toList + 1]? = some 32 by rw [← J.out.1, EC.out]; exact congrArg some h32)
          clear h32
          by_cases hw : wordW X = X
          · have ST := Lib.hid (show stepR r.data.toList = some (r.data.toList.take (colon r.data.toList), r.data.toList.drop (colon r.data.toList + 2)) by
              unfold stepR; rw [if_pos ⟨C32.out, by rw [← XL.out]; exact hw⟩])
            have er : ((wordW (r.extract 0 j)).toList == (r.extract 0 j).toList) = true := by rw [← HX.out, hw]; simp
            generalize wordW (r.extract 0 j) = wX at er WQ
            clear hw
            go_upto_region 6 with fail
            refine wp_region_quiet_below (by kernel_rfl) (by kernel_rfl) ?_
            repeat (go_big_quiet_step (exact (WQ.out _ _)))
            (refine wpQuiet_nil ?_; intro _ hw'; obtain ⟨⟨dq, osq⟩, hw''⟩ := hw'; subst hw'')
            have hb := below_quiet (W := wc) dq osq
            have D2 := Lib.hid (D.out.on hb)
            clear hb
            generalize grow (redrawn wc dq) osq = w2 at *
            have WL := Lib.hid (show ws.length ≤ 4000 by have := D2.out.2.2; rw [len_list] at this; have := HS.out; omega)
            go_wp2_with (at_builtin; refine wp_append_one rfl _ _ rfl w _ ws _ rfl D2.out.2.1 (r.extract 0 j) rfl WL.out ?_)
            intro v' w3 h3
            have O3 := Lib.hid h3
            clear h3
            go_wp2
            go_roundg ((r.extract (j + 2) r.size).size)
            case measure => simp; omega
            case rel => exact ⟨ws ++ [r.extract 0 j], _, rfl, rfl, Lib.hid ⟨by
              have q := Steps.snoc D2.out.1 ST.out
              rw [← XL.out, HX.out] at q
              have e : (r.extract (j + 2) r.size).data.toList = r.data.toList.drop (colon r.data.toList + 2) := by rw [extract_list, List.take_of_length_le (by rw [len_list]; exact Nat.le_refl _), J.out.1]
              rw [e]; exact q, by rw [List.map_append]; exact O3.out, by have := D2.out.2.2; simp at this ⊢; omega⟩⟩
          · have ST := Lib.hid (stepR_no (l := r.data.toList) (Or.inr (by rw [← XL.out]; exact hw)))
            have er : ((wordW (r.extract 0 j)).toList == (r.extract 0 j).toList) = false := by
              rw [← HX.out, ByteArray.toList_eq, ByteArray.toList_eq]
              simp only [beq_eq_false_iff_ne, ne_eq]
              exact fun q => hw (bytes_eq q)
            generalize wordW (r.extract 0 j) = wX at er WQ
            clear hw
            go_upto_region 6 with fail
            refine wp_region_quiet_below (by kernel_rfl) (by kernel_rfl) ?_
            repeat (go_big_quiet_step (exact (WQ.out _ _)))
            (refine wpQuiet_nil ?_; intro _ hw'; obtain ⟨⟨dq, osq⟩, hw''⟩ := hw'; subst hw'')
            have hb := below_quiet (W := wc) dq osq
            have D2 := Lib.hid (D.out.on hb)
            clear hb
            generalize grow (redrawn wc dq) osq = w2 at *
            go_wp2
            go_meet
            exact ⟨ws, r, rfl, Lib.hid ⟨D2.out, ST.out⟩⟩
        · have b1 : ¬ (c : Int) = 32 := fun q => h32 (UInt8.toNat_inj.1 (by have e : (32 : UInt8).toNat = 32 := rfl; have := HC.out; omega))
          have b2 : ((c : Int) != 32) = true := by simp; omega
          have b4 : ((c : Int) == 32) = false := by simp; omega
          have ST := Lib.hid (stepR_no (l := r.data.toList) (Or.inl (by rw [← J.out.1, EC.out]; intro q; exact h32 (Option.some.inj q))))
          clear h32
          go_upto_region 6 with fail
          refine wp_region_quiet_below (by kernel_rfl) (by kernel_rfl) ?_
          repeat (go_big_quiet_step (exact (WQ.out _ _)))
          (refine wpQuiet_nil ?_; intro _ hw'; obtain ⟨⟨dq, osq⟩, hw''⟩ := hw'; subst hw'')
          have hb := below_quiet (W := wc) dq osq
          have D2 := Lib.hid (D.out.on hb)
          clear hb
          generalize grow (redrawn wc dq) osq = w2 at *
          go_wp2
          go_meet
          exact ⟨ws, r, rfl, Lib.hid ⟨D2.out, ST.out⟩⟩
      · have hA' : ¬ (j : Int) + 1 < r.size := by omega
        have g1 : decide ((r.size : Int) ≤ (j : Int) + 1) = true := decide_eq_true (by omega)
        have ST := Lib.hid (stepR_no (l := r.data.toList) (Or.inl (by rw [← J.out.1, List.getElem?_eq_none (by rw [len_list]; omega)]; exact fun q => by cases q)))
        clear hA
        go_upto_region 6 with fail
        refine wp_region_quiet_below (by kernel_rfl) (by kernel_rfl) ?_
        repeat (go_big_quiet_step (exact (WQ.out _ _)))
        (refine wpQuiet_nil ?_; intro _ hw'; obtain ⟨⟨dq, osq⟩, hw''⟩ := hw'; subst hw'')
        have hb := below_quiet (W := wc) dq osq
        have D2 := Lib.hid (D.out.on hb)
        clear hb
        generalize grow (redrawn wc dq) osq = w2 at *
        go_wp2
        go_meet
        exact ⟨ws, r, rfl, Lib.hid ⟨D2.out, ST.out⟩⟩
  case rest =>
  obtain ⟨ws, r, rfl, D⟩ := hcut
  obtain ⟨wa, wcap, hwv, hwc, -⟩ := id (Own.strs D.out.1.2.1)
  subst hwv
  have hb0 := D.out.1.2.1.2
  have B0 := Lib.hid hb0
  have hrs : (r.size : Int) ≤ 4000 := by have := D.out.1.2.2; rw [len_list] at this; have := HS.out; omega
  have hws : (ws.length : Int) ≤ 4000 := by have := D.out.1.2.2; rw [len_list] at this; have := HS.out; omega
  have RL := Lib.hid (len_list r)
  clear hb0 S hwc
  by_cases c1 : r.size < 6
  · have c1' : (r.size : Int) < 6 := by omega
    have TN := Lib.hid (show tailR s.size ws r.data.toList = none by rw [tailR, if_pos (Or.inl (by rw [RL.out]; exact c1))])
    clear c1
    go_wp2
    exact bodyPost_ret (v := .tuple #[.slice none 0 0, .int .i64 0, .int .i64 0, .bool false]) (by simp [results, Tryz.results19, go_sem]) rfl ⟨⟨ws, r.data.toList, D.out.1.1, D.out.2, by rw [TN.out]; rfl⟩, B0.out⟩
  have c1' : ¬ (r.size : Int) < 6 := by omega
  have ex5 : (r.extract 0 5).toList = r.data.toList.take 5 := by rw [ByteArray.toList_eq, extract_list]; simp
  by_cases c2 : r.data.toList.take 5 = [107, 105, 110, 100, 32]
  case neg =>
    have e2 : ((r.extract 0 5).toList == [107, 105, 110, 100, 32]) = false := by rw [ex5]; simpa using c2
    have TN := Lib.hid (show tailR s.size ws r.data.toList = none by rw [tailR, if_pos (Or.inr (Or.inl c2))])
    clear c1 c2 ex5
    go_wp2
    exact bodyPost_ret (v := .tuple #[.slice none 0 0, .int .i64 0, .int .i64 0, .bool false]) (by simp [results, Tryz.results19, go_sem]) rfl ⟨⟨ws, r.data.toList, D.out.1.1, D.out.2, by rw [TN.out]; rfl⟩, B0.out⟩
  have e2 : ((r.extract 0 5).toList == [107, 105, 110, 100, 32]) = true := by rw [ex5, c2]; rfl
  by_cases c3 : 400 < s.size
  · have c3' : (400 : Int) < s.size := by omega
    have TN := Lib.hid (show tailR s.size ws r.data.toList = none by rw [tailR, if_pos (Or.inr (Or.inr (Or.inl c3)))])
    clear c1 c2 c3 ex5
    go_wp2
    exact bodyPost_ret (v := .tuple #[.slice none 0 0, .int .i64 0, .int .i64 0, .bool false]) (by simp [results, Tryz.results19, go_sem]) rfl ⟨⟨ws, r.data.toList, D.out.1.1, D.out.2, by rw [TN.out]; rfl⟩, B0.out⟩
  have c3' : ¬ (400 : Int) < s.size := by omega
  by_cases c4 : 8 < ws.length
  · have c4' : (8 : Int) < ws.length := by omega
    have TN := Lib.hid (show tailR s.size ws r.data.toList = none by rw [tailR, if_pos (Or.inr (Or.inr (Or.inr c4)))])
    clear c1 c2 c3 c4 ex5
    go_wp2
    exact bodyPost_ret (v := .tuple #[.slice none 0 0, .int .i64 0, .int .i64 0, .bool false]) (by simp [results, Tryz.results19, go_sem]) rfl ⟨⟨ws, r.data.toList, D.out.1.1, D.out.2, by rw [TN.out]; rfl⟩, B0.out⟩
  have c4' : ¬ (8 : Int) < ws.length := by omega
  have T1 := Lib.hid (show tailR s.size ws r.data.toList = tail2 ws r.data.toList (readV (r.data.toList.drop 5) 5) by
    rw [tailR, if_neg]
    rintro (h | h | h | h)
    · rw [RL.out] at h; omega
    · exact h c2
    · omega
    · omega)
  have X1 := Lib.hid (fun w1 => r_read r 5 (by omega) (by omega) w1)
  have BD := Lib.hid (readV_bd (r.data.toList.drop 5) 5)
  generalize readV (r.data.toList.drop 5) 5 = x at *
  clear c1 c2 c3 c4 ex5
  rcases BD.out with rfl | ⟨k, n, rfl, hn⟩
  · have TN := Lib.hid (show tailR s.size ws r.data.toList = none by rw [T1.out, tail2, if_pos (Or.inl (by decide))])
    clear T1
    go_wp2_with fail
    refine (X1.out _).mono ?_
    rintro q w2 ⟨rfl, hb⟩
    have B2 := Lib.hid (B0.out.trans (hb.mono B0.out.size))
    clear hb
    go_wp2
    exact bodyPost_ret (v := .tuple #[.slice none 0 0, .int .i64 0, .int .i64 0, .bool false]) (by simp [results, Tryz.results19, go_sem]) rfl ⟨⟨ws, r.data.toList, D.out.1.1, D.out.2, by rw [TN.out]; rfl⟩, B2.out⟩
  obtain ⟨P, hP⟩ : ∃ P, P = 5 + n := ⟨_, rfl⟩
  rw [← hP] at X1 T1
  have PB : P ≤ r.size := by rw [List.length_drop, RL.out] at hn; omega
  have PB' : (P : Int) ≤ r.size := by omega
  clear hn hP BD
  by_cases c5 : k = 0
  · subst c5
    have TN := Lib.hid (show tailR s.size ws r.data.toList = none by rw [T1.out, tail2, if_pos (Or.inr (Or.inl rfl))])
    clear T1
    go_wp2_with fail
    refine (X1.out _).mono ?_
    rintro q w2 ⟨rfl, hb⟩
    have B2 := Lib.hid (B0.out.trans (hb.mono B0.out.size))
    clear hb
    go_wp2
    exact bodyPost_ret (v := .tuple #[.slice none 0 0, .int .i64 0, .int .i64 0, .bool false]) (by simp [results, Tryz.results19, go_sem]) rfl ⟨⟨ws, r.data.toList, D.out.1.1, D.out.2, by rw [TN.out]; rfl⟩, B2.out⟩
  have c5' : (k == 0) = false := by simpa using c5
  by_cases c6 : r.size < P + 4
  · have c6' : (r.size : Int) < (P : Int) + 4 := by omega
    have TN := Lib.hid (show tailR s.size ws r.data.toList = none by rw [T1.out, tail2, if_pos (Or.inr (Or.inr (Or.inl (by rw [RL.out]; exact c6'))))])
    clear T1 c5 c6
    go_wp2_with fail
    refine (X1.out _).mono ?_
    rintro q w2 ⟨rfl, hb⟩
    have B2 := Lib.hid (B0.out.trans (hb.mono B0.out.size))
    clear hb
    go_wp2
    exact bodyPost_ret (v := .tuple #[.slice none 0 0, .int .i64 0, .int .i64 0, .bool false]) (by simp [results, Tryz.results19, go_sem]) rfl ⟨⟨ws, r.data.toList, D.out.1.1, D.out.2, by rw [TN.out]; rfl⟩, B2.out⟩
  have c6' : (P : Int) + 4 ≤ r.size := by omega
  have exP : (r.extract P (P + 4)).toList = (r.data.toList.drop P).take 4 := by rw [ByteArray.toList_eq, extract_list, List.drop_take, show P + 4 - P = 4 by omega]
  by_cases c7 : (r.data.toList.drop P).take 4 = [32, 97, 116, 32]
  case neg =>
    have e7 : ((r.extract P (P + 4)).toList == [32, 97, 116, 32]) = false := by rw [exP]; simpa using c7
    have TN := Lib.hid (show tailR s.size ws r.data.toList = none by rw [T1.out]; exact if_pos (Or.inr (Or.inr (Or.inr c7))))
    clear T1 c5 c6 c7 exP
    go_wp2_with fail
    refine (X1.out _).mono ?_
    rintro q w2 ⟨rfl, hb⟩
    have B2 := Lib.hid (B0.out.trans (hb.mono B0.out.size))
    clear hb
    go_wp2
    exact bodyPost_ret (v := .tuple #[.slice none 0 0, .int .i64 0, .int .i64 0, .bool false]) (by simp [results, Tryz.results19, go_sem]) rfl ⟨⟨ws, r.data.toList, D.out.1.1, D.out.2, by rw [TN.out]; rfl⟩, B2.out⟩
  have e7 : ((r.extract P (P + 4)).toList == [32, 97, 116, 32]) = true := by rw [exP, c7]; rfl
  have T2 := Lib.hid (show tailR s.size ws r.data.toList = tail3 ws r.data.toList k (readV (r.data.toList.drop (P + 4)) (P + 4)) by
    rw [T1.out, tail2, if_neg]
    · rfl
    · rintro (h | h | h | h)
      · simp at h; omega
      · exact c5 h
      · rw [RL.out] at h; simp at h; omega
      · exact h c7)
  have X2 := Lib.hid (fun w1 => r_read r (P + 4) (by omega) (by omega) w1)
  have BD := Lib.hid (readV_bd (r.data.toList.drop (P + 4)) (P + 4))
  generalize readV (r.data.toList.drop (P + 4)) (P + 4) = y at *
  obtain ⟨o, q⟩ := y
  clear c5 c6 c7 exP T1
  by_cases c8 : q = (r.size : Int)
  · subst c8
    have TN := Lib.hid (show tailR s.size ws r.data.toList = some (ws, k, o) by rw [T2.out, tail3, if_neg (by rw [RL.out]; exact fun h => h rfl)])
    clear T2
    go_wp2_with fail
    refine (X1.out _).mono ?_
    rintro q w2 ⟨rfl, hb⟩
    have B2 := Lib.hid (B0.out.trans (hb.mono B0.out.size))
    have D2 := Lib.hid (D.out.1.on hb)
    clear hb
    go_wp2_with fail
    refine (X2.out _).mono ?_
    rintro q w3 ⟨rfl, hb⟩
    have B3 := Lib.hid (B2.out.trans (hb.mono B2.out.size))
    have D3 := Lib.hid (D2.out.on hb)
    clear hb
    go_wp2
    exact bodyPost_ret (v := .tuple #[.slice wa ws.length wcap, .int .i64 k, .int .i64 o, .bool true]) (by simp [results, Tryz.results19, go_sem]) rfl ⟨⟨ws, r.data.toList, D.out.1.1, D.out.2, by rw [TN.out]; exact ⟨_, rfl, Own.strs D3.out.2.1⟩⟩, B3.out⟩
  · have c8' : (q == (r.size : Int)) = false := by simpa using c8
    have TN := Lib.hid (show tailR s.size ws r.data.toList = none by rw [T2.out, tail3, if_pos (by rw [RL.out]; exact c8)])
    clear T2
    go_wp2_with fail
    refine (X1.out _).mono ?_
    rintro q w2 ⟨rfl, hb⟩
    have B2 := Lib.hid (B0.out.trans (hb.mono B0.out.size))
    clear hb
    go_wp2_with fail
    refine (X2.out _).mono ?_
    rintro q w3 ⟨rfl, hb⟩
    have B3 := Lib.hid (B2.out.trans (hb.mono B2.out.size))
    clear hb
    go_wp2
    exact bodyPost_ret (v := .tuple #[.slice none 0 0, .int .i64 0, .int .i64 0, .bool false]) (by simp [results, Tryz.results19, go_sem]) rfl ⟨⟨ws, r.data.toList, D.out.1.1, D.out.2, by rw [TN.out]; rfl⟩, B3.out⟩
end Go.Proofs.YtcipgagpmglikaaGreatDoor
namespace Go.Proofs.YtcipgagpmglikaaGreatDoor
open Go.RowKit Go.Sort
set_option maxRecDepth 8000
/-- A word without the colon at its end. -/
def trimC (w : ByteArray) : ByteArray := ⟨(Lib.trimSuffix w.data.toList [58]).toArray⟩
/-- The error that the words are, the last four of which tell kind and place. -/
def parsedE (X : List ByteArray) (k o : Int) : Er := bE k o (X.map trimC).reverse
/-- What a text is parsed as. -/
def parseE (s : ByteArray) : Option Er :=
  if 400 < s.size then none else
  let f := (fieldsL s.data.toList).map fun l => (⟨l.toArray⟩ : ByteArray)
  if f.length < 4 then none else
  match num64 ((f.getD (f.length - 3) ⟨#[]⟩).data.toList), num64 ((f.getD (f.length - 1) ⟨#[]⟩).data.toList) with
  | some k, some o => if k = 0 then none else if (parsedE (f.take (f.length - 4)) k o).line = s then some (parsedE (f.take (f.length - 4)) k o) else none
  | _, _ => none
theorem join_ge {ps : List (List UInt8)} {q : List UInt8} (h : q ∈ ps) : q.length ≤ (joinB ps).length := by
  induction ps with
  | nil => cases h
  | cons a r ih =>
    cases r with
    | nil => obtain rfl := List.mem_singleton.1 h; exact Nat.le_refl _
    | cons b r =>
      simp only [joinB, List.length_append, List.length_cons] at ih ⊢
      rcases List.mem_cons.1 h with rfl | h
      · omega
      · have := ih h; omega
theorem trimC_size (x : ByteArray) : (trimC x).size ≤ x.size := by
  show (Lib.trimSuffix x.data.toList [58]).toArray.size ≤ _
  rw [← len_list x]
  unfold Lib.trimSuffix
  split
  · simp
  · simp
theorem parsedE_step (X : List ByteArray) (k o : Int) (n : Nat) (x : ByteArray) (h : X[n]? = some x) : parsedE (X.drop n) k o = wrapE (trimC x) (parsedE (X.drop (n + 1)) k o) := by
  obtain ⟨hl, e⟩ := List.getElem?_eq_some_iff.1 h
  unfold parsedE
  rw [List.drop_eq_getElem_cons hl, List.map_cons, List.reverse_cons, bE_snoc, e]
/-- What the call answers. -/
def ParsOut (w' : World) (o : Option Er) (ex : Ending) : Prop := match o with
  | none => ex = .returned (.tuple #[.nilIface, .bool false])
  | some e => ∃ u, ex = .returned (.tuple #[u, .bool true]) ∧ IsEr w' e u
theorem fields_small (l : List UInt8) : (fieldsL l).length ≤ l.length + 1 := by
  have := (fields_length l).1
  have := List.count_le_length (a := (32 : UInt8)) (l := l)
  omega
theorem und_none {l : List UInt8} (h : num64 l = none) : und64 l = .tuple #[.int .i64 0, .bool false] := by unfold und64; rw [h]; rfl
theorem und_some {l : List UInt8} {n : Int} (h : num64 l = some n) : und64 l = .tuple #[.int .i64 n, .bool true] := by unfold und64; rw [h]; rfl
theorem num_W64 {l : List UInt8} {n : Int} (h : num64 l = some n) : W64 n := (num?_some h).2
set_option maxHeartbeats 4000000 in
theorem t_parse (s : ByteArray) (hs : s.size ≤ 4000) (w : World) (hw : Env w) : Calls Tryz.prog 18 #[.string s] w fun ex w' => ParsOut w' (parseE s) ex ∧ Below w.heap.size w w' := by
  obtain ⟨r, hr⟩ : ∃ r, r = parseE s := ⟨_, rfl⟩
  rw [← hr]
  by_cases h4 : 400 < s.size
  · have h4' : (400 : Int) < s.size := by omega
    have R := Lib.hid (show r = none by rw [hr, parseE, if_pos h4])
    clear hr h4
    go_enter Tryz.func18, Tryz.ntmps18
    go_wp2
    go_ret2
    rw [R.out]
    exact ⟨rfl, Below.refl _ _⟩
  have h4' : ¬ (400 : Int) < s.size := by omega
  rw [parseE, if_neg h4] at hr
  have F := Lib.hid (t_fields s hs w)
  have FL := Lib.hid (show (fieldsL s.data.toList).length ≤ 401 by have := fields_small s.data.toList; rw [len_list] at this; omega)
  have G := Lib.hid hw
  have R := Lib.hid hr
  clear hr h4 hw
  go_enter Tryz.func18, Tryz.ntmps18
  go_wp2_with fail
  refine F.out.mono ?_
  rintro q w1 ⟨⟨v, rfl, hv⟩, hb⟩
  obtain ⟨f, hf, hst⟩ := hv
  have FF := Lib.hid (show (fieldsL s.data.toList).map (fun l => (⟨l.toArray⟩ : ByteArray)) = f by
    rw [← hf, List.map_map]
    conv => rhs; rw [← List.map_id f]
    exact List.map_congr_left fun x _ => bytes_eq (by simp))
  have FS := Lib.hid (show ∀ x ∈ f, x.size ≤ s.size from fun x hx => by
    have hm : x.data.toList ∈ fieldsL s.data.toList := by rw [← hf]; exact List.mem_map.2 ⟨x, hx, rfl⟩
    have := join_ge hm
    rw [fields_join, len_list, len_list] at this
    exact this)
  have fl : f.length ≤ 401 := by rw [← FF.out, List.length_map]; exact FL.out
  obtain ⟨a, c, rfl, hc, hx⟩ := id hst
  replace hx := Lib.hid hx
  have B1 := Lib.hid hb
  have R1 := Lib.hid (show r = if f.length < 4 then none else
    match num64 ((f.getD (f.length - 3) ⟨#[]⟩).data.toList), num64 ((f.getD (f.length - 1) ⟨#[]⟩).data.toList) with
    | some k, some o => if k = 0 then none else if (parsedE (f.take (f.length - 4)) k o).line = s then some (parsedE (f.take (f.length - 4)) k o) else none
    | _, _ => none by have := R.out; rw [FF.out] at this; exact this)
  clear hf hst hb FF R F FL
  have fl' : (f.length : Int) ≤ 401 := by omega
  by_cases hn : f.length < 4
  · have hn' : (f.length : Int) - 4 < 0 := by omega
    have R2 := Lib.hid (show r = none by rw [R1.out, if_pos hn])
    clear hn
    go_wp2
    go_ret2
    rw [R2.out]
    exact ⟨rfl, B1.out⟩
  obtain ⟨m, hm⟩ : ∃ m, f.length = m + 4 := ⟨f.length - 4, by omega⟩
  have HM := Lib.hid hm
  have cells : ∃ b p, a = some ⟨b, p, none⟩ ∧ b < w1.heap.size ∧ ∀ j x, f[j]? = some x → w1.cell? ⟨b, p + j, none⟩ = some (.string x) := by
    rcases hx.out with hx | hx
    · rw [hx] at hm; simp at hm
    · exact hx
  obtain ⟨b, p, rfl, hb, hcl⟩ := cells
  have CL := Lib.hid (fun w2 (h : Below w1.heap.size w1 w2) j x (hj : f[j]? = some x) => show w2.cell? ⟨b, p + j, none⟩ = some (.string x) from (h.cell (p := ⟨b, p + j, none⟩) hb).trans (hcl j x hj))
  obtain ⟨x1, e1⟩ : ∃ x, f[m + 1]? = some x := ⟨_, List.getElem?_eq_getElem (by omega)⟩
  obtain ⟨x3, e3⟩ : ∃ x, f[m + 3]? = some x := ⟨_, List.getElem?_eq_getElem (by omega)⟩
  have R2 := Lib.hid (show r = match num64 x1.data.toList, num64 x3.data.toList with
    | some k, some o => if k = 0 then none else if (parsedE (f.take m) k o).line = s then some (parsedE (f.take m) k o) else none
    | _, _ => none by
      rw [R1.out, if_neg hn, hm, show m + 4 - 3 = m + 1 by omega, show m + 4 - 1 = m + 3 by omega, show m + 4 - 4 = m by omega, List.getD_eq_getElem?_getD, List.getD_eq_getElem?_getD, e1, e3]; rfl)
  have c1 := hcl _ _ e1
  have D1 := Lib.hid (fun w h => t_undec x1 w h)
  have D3 := Lib.hid (fun w h => t_undec x3 w h)
  have k3 := fun w2 (h : Below w1.heap.size w1 w2) => CL.out w2 h _ _ e3
  have m401 : (m : Int) ≤ 401 := by omega
  have EE := Lib.hid (And.intro e1 e3)
  rw [hm] at hc ⊢
  clear hn hcl hb e1 e3 R1 hm hx fl fl'
  have bad : num64 x1.data.toList = none ∨ num64 x3.data.toList = none → ∃ k1 b1 k2 b2, und64 x1.data.toList = .tuple #[.int .i64 k1, .bool b1] ∧ und64 x3.data.toList = .tuple #[.int .i64 k2, .bool b2] ∧ (b1 && b2) = false := by
    intro h
    cases h1 : num64 x1.data.toList with
    | none =>
      cases h3 : num64 x3.data.toList with
      | none => exact ⟨_, _, _, _, und_none h1, und_none h3, rfl⟩
      | some o => exact ⟨_, _, _, _, und_none h1, und_some h3, rfl⟩
    | some k =>
      cases h3 : num64 x3.data.toList with
      | none => exact ⟨_, _, _, _, und_some h1, und_none h3, rfl⟩
      | some o => rcases h with h | h <;> simp_all
  cases h1 : num64 x1.data.toList with
  | none =>
    obtain ⟨k1, q1, k2, q2, u1, u2, hq⟩ := bad (Or.inl h1)
    rw [u1] at D1
    rw [u2] at D3
    have R3 := Lib.hid (show r = none by rw [R2.out, h1])
    clear h1 u1 u2 R2 bad
    go_wp2_with fail
    refine (D1.out _ (G.out.below B1.out)).mono ?_
    rintro q w2 ⟨rfl, hb2⟩
    have c3 := k3 _ hb2
    have B2 := Lib.hid (B1.out.trans (hb2.mono B1.out.size))
    clear k3 hb2
    go_wp2_with fail
    refine (D3.out _ (G.out.below B2.out)).mono ?_
    rintro q w3 ⟨rfl, hb3⟩
    have B3 := Lib.hid (B2.out.trans (hb3.mono B2.out.size))
    clear hb3
    cases q1 with
    | false => go_wp2; go_ret2; rw [R3.out]; exact ⟨rfl, B3.out⟩
    | true =>
      cases q2 with
      | true => cases hq
      | false => go_wp2; go_ret2; rw [R3.out]; exact ⟨rfl, B3.out⟩
  | some k =>
    cases h3 : num64 x3.data.toList with
    | none =>
      obtain ⟨k1, q1, k2, q2, u1, u2, hq⟩ := bad (Or.inr h3)
      rw [u1] at D1
      rw [u2] at D3
      have R3 := Lib.hid (show r = none by rw [R2.out, h1, h3])
      clear h1 h3 u1 u2 R2 bad
      go_wp2_with fail
      refine (D1.out _ (G.out.below B1.out)).mono ?_
      rintro q w2 ⟨rfl, hb2⟩
      have c3 := k3 _ hb2
      have B2 := Lib.hid (B1.out.trans (hb2.mono B1.out.size))
      clear k3 hb2
      go_wp2_with fail
      refine (D3.out _ (G.out.below B2.out)).mono ?_
      rintro q w3 ⟨rfl, hb3⟩
      have B3 := Lib.hid (B2.out.trans (hb3.mono B2.out.size))
      clear hb3
      cases q1 with
      | false => go_wp2; go_ret2; rw [R3.out]; exact ⟨rfl, B3.out⟩
      | true =>
        cases q2 with
        | true => cases hq
        | false => go_wp2; go_ret2; rw [R3.out]; exact ⟨rfl, B3.out⟩
    | some o =>
      rw [und_some h1] at D1
      rw [und_some h3] at D3
      have R3 := Lib.hid (show r = if k = 0 then none else if (parsedE (f.take m) k o).line = s then some (parsedE (f.take m) k o) else none by rw [R2.out, h1, h3])
      have KO := Lib.hid (And.intro (num_W64 h1) (num_W64 h3))
      clear h1 h3 R2 bad
      go_wp2_with fail
      refine (D1.out _ (G.out.below B1.out)).mono ?_
      rintro q w2 ⟨rfl, hb2⟩
      have c3 := k3 _ hb2
      clear k3
      go_wp2_with fail
      have B2 := Lib.hid (B1.out.trans (hb2.mono B1.out.size))
      refine (D3.out _ (G.out.below B2.out)).mono ?_
      rintro q w3 ⟨rfl, hb3⟩
      have E3 := Lib.hid (hb2.trans (hb3.mono hb2.size))
      have B3 := Lib.hid (B2.out.trans (hb3.mono B2.out.size))
      clear hb2 hb3 B2 c3 c1 D1 D3 EE
      by_cases hk0 : k = 0
      · subst hk0
        have R4 := Lib.hid (show r = none by rw [R3.out, if_pos rfl])
        clear R3
        go_wp2_with fail
        refine (new_ok o w3).mono ?_
        rintro q w4 ⟨rfl, hw4⟩
        subst hw4
        go_wp2
        go_loopg [10, 11] (m) (fun g v10 v11 wr => ∃ (j : Nat) (i : Int), j ≤ m ∧ g = j ∧ v10 = .nilIface ∧ v11 = .int .i64 i ∧ Hid (i = (j : Int) - 1) ∧ Hid (Below w1.heap.size w1 wr ∧ Below w.heap.size w wr))
        case atStart => exact ⟨m, _, Nat.le_refl _, rfl, rfl, rfl, Lib.hid rfl, Lib.hid ⟨E3.out, B3.out⟩⟩
        case round =>
          obtain ⟨j, i, hj, rfl, rfl, rfl, I, T⟩ := hrel
          cases gk with
          | zero =>
            obtain rfl : i = -1 := by rw [I.out]; rfl
            clear I hj
            go_wp2_with fail
            refine (line_no none .nilIface wr rfl (by decide) rfl).mono ?_
            rintro q w5 ⟨rfl, hb⟩
            have T5 := Lib.hid (show Below w.heap.size w w5 from T.out.2.trans (hb.mono T.out.2.size))
            clear hb
            go_wp2
            go_ret2
            rw [R4.out]
            exact ⟨rfl, T5.out⟩
          | succ n =>
            obtain rfl : i = (n : Int) := by rw [I.out]; omega
            obtain ⟨x, hx⟩ : ∃ x, f[n]? = some x := ⟨_, List.getElem?_eq_getElem (by have := HM.out; omega)⟩
            have cn := CL.out _ T.out.1 n x hx
            have sx := FS.out x (List.mem_of_getElem? hx)
            have TR := Lib.hid (fun w => Tryz.strings_TrimSuffix x ⟨#[58]⟩ w (by omega))
            have hnm : (n : Int) < m := by omega
            have HJ := Lib.hid hj
            clear hx sx hj I
            go_wp2_with fail
            refine (TR.out _).mono ?_
            rintro q w5 ⟨rfl, hw5⟩
            subst hw5
            go_wp2_with fail
            refine (wrap_nil _ _).mono ?_
            rintro q w6 ⟨rfl, hw6⟩
            subst hw6
            go_wp2
            go_roundg n
            case measure => exact Nat.lt_succ_self n
            case rel => exact ⟨n, _, by have := HJ.out; omega, rfl, rfl, rfl, Lib.hid rfl, T⟩
      · have hk' : (k == 0) = false := by simpa using hk0
        have R4 := Lib.hid (show r = if (parsedE (f.take m) k o).line = s then some (parsedE (f.take m) k o) else none by rw [R3.out, if_neg hk0])
        have NW := Lib.hid (t_new k o w3 hk0)
        clear hk0 R3
        go_wp2_with fail
        refine NW.out.mono ?_
        rintro q w4 ⟨rfl, hw4⟩
        subst hw4
        clear NW
        go_wp2
        go_loopg [10, 11] (m) (fun g v10 v11 wr => ∃ (j : Nat) (i : Int), j ≤ m ∧ g = j ∧ v11 = .int .i64 i ∧ Hid (i = (j : Int) - 1) ∧ Hid (IsEr wr (parsedE ((f.take m).drop j) k o) v10 ∧ Below w1.heap.size w1 wr ∧ Below w.heap.size w wr))
        case atStart => exact ⟨m, _, Nat.le_refl _, rfl, rfl, Lib.hid rfl, Lib.hid ⟨by rw [List.drop_of_length_le (by rw [List.length_take]; omega)]; rfl, E3.out, B3.out⟩⟩
        case round =>
          obtain ⟨j, i, hj, rfl, rfl, I, T⟩ := hrel
          cases gk with
          | zero =>
            obtain rfl : i = -1 := by rw [I.out]; rfl
            rw [List.drop_zero] at T
            have AL := Lib.hid (bE_all k o (((f.take m).map trimC).reverse))
            have R5 := Lib.hid R4.out
            clear I hj
            obtain ⟨e, he⟩ : ∃ e, e = parsedE (f.take m) k o := ⟨_, rfl⟩
            rw [← he] at T R5
            have A2 := Lib.hid (show e.no k o ∧ e.size ≤ 4000 ∧ e.plain by
              have A := AL.out
              rw [he]
              exact ⟨A.1, by have := A.2.2.2.1; unfold parsedE; omega, A.2.2.2.2.2 KO.out.1 KO.out.2⟩)
            have LY := Lib.hid (line_yes e u10 wr T.out.1 A2.out.2.2 A2.out.2.1 (G.out.below T.out.2.2))
            clear he AL
            by_cases hl : e.line = s
            · have R6 := Lib.hid (show r = some e by rw [R5.out, if_pos hl])
              rw [hl] at LY
              have er : (s.toList == s.toList) = true := by simp
              clear hl R4 R5
              go_wp2_with fail
              refine LY.out.mono ?_
              rintro q w5 ⟨rfl, hb⟩
              have T5 := Lib.hid (show IsEr w5 e u10 ∧ Below w.heap.size w w5 from ⟨IsEr.on hb T.out.1, T.out.2.2.trans (hb.mono T.out.2.2.size)⟩)
              clear hb
              go_wp2
              go_ret2
              rw [R6.out]
              exact ⟨⟨_, rfl, T5.out.1⟩, T5.out.2⟩
            · have R6 := Lib.hid (show r = none by rw [R5.out, if_neg hl])
              have er : (e.line.toList == s.toList) = false := by
                rw [ByteArray.toList_eq, ByteArray.toList_eq]
                simp only [beq_eq_false_iff_ne, ne_eq]
                exact fun q => hl (bytes_eq q)
              generalize e.line = ln at LY er
              clear hl R4 R5
              go_wp2_with fail
              refine LY.out.mono ?_
              rintro q w5 ⟨rfl, hb⟩
              have T5 := Lib.hid (show Below w.heap.size w w5 from T.out.2.2.trans (hb.mono T.out.2.2.size))
              clear hb
              go_wp2
              go_ret2
              rw [R6.out]
              exact ⟨rfl, T5.out⟩
          | succ n =>
            obtain rfl : i = (n : Int) := by rw [I.out]; omega
            obtain ⟨x, hx⟩ : ∃ x, f[n]? = some x := ⟨_, List.getElem?_eq_getElem (by have := HM.out; omega)⟩
            have cn := CL.out _ T.out.2.1 n x hx
            have sx := FS.out x (List.mem_of_getElem? hx)
            have TR := Lib.hid (fun w => Tryz.strings_TrimSuffix x ⟨#[58]⟩ w (by omega))
            have ST := Lib.hid (parsedE_step (f.take m) k o n x (by rw [List.getElem?_take_of_lt (by omega)]; exact hx))
            have W := Lib.hid (t_wrap (trimC x) (by have := trimC_size x; omega) _ u10 wr T.out.1)
            have hnm : (n : Int) < m := by omega
            have HJ := Lib.hid hj
            clear hx sx hj I
            go_wp2_with fail
            refine (TR.out _).mono ?_
            rintro q w5 ⟨rfl, hw5⟩
            subst hw5
            go_wp2_with fail
            refine W.out.mono ?_
            rintro q w6 hq
            have hb := hq.2
            obtain ⟨u, rfl, hu⟩ := hq.is T.out.1
            have T2 := Lib.hid (show IsEr w6 (parsedE ((f.take m).drop n) k o) u ∧ Below w1.heap.size w1 w6 ∧ Below w.heap.size w w6 from ⟨by rw [ST.out]; exact hu, T.out.2.1.trans (hb.mono T.out.2.1.size), T.out.2.2.trans (hb.mono T.out.2.2.size)⟩)
            clear hq hu hb T W
            go_wp2
            go_roundg n
            case measure => exact Nat.lt_succ_self n
            case rel => exact ⟨n, _, by have := HJ.out; omega, rfl, rfl, Lib.hid rfl, T2⟩
end Go.Proofs.YtcipgagpmglikaaGreatDoor
namespace Go.Proofs.YtcipgagpmglikaaGreatDoor
open Go.RowKit Go.Sort
set_option maxRecDepth 8000
def Valid (w : ByteArray) : Prop := wordW w = w
theorem wordW_idem (s : ByteArray) : Valid (wordW s) := by
  unfold Valid
  by_cases h : mayW s.data.toList = true
  · have e : wordW s = s := by rw [wordW, if_pos h]
    rw [e, e]
  · have e : wordW s = ⟨#[63]⟩ := by rw [wordW, if_neg h]
    rw [e]; decide
theorem valid_is {w : ByteArray} (h : Valid w) : (mayW w.data.toList = true) ∨ w = ⟨#[63]⟩ := by
  by_cases q : mayW w.data.toList = true
  · exact Or.inl q
  · exact Or.inr (by rw [← h, wordW, if_neg q])
theorem valid_no {w : ByteArray} (h : Valid w) : w.data.toList ≠ [] ∧ (58 : UInt8) ∉ w.data.toList ∧ (32 : UInt8) ∉ w.data.toList := by
  rcases valid_is h with q | rfl
  · unfold mayW at q
    simp only [Bool.and_eq_true, Bool.not_eq_true', List.all_eq_true] at q
    refine ⟨fun e => ?_, fun m => ?_, fun m => ?_⟩
    · rw [e] at q; exact absurd q.1.1 (by decide)
    · exact absurd (q.2 _ m) (by decide)
    · exact absurd (q.2 _ m) (by decide)
  · decide
theorem colon_word (w t : List UInt8) (h : (58 : UInt8) ∉ w) : colon (w ++ 58 :: t) = w.length := by
  induction w with
  | nil => rfl
  | cons c r ih =>
    have hc : (c != 58) = true := by simp at h; simpa using fun e => h.1 e.symm
    have := ih (fun m => h (List.mem_cons_of_mem _ m))
    unfold colon at this ⊢
    rw [List.cons_append, List.takeWhile_cons, if_pos hc, List.length_cons, this, List.length_cons]
theorem colon_none (w : List UInt8) (h : (58 : UInt8) ∉ w) : colon w = w.length := by
  induction w with
  | nil => rfl
  | cons c r ih =>
    have hc : (c != 58) = true := by simp at h; simpa using fun e => h.1 e.symm
    have := ih (fun m => h (List.mem_cons_of_mem _ m))
    unfold colon at this ⊢
    rw [List.takeWhile_cons, if_pos hc, List.length_cons, this, List.length_cons]
theorem step_word {w : ByteArray} (h : Valid w) (t : List UInt8) : stepR (w.data.toList ++ 58 :: 32 :: t) = some (w.data.toList, t) := by
  have c := colon_word w.data.toList (32 :: t) (valid_no h).2.1
  have e : (⟨w.data.toList.toArray⟩ : ByteArray) = w := bytes_eq (by simp)
  unfold stepR
  rw [c, List.take_left, e, if_pos ⟨by simp, h⟩, List.drop_append, List.drop_of_length_le (Nat.le_add_right _ _), Nat.add_sub_cancel_left]
  rfl
theorem step_none {r : List UInt8} (h : (58 : UInt8) ∉ r) : stepR r = none := by
  refine stepR_no (Or.inl ?_)
  rw [colon_none r h, List.getElem?_eq_none (by omega)]
  exact fun q => by cases q
/-- What a step tells. -/
theorem step_some {l a r : List UInt8} (h : stepR l = some (a, r)) : l = a ++ 58 :: 32 :: r ∧ Valid ⟨a.toArray⟩ := by
  unfold stepR at h
  split at h
  · rename_i q
    obtain ⟨q1, q2⟩ := q
    simp only [Option.some.injEq, Prod.mk.injEq] at h
    obtain ⟨rfl, rfl⟩ := h
    refine ⟨?_, q2⟩
    have hl : colon l + 1 < l.length := (List.getElem?_eq_some_iff.1 q1).1
    have hc : l[colon l]? = some 58 := by
      have g : ∀ l : List UInt8, colon l < l.length → l[colon l]? = some 58 := by
        intro l
        induction l with
        | nil => intro h; cases h
        | cons c r ih =>
          intro h
          unfold colon at h ⊢
          rw [List.takeWhile_cons] at h ⊢
          by_cases hc : (c != 58) = true
          · rw [if_pos hc] at h ⊢
            simp only [List.length_cons, List.getElem?_cons_succ] at h ⊢
            exact ih (by unfold colon; omega)
          · rw [if_neg hc]
            simp at hc
            simp [hc]
      exact g l (by omega)
    conv => lhs; rw [← List.take_append_drop (colon l) l]
    congr 1
    have h1 := (List.getElem?_eq_some_iff.1 hc)
    rw [List.drop_eq_getElem_cons h1.1, h1.2, List.drop_eq_getElem_cons hl, (List.getElem?_eq_some_iff.1 q1).2]
  · cases h
/-- The words, each with a colon and a blank. -/
def flatW (ws : List ByteArray) : List UInt8 := (ws.map fun w => w.data.toList ++ [58, 32]).flatten
theorem flatW_snoc (ws : List ByteArray) (w : ByteArray) : flatW (ws ++ [w]) = flatW ws ++ w.data.toList ++ [58, 32] := by simp [flatW]
theorem steps_flat {l : List UInt8} {ws : List ByteArray} {r : List UInt8} (h : Steps l ws r) : l = flatW ws ++ r ∧ ∀ w ∈ ws, Valid w := by
  induction h with
  | nil => exact ⟨by simp [flatW], fun w h => by cases h⟩
  | snoc _ hs ih =>
    obtain ⟨h1, h2⟩ := step_some hs
    refine ⟨?_, fun w hw => ?_⟩
    · rw [ih.1, h1, flatW_snoc]; simp
    · rcases List.mem_append.1 hw with hw | hw
      · exact ih.2 w hw
      · obtain rfl := List.mem_singleton.1 hw; exact h2
theorem flat_steps {ws : List ByteArray} (h : ∀ w ∈ ws, Valid w) (r : List UInt8) : Steps (flatW ws ++ r) ws r := by
  have g : ∀ (n : Nat) (us vs : List ByteArray), us.length = n → (∀ w ∈ us, Valid w) → Steps (flatW (us ++ vs) ++ r) us (flatW vs ++ r) := by
    intro n
    induction n with
    | zero => intro us vs h _; obtain rfl := List.length_eq_zero_iff.1 h; exact .nil
    | succ n ih =>
      intro us vs hn hv
      have hne : us ≠ [] := by rintro rfl; cases hn
      have e := List.dropLast_concat_getLast hne
      have q := ih us.dropLast (us.getLast hne :: vs) (by rw [List.length_dropLast]; omega) (fun w hw => hv w (List.dropLast_subset _ hw))
      have e2 : us.dropLast ++ us.getLast hne :: vs = us ++ vs := by conv => rhs; rw [← e]; simp
      rw [e2] at q
      have s := step_word (hv _ (List.getLast_mem hne)) (flatW vs ++ r)
      have e3 : flatW (us.getLast hne :: vs) ++ r = (us.getLast hne).data.toList ++ 58 :: 32 :: (flatW vs ++ r) := by simp [flatW]
      rw [← e3] at s
      have k := Steps.snoc q s
      have e4 : (⟨(us.getLast hne).data.toList.toArray⟩ : ByteArray) = us.getLast hne := bytes_eq (by simp)
      rw [e4, e] at k
      exact k
  have := g _ ws [] rfl h
  simpa [flatW] using this
theorem flatW_cons (w : ByteArray) (ws : List ByteArray) (r : List UInt8) : flatW (w :: ws) ++ r = w.data.toList ++ 58 :: 32 :: (flatW ws ++ r) := by simp [flatW]
theorem uniq {ws vs : List ByteArray} {r q : List UInt8} (hw : ∀ w ∈ ws, Valid w) (hv : ∀ w ∈ vs, Valid w) (hr : stepR r = none) (hq : stepR q = none) (h : flatW ws ++ r = flatW vs ++ q) : ws = vs ∧ r = q := by
  induction ws generalizing vs with
  | nil =>
    cases vs with
    | nil => exact ⟨rfl, by simpa [flatW] using h⟩
    | cons v vs =>
      rw [flatW_cons] at h
      have e : r = v.data.toList ++ 58 :: 32 :: (flatW vs ++ q) := by simpa [flatW] using h
      rw [e, step_word (hv v List.mem_cons_self)] at hr
      cases hr
  | cons w ws ih =>
    cases vs with
    | nil =>
      rw [flatW_cons] at h
      have e : q = w.data.toList ++ 58 :: 32 :: (flatW ws ++ r) := by have := h.symm; simpa [flatW] using this
      rw [e, step_word (hw w List.mem_cons_self)] at hq
      cases hq
    | cons v vs =>
      rw [flatW_cons, flatW_cons] at h
      have a := step_word (hw w List.mem_cons_self) (flatW ws ++ r)
      rw [h, step_word (hv v List.mem_cons_self)] at a
      simp only [Option.some.injEq, Prod.mk.injEq] at a
      obtain ⟨h1, h2⟩ := ih (fun x hx => hw x (List.mem_cons_of_mem _ hx)) (fun x hx => hv x (List.mem_cons_of_mem _ hx)) a.2.symm
      exact ⟨by rw [h1, bytes_eq a.1], h2⟩
/-- Kind and place, told. -/
def tailB (k o : Int) : List UInt8 := [107, 105, 110, 100, 32] ++ Lib.itoa k ++ [32, 97, 116, 32] ++ Lib.itoa o
theorem itoa_mem {n : Int} {c : UInt8} (h : c ∈ Lib.itoa n) : c = 45 ∨ 48 ≤ c.toNat ∧ c.toNat ≤ 57 := by
  unfold Lib.itoa at h
  split at h
  · rcases List.mem_cons.1 h with rfl | h
    · exact Or.inl rfl
    · exact Or.inr (dec_all _ c h)
  · exact Or.inr (dec_all _ c h)
theorem itoa_no {n : Int} : (58 : UInt8) ∉ Lib.itoa n ∧ (32 : UInt8) ∉ Lib.itoa n := by
  constructor
  · intro h; rcases itoa_mem h with e | e
    · exact absurd e (by decide)
    · have : (58 : UInt8).toNat = 58 := rfl
      omega
  · intro h; rcases itoa_mem h with e | e
    · exact absurd e (by decide)
    · have : (32 : UInt8).toNat = 32 := rfl
      omega
theorem tailB_no (k o : Int) : (58 : UInt8) ∉ tailB k o := by
  unfold tailB
  simp only [List.mem_append, not_or]
  exact ⟨⟨⟨by decide, itoa_no.1⟩, by decide⟩, itoa_no.1⟩
theorem scanD_all (k : Nat) (ds t : List UInt8) (h : ∀ c ∈ ds, isDg c = true) (hl : ds.length ≤ k) (ht : ∀ c ∈ t.head?, isDg c = false) : scanD k (ds ++ t) = ds := by
  induction ds generalizing k with
  | nil =>
    cases t with
    | nil => cases k <;> rfl
    | cons c r =>
      cases k with
      | zero => rfl
      | succ k => simp only [List.nil_append, scanD]; rw [if_neg (by rw [ht c (by simp)]; exact Bool.false_ne_true)]
  | cons c r ih =>
    cases k with
    | zero => simp at hl
    | succ k =>
      simp only [List.cons_append, scanD]
      rw [if_pos (h c List.mem_cons_self), ih k (fun x hx => h x (List.mem_cons_of_mem _ hx)) (by simpa using hl)]
theorem dec_dg (n : Nat) : ∀ c ∈ Lib.decDigits n, isDg c = true := fun c hc => by
  have := dec_all n c hc
  unfold isDg
  rw [decide_eq_true this.1, decide_eq_true this.2]; rfl
theorem span_itoa {k : Int} (hk : W64 k) (t : List UInt8) (ht : ∀ c ∈ t.head?, isDg c = false) : spanR (Lib.itoa k ++ t) = Lib.itoa k := by
  unfold W64 at hk
  unfold Lib.itoa
  by_cases h : k < 0
  · rw [if_pos h]
    have hl : (Lib.decDigits k.natAbs).length ≤ 24 := by rw [Lib.decDigits_length]; have := nDigits_le 20 k.natAbs (by omega) (by decide); omega
    unfold spanR
    rw [List.cons_append, show belowL (45 :: (Lib.decDigits k.natAbs ++ t)) = true from rfl, if_pos rfl, List.drop_one, List.tail_cons, scanD_all 24 _ t (dec_dg _) hl ht]
  · rw [if_neg h]
    have hl : (Lib.decDigits k.toNat).length ≤ 25 := by rw [Lib.decDigits_length]; have := nDigits_le 20 k.toNat (by omega) (by decide); omega
    have hb : belowL (Lib.decDigits k.toNat ++ t) = false := by
      unfold belowL
      cases hd : Lib.decDigits k.toNat with
      | nil => exact absurd hd (dec_ne _)
      | cons c r =>
        simp only [List.cons_append, List.head?_cons]
        have : c ≠ 45 := fun e => dec_no_minus k.toNat r (by rw [hd, e])
        simpa using this
    unfold spanR
    rw [hb, if_neg Bool.false_ne_true, scanD_all 25 _ t (dec_dg _) hl ht]
theorem read_itoa {k : Int} (hk : W64 k) (t : List UInt8) (ht : ∀ c ∈ t.head?, isDg c = false) (a : Nat) : readV (Lib.itoa k ++ t) a = (k, ((a + (Lib.itoa k).length : Nat) : Int)) := by
  unfold readV
  rw [span_itoa hk t ht, show num64 (Lib.itoa k) = some k from num?_itoa hk]
theorem tailR_line {n : Nat} {ws : List ByteArray} {k o : Int} (hn : n ≤ 400) (hl : ws.length ≤ 8) (h0 : k ≠ 0) (hk : W64 k) (ho : W64 o) : tailR n ws (tailB k o) = some (ws, k, o) := by
  have e : tailB k o = [107, 105, 110, 100, 32] ++ (Lib.itoa k ++ ([32, 97, 116, 32] ++ Lib.itoa o)) := by simp [tailB]
  have p1 := itoa_length_pos k
  have d5 : (tailB k o).drop 5 = Lib.itoa k ++ ([32, 97, 116, 32] ++ Lib.itoa o) := by rw [e]; rfl
  have t5 : (tailB k o).take 5 = [107, 105, 110, 100, 32] := by rw [e]; rfl
  have ln : (tailB k o).length = 9 + (Lib.itoa k).length + (Lib.itoa o).length := by rw [e]; simp; omega
  have x1 := read_itoa hk ([32, 97, 116, 32] ++ Lib.itoa o) (fun c hc => by simp at hc; subst hc; decide) 5
  have dP : (tailB k o).drop (5 + (Lib.itoa k).length) = [32, 97, 116, 32] ++ Lib.itoa o := by
    rw [← List.drop_drop, d5, List.drop_left]
  have dQ : (tailB k o).drop (5 + (Lib.itoa k).length + 4) = Lib.itoa o := by rw [← List.drop_drop, dP]; rfl
  have x2 := read_itoa ho [] (fun c hc => by cases hc) (5 + (Lib.itoa k).length + 4)
  rw [List.append_nil] at x2
  rw [tailR, if_neg (by rw [t5, ln]; rintro (h | h | h | h); omega; exact h rfl; omega; omega), d5, x1, tail2]
  simp only [Int.toNat_natCast]
  rw [if_neg (by rw [dP, ln]; rintro (h | h | h | h); omega; exact h0 h; (push_cast at h; omega); exact h rfl), dQ, x2, tail3]
  simp only
  rw [if_neg (by rw [ln]; intro h; apply h; omega)]
theorem span_pre (t : List UInt8) : ∃ u, t = spanR t ++ u := by
  unfold spanR
  split
  · rename_i h
    have e := below_cons h
    refine ⟨(t.drop 1).drop (scanD 24 (t.drop 1)).length, ?_⟩
    have p := scanD_pre 24 (t.drop 1)
    conv => lhs; rw [e, ← List.take_append_drop (scanD 24 (t.drop 1)).length (t.drop 1), ← p]
    rfl
  · refine ⟨t.drop (scanD 25 t).length, ?_⟩
    have p := scanD_pre 25 t
    conv => lhs; rw [← List.take_append_drop (scanD 25 t).length t, ← p]
theorem readV_some {t : List UInt8} {a : Nat} {v p : Int} (h : readV t a = (v, p)) (hp : 0 ≤ p) : W64 v ∧ ∃ u, t = Lib.itoa v ++ u ∧ p = ((a + (Lib.itoa v).length : Nat) : Int) := by
  unfold readV at h
  split at h
  · rename_i n hn
    simp only [Prod.mk.injEq] at h
    obtain ⟨rfl, rfl⟩ := h
    obtain ⟨e, b⟩ := num?_some hn
    obtain ⟨u, hu⟩ := span_pre t
    rw [e] at hu
    exact ⟨b, u, hu, by rw [e]⟩
  · simp only [Prod.mk.injEq] at h
    omega
theorem tailR_some {n : Nat} {ws us : List ByteArray} {r : List UInt8} {k o : Int} (h : tailR n ws r = some (us, k, o)) : us = ws ∧ r = tailB k o ∧ n ≤ 400 ∧ ws.length ≤ 8 ∧ k ≠ 0 ∧ W64 k ∧ W64 o := by
  unfold tailR at h
  split at h
  · cases h
  rename_i c1
  simp only [not_or, Decidable.not_not] at c1
  obtain ⟨c1, c2, c3, c4⟩ := c1
  obtain ⟨x, hx⟩ : ∃ x, x = readV (r.drop 5) 5 := ⟨_, rfl⟩
  rw [← hx] at h
  obtain ⟨kx, p⟩ := x
  unfold tail2 at h
  split at h
  · cases h
  rename_i d1
  simp only [not_or, Decidable.not_not] at d1
  obtain ⟨d1, d2, d3, d4⟩ := d1
  obtain ⟨y, hy⟩ : ∃ y, y = readV (r.drop (p.toNat + 4)) (p.toNat + 4) := ⟨_, rfl⟩
  simp only at h d1 d2 d3 d4
  rw [← hy] at h
  obtain ⟨ox, q⟩ := y
  unfold tail3 at h
  split at h
  · cases h
  rename_i e1
  simp only [Decidable.not_not] at e1
  simp only [Option.some.injEq, Prod.mk.injEq] at h
  obtain ⟨rfl, rfl, rfl⟩ := h
  obtain ⟨wk, u, hu, hp⟩ := readV_some hx.symm (by omega)
  obtain ⟨wo, u2, hu2, hq⟩ := readV_some hy.symm (by rw [e1]; omega)
  have hP : p.toNat = 5 + (Lib.itoa kx).length := by omega
  rw [hP] at hu2 hq d4
  have s5 : r = [107, 105, 110, 100, 32] ++ (Lib.itoa kx ++ u) := by rw [← hu, ← c2, List.take_append_drop]
  have dP : r.drop (5 + (Lib.itoa kx).length) = u := by rw [← List.drop_drop, hu, List.drop_left]
  rw [dP] at d4
  have du : u = [32, 97, 116, 32] ++ u.drop 4 := by rw [← d4, List.take_append_drop]
  have dQ : r.drop (5 + (Lib.itoa kx).length + 4) = u.drop 4 := by rw [← List.drop_drop, dP]
  rw [dQ] at hu2
  have hl : u2 = [] := by
    have l1 : r.length = 5 + ((Lib.itoa kx).length + u.length) := by rw [s5]; simp; omega
    have l2 : u.length = 4 + ((Lib.itoa ox).length + u2.length) := by rw [du, hu2]; simp; omega
    have l3 : (q : Int) = ((5 + (Lib.itoa kx).length + 4 + (Lib.itoa ox).length : Nat) : Int) := hq
    have : u2.length = 0 := by omega
    exact List.length_eq_zero_iff.1 this
  refine ⟨rfl, ?_, by omega, by omega, d2, wk, wo⟩
  rw [s5, du, hu2, hl]
  simp [tailB]
/-! ### The fields of a line -/
theorem fin_join' (ps : List (List UInt8)) : ∀ p : List UInt8, (∀ q ∈ ps ++ [p], (32 : UInt8) ∉ q) → fin (joinB (ps ++ [p])) = (ps, p) := by
  have g : ∀ (n : Nat) (ps : List (List UInt8)), ps.length = n → ∀ p : List UInt8, (∀ q ∈ ps ++ [p], (32 : UInt8) ∉ q) → fin (joinB (ps ++ [p])) = (ps, p) := by
    intro n
    induction n with
    | zero =>
      intro ps h p hq
      obtain rfl := List.length_eq_zero_iff.1 h
      have := fin_seg [] p (fun c hc e => hq p (by simp) (e ▸ hc))
      simpa [joinB, fin] using this
    | succ n ih =>
      intro ps h p hq
      have hne : ps ≠ [] := by rintro rfl; cases h
      have e := List.dropLast_concat_getLast hne
      have k := ih ps.dropLast (by rw [List.length_dropLast]; omega) (ps.getLast hne) (fun q hm => by rw [e] at hm; exact hq q (List.mem_append_left _ hm))
      rw [← e, joinB_snoc]
      have e2 : joinB (ps.dropLast ++ [ps.getLast hne]) ++ 32 :: p = (joinB (ps.dropLast ++ [ps.getLast hne]) ++ [32]) ++ p := by simp
      rw [e2, fin_seg _ p (fun c hc e => hq p (by simp) (e ▸ hc)), fin_blank, k]
      simp
  exact g _ ps rfl
theorem fields_of_join (ps : List (List UInt8)) (p : List UInt8) (h : ∀ q ∈ ps ++ [p], (32 : UInt8) ∉ q) (hne : joinB (ps ++ [p]) ≠ []) : fieldsL (joinB (ps ++ [p])) = ps ++ [p] := by
  rw [fieldsL, if_neg hne, fin_join' ps p h]
theorem line_join (ws : List ByteArray) (k o : Int) : flatW ws ++ tailB k o = joinB ((ws.map fun w => w.data.toList ++ [58]) ++ [[107, 105, 110, 100], Lib.itoa k, [97, 116]] ++ [Lib.itoa o]) := by
  induction ws with
  | nil => simp [flatW, tailB, joinB]
  | cons w ws ih =>
    rw [flatW_cons, ih]
    cases ws with
    | nil => simp [joinB]
    | cons v vs => simp [joinB]
theorem lineW_list (k o : Int) (ws : List ByteArray) : (lineW k o ws).data.toList = flatW ws ++ tailB k o := by
  induction ws with
  | nil =>
    have e1 : kindB.data.toList = [107, 105, 110, 100, 32] := rfl
    have e2 : atB.data.toList = [32, 97, 116, 32] := rfl
    simp only [lineW, app_list, txt_list, e1, e2]
    simp [flatW, tailB]
  | cons w ws ih =>
    have e : colB.data.toList = [58, 32] := rfl
    simp only [lineW, app_list, ih, e]
    rw [flatW_cons]; simp
theorem fields_line (ws : List ByteArray) (k o : Int) (h : ∀ w ∈ ws, Valid w) : fieldsL (flatW ws ++ tailB k o) = (ws.map fun w => w.data.toList ++ [58]) ++ [[107, 105, 110, 100], Lib.itoa k, [97, 116], Lib.itoa o] := by
  rw [line_join, fields_of_join]
  · simp
  · intro q hq
    simp only [List.mem_append, List.mem_map, List.mem_cons, List.not_mem_nil, or_false] at hq
    rcases hq with (⟨w, hw, rfl⟩ | rfl | rfl | rfl) | rfl
    · simp only [List.mem_append, not_or]; exact ⟨(valid_no (h w hw)).2.2, by decide⟩
    · decide
    · exact itoa_no.2
    · decide
    · exact itoa_no.2
  · rw [← line_join]; simp [tailB]
theorem trim_word (w : ByteArray) : trimC ⟨(w.data.toList ++ [58]).toArray⟩ = w := by
  unfold trimC
  refine bytes_eq ?_
  simp [Lib.trimSuffix, Lib.hasSuffix]
/-- Valid words, at most eight, are the words of what they build. -/
theorem bE_words (k o : Int) (ws : List ByteArray) (h : ∀ w ∈ ws, Valid w) (hl : ws.length ≤ 8) : (bE k o ws.reverse).words = ws := by
  induction ws with
  | nil => rfl
  | cons w ws ih =>
    simp only [List.length_cons] at hl
    rw [List.reverse_cons, bE_snoc]
    have c := (bE_all k o ws.reverse).2.1
    rw [List.length_reverse] at c
    rw [wrapE, if_neg (by omega)]
    simp only [Er.words]
    rw [ih (fun x hx => h x (List.mem_cons_of_mem _ hx)) (by omega), h w List.mem_cons_self]
end Go.Proofs.YtcipgagpmglikaaGreatDoor
namespace Go.Proofs.YtcipgagpmglikaaGreatDoor
open Go.RowKit Go.Sort
set_option maxRecDepth 8000
theorem bE_valid (k o : Int) (xs : List ByteArray) : ∀ w ∈ (bE k o xs).words, Valid w := by
  have g : ∀ (n : Nat) (xs : List ByteArray), xs.length = n → ∀ w ∈ (bE k o xs).words, Valid w := by
    intro n
    induction n with
    | zero => intro xs h; obtain rfl := List.length_eq_zero_iff.1 h; intro w hw; cases hw
    | succ n ih =>
      intro xs h
      have hne : xs ≠ [] := by rintro rfl; cases h
      rw [← List.dropLast_concat_getLast hne, bE_snoc]
      have i := ih xs.dropLast (by rw [List.length_dropLast]; omega)
      unfold wrapE
      split
      · exact i
      · intro w hw
        rcases List.mem_cons.1 hw with rfl | hw
        · exact wordW_idem _
        · exact i w hw
  exact g _ xs rfl
theorem parse_of_line {s : ByteArray} {ws : List ByteArray} {k o : Int} (hs : s.data.toList = flatW ws ++ tailB k o) (h4 : s.size ≤ 400) (hv : ∀ w ∈ ws, Valid w) (hl : ws.length ≤ 8) (h0 : k ≠ 0) (hk : W64 k) (ho : W64 o) :
    parseE s = some (bE k o ws.reverse) ∧ (bE k o ws.reverse).words = ws ∧ (bE k o ws.reverse).line = s := by
  have hw := bE_words k o ws hv hl
  have hline : (bE k o ws.reverse).line = s := by
    rw [no_line (bE_all k o ws.reverse).1, hw]
    exact bytes_eq (by rw [lineW_list, hs])
  refine ⟨?_, hw, hline⟩
  obtain ⟨F, hF⟩ : ∃ F : List ByteArray, F = (ws.map fun w => (⟨(w.data.toList ++ [58]).toArray⟩ : ByteArray)) ++ ([⟨#[107, 105, 110, 100]⟩, ⟨(Lib.itoa k).toArray⟩, ⟨#[97, 116]⟩, ⟨(Lib.itoa o).toArray⟩] : List ByteArray) := ⟨_, rfl⟩
  have hf : (fieldsL s.data.toList).map (fun l => (⟨l.toArray⟩ : ByteArray)) = F := by
    rw [hs, fields_line ws k o hv, List.map_append, List.map_map, hF]; rfl
  have hlen : F.length = ws.length + 4 := by rw [hF]; simp
  have g1 : F.getD (ws.length + 1) ⟨#[]⟩ = ⟨(Lib.itoa k).toArray⟩ := by
    rw [hF, List.getD_eq_getElem?_getD, List.getElem?_append_right (by simp)]; simp
  have g3 : F.getD (ws.length + 3) ⟨#[]⟩ = ⟨(Lib.itoa o).toArray⟩ := by
    rw [hF, List.getD_eq_getElem?_getD, List.getElem?_append_right (by simp)]; simp
  have gt : F.take ws.length = ws.map fun w => (⟨(w.data.toList ++ [58]).toArray⟩ : ByteArray) := by
    rw [hF, List.take_append_of_le_length (by simp), List.take_of_length_le (by simp)]
  have tr : (ws.map fun w => (⟨(w.data.toList ++ [58]).toArray⟩ : ByteArray)).map trimC = ws := by
    rw [List.map_map]
    conv => rhs; rw [← List.map_id ws]
    exact List.map_congr_left fun w _ => trim_word w
  have n1 : num64 (⟨(Lib.itoa k).toArray⟩ : ByteArray).data.toList = some k := by
    show num64 (Lib.itoa k) = some k
    exact num?_itoa hk
  have n3 : num64 (⟨(Lib.itoa o).toArray⟩ : ByteArray).data.toList = some o := by
    show num64 (Lib.itoa o) = some o
    exact num?_itoa ho
  unfold parseE
  rw [if_neg (by omega), hf]
  show (if F.length < 4 then none else _) = _
  rw [if_neg (by omega), hlen, show ws.length + 4 - 3 = ws.length + 1 by omega, show ws.length + 4 - 1 = ws.length + 3 by omega, show ws.length + 4 - 4 = ws.length by omega, g1, g3, n1, n3, gt]
  show (if k = 0 then none else if (parsedE _ k o).line = s then some (parsedE _ k o) else none) = _
  rw [if_neg h0, parsedE, tr, if_pos hline]
theorem line_of_parse {s : ByteArray} {e : Er} (h : parseE s = some e) : s.size ≤ 400 ∧ ∃ k o, k ≠ 0 ∧ W64 k ∧ W64 o ∧ e.no k o ∧ s.data.toList = flatW e.words ++ tailB k o ∧ (∀ w ∈ e.words, Valid w) ∧ e.words.length ≤ 8 := by
  unfold parseE at h
  split at h
  · cases h
  rename_i h4
  simp only at h
  split at h
  · cases h
  split at h
  · rename_i k o n1 n3
    split at h
    · cases h
    rename_i h0
    split at h
    · rename_i hl
      simp only [Option.some.injEq] at h
      unfold parsedE at h hl
      generalize (List.map trimC (List.take _ _)).reverse = Y at h hl
      subst h
      have A := bE_all k o Y
      refine ⟨by omega, k, o, h0, num_W64 n1, num_W64 n3, A.1, ?_, bE_valid k o _, by have := A.2.2.1; omega⟩
      rw [← lineW_list, ← no_line A.1, hl]
    · cases h
  · cases h
/-- The two agree. -/
theorem agree {s : ByteArray} {ws : List ByteArray} {r : List UInt8} (h : Steps s.data.toList ws r) (hr : stepR r = none) :
    (tailR s.size ws r = none ∧ parseE s = none) ∨ ∃ k o e, tailR s.size ws r = some (e.words, k, o) ∧ parseE s = some e ∧ e.no k o ∧ e.line = s ∧ e.plain ∧ e.size ≤ 4000 ∧ e.words.length ≤ 8 := by
  obtain ⟨hl, hv⟩ := steps_flat h
  cases ht : tailR s.size ws r with
  | some x =>
    obtain ⟨us, k, o⟩ := x
    obtain ⟨rfl, rfl, h4, h8, h0, hk, ho⟩ := tailR_some ht
    obtain ⟨p1, p2, p3⟩ := parse_of_line hl h4 hv h8 h0 hk ho
    have A := bE_all k o us.reverse
    exact Or.inr ⟨k, o, _, by rw [p2], p1, A.1, p3, A.2.2.2.2.2 hk ho, by have := A.2.2.2.1; omega, by rw [p2]; exact h8⟩
  | none =>
    refine Or.inl ⟨rfl, ?_⟩
    cases hp : parseE s with
    | none => rfl
    | some e =>
      obtain ⟨h4, k, o, h0, hk, ho, -, h1, h2, h3⟩ := line_of_parse hp
      obtain ⟨rfl, rfl⟩ := uniq hv h2 hr (step_none (tailB_no k o)) (hl.symm.trans h1)
      rw [tailR_line h4 h3 h0 hk ho] at ht
      cases ht
end Go.Proofs.YtcipgagpmglikaaGreatDoor
namespace Go.Proofs.YtcipgagpmglikaaGreatDoor
open Go.RowKit Go.Sort
set_option maxRecDepth 8000
theorem lineW_le {k o : Int} (hk : W64 k) (ho : W64 o) (ws : List ByteArray) (h : ∀ s ∈ ws, s.size ≤ 32) : (lineW k o ws).size ≤ 34 * ws.length + 100 := by
  induction ws with
  | nil => exact lineW_small hk ho
  | cons s r ih =>
    have := ih fun x hx => h x (List.mem_cons_of_mem _ hx)
    have := h s List.mem_cons_self
    have e : colB.size = 2 := rfl
    simp only [lineW, add_sz, List.length_cons]
    omega
/-- The two texts lie in block g. -/
def Li (w wr : World) (g : Nat) (x0 x1 : ByteArray) : Prop := Two wr g (.string x0) (.string x1) ∧ Ev wr ∧ Below w.heap.size w wr
theorem Li.on {w wr w2 : World} {g : Nat} {x0 x1 : ByteArray} (h : Li w wr g x0 x1) (hb : Below wr.heap.size wr w2) : Li w w2 g x0 x1 :=
  ⟨h.1.on hb, h.2.1.below hb, h.2.2.trans (hb.mono h.2.2.size)⟩
theorem pars_of {x : ByteArray} {ws : List ByteArray} {r : List UInt8} (h : Steps x.data.toList ws r) (hr : stepR r = none) (hp : parseE x = none) : tailR x.size ws r = none := by
  rcases agree h hr with ⟨h1, -⟩ | ⟨k, o, e, -, h2, -⟩
  · exact h1
  · rw [hp] at h2; cases h2
theorem pars_some {x : ByteArray} {e : Er} {ws : List ByteArray} {r : List UInt8} (h : Steps x.data.toList ws r) (hr : stepR r = none) (hp : parseE x = some e) :
    ∃ k o, tailR x.size ws r = some (e.words, k, o) ∧ e.no k o ∧ e.line = x ∧ e.plain ∧ e.size ≤ 4000 ∧ e.words.length ≤ 8 := by
  rcases agree h hr with ⟨-, h1⟩ | ⟨k, o, e', h1, h2, h3⟩
  · rw [hp] at h1; cases h1
  · rw [hp] at h2; cases h2; exact ⟨k, o, h1, h3⟩
set_option maxHeartbeats 8000000 in
theorem faultLines_any (s : ByteArray) (k o : Int) (xs : List ByteArray) (v : Value) (w : World) (h : Strs w v xs) (hz : Sized xs) (hk : W64 k) (ho : W64 o) (hw : Ev w) :
    Calls Tryz.prog 4 #[.string s, .int .i64 k, .int .i64 o, v] w fun ex w' => ex = .returned (.bool true) ∧ Below w.heap.size w w' := by
  have N := Lib.hid (t_known w hw)
  have H := Lib.hid (fun w1 (hb : Below w.heap.size w w1) => t_heavy v xs w1 (h.on hb) hz)
  have G := Lib.hid (And.intro h hw)
  have KO := Lib.hid (And.intro hk ho)
  clear h hz hw hk ho
  cases hh : heavyB xs with
  | true =>
    rw [hh] at H
    clear hh
    go_enter Tryz.func4, Tryz.ntmps4
    go_wp2_with fail
    refine N.out.mono ?_
    rintro q w1 ⟨rfl, hb1⟩
    go_wp2_with fail
    refine (H.out _ hb1).mono ?_
    rintro q w2 ⟨rfl, hb2⟩
    go_wp2
    go_ret
    exact ⟨rfl, hb1.trans (hb2.mono hb1.size)⟩
  | false =>
    rw [hh] at H
    have Q := Lib.hid (heavy_sized hh)
    clear hh
    by_cases hs : 1000 < s.size
    · have hs' : (1000 : Int) < s.size := by omega
      clear hs
      go_enter Tryz.func4, Tryz.ntmps4
      go_wp2_with fail
      refine N.out.mono ?_
      rintro q w1 ⟨rfl, hb1⟩
      go_wp2_with fail
      refine (H.out _ hb1).mono ?_
      rintro q w2 ⟨rfl, hb2⟩
      go_wp2
      go_ret
      exact ⟨rfl, hb1.trans (hb2.mono hb1.size)⟩
    have hs' : ¬ (1000 : Int) < s.size := by omega
    have S0 := Lib.hid (show s.size ≤ 4000 by omega)
    clear hs
    by_cases hk0 : k = 0
    · subst hk0
      go_enter Tryz.func4, Tryz.ntmps4
      go_wp2_with fail
      refine N.out.mono ?_
      rintro q w1 ⟨rfl, hb1⟩
      go_wp2_with fail
      refine (H.out _ hb1).mono ?_
      rintro q w2 ⟨rfl, hb2⟩
      have B2 := Lib.hid (hb1.trans (hb2.mono hb1.size))
      clear hb1 hb2 N H
      go_wp2_with fail
      refine (t_build0 o xs v w2 (G.out.1.on B2.out) Q.out.1 Q.out.2).mono ?_
      rintro q w3 ⟨⟨l, rfl⟩, hb3⟩
      have B3 := Lib.hid (B2.out.trans (hb3.mono B2.out.size))
      clear hb3 B2
      go_wp2_with fail
      refine (line_no none .nilIface w3 rfl (by decide) rfl).mono ?_
      rintro q w4 ⟨rfl, hb⟩
      have B4 := Lib.hid (B3.out.trans (hb.mono B3.out.size))
      obtain ⟨x1, hx1⟩ : ∃ x1 : ByteArray, x1 = ⟨#[]⟩ := ⟨_, rfl⟩
      have S1 := Lib.hid (show x1.size ≤ 4000 by rw [hx1]; decide)
      rw [← hx1]
      clear hb B3 hx1
      have B5 := Lib.hid (B4.out.trans ((below_alloc w4 (.cells #[.string s, .string x1] 9)).mono B4.out.size))
      have n5 := Blk.new w4 9 #[.string s, .string x1] rfl
      have L5 : Hid (Li w (w4.alloc (.cells #[.string s, .string x1] 9)) w4.heap.size s x1) := Lib.hid ⟨⟨n5.lt, n5.cell (j := 0) rfl, n5.cell (j := 1) rfl⟩, G.out.2.below B5.out, B5.out⟩
      clear n5 B4 B5 Q KO G hs'
      go_wp2
      generalize w4.heap.size = g at *
      generalize w4.alloc (.cells #[.string s, .string x1] 9) = w5 at *
      go_loopg [52] (2) (fun gg v52 wr => ∃ j : Nat, j ≤ 2 ∧ gg = 2 - j ∧ v52 = .int .i64 j ∧ Hid (Li w wr g s x1))
      case atStart => exact ⟨0, by decide, rfl, rfl, L5⟩
      case round =>
        obtain ⟨j, hj, rfl, rfl, T⟩ := hrel
        clear L5
        rcases (show j = 0 ∨ j = 1 ∨ j = 2 by omega) with rfl | rfl | rfl
        · have cx := T.out.1.2.1
          obtain ⟨x, hx⟩ : ∃ x : ByteArray, x = s := ⟨_, rfl⟩
          have SX := Lib.hid (show x.size ≤ 4000 by rw [hx]; exact S0.out)
          rw [← hx] at cx
          clear hj hx
          have PA := Lib.hid (fun w1 hv => t_parse x SX.out w1 hv)
          have RP := Lib.hid (fun w1 => r_parse x SX.out w1)
          cases hp : parseE x with
          | none =>
            rw [hp] at PA
            have HP := Lib.hid hp
            clear hp
            go_wp2_with fail
            refine (PA.out _ T.out.2.1.1).mono ?_
            rintro q y1 ⟨hq, hb⟩
            cases hq
            replace T := Lib.hid (T.out.on hb)
            clear hb
            go_wp2_with fail
            refine (RP.out _).mono ?_
            rintro q y2 ⟨⟨ws, r, h1, h2, h3⟩, hb⟩
            rw [pars_of h1 h2 HP.out] at h3
            cases h3
            replace T := Lib.hid (T.out.on hb)
            clear hb h1 h2
            go_wp2
            go_roundg (2 - (0 + 1))
            case measure => decide
            case rel => exact ⟨0 + 1, by decide, rfl, by go_num, T⟩
          | some e =>
            rw [hp] at PA
            have HP := Lib.hid hp
            clear hp
            go_wp2_with fail
            refine (PA.out _ T.out.2.1.1).mono ?_
            rintro q y1 ⟨hq, hb⟩
            obtain ⟨u, rfl, hu⟩ := hq
            obtain ⟨ut, ux, rfl⟩ := hu.iface
            replace T := Lib.hid (T.out.on hb)
            have U := Lib.hid hu
            clear hb hu
            go_wp2_with fail
            refine (RP.out _).mono ?_
            rintro q y2 ⟨⟨ws, r, h1, h2, h3⟩, hb⟩
            obtain ⟨k', o', h4, h5⟩ := pars_some h1 h2 HP.out
            rw [h4] at h3
            obtain ⟨l, rfl, hl⟩ := h3
            have F := Lib.hid h5
            have A := Lib.hid (no_all h5.1)
            replace T := Lib.hid (T.out.on hb)
            replace U := Lib.hid (IsEr.on hb U.out)
            have SL := Lib.hid hl
            clear hb h1 h2 h4 h5 hl PA RP HP
            have LY := Lib.hid (fun w1 (h : IsEr w1 e (.iface ut ux)) (hv : Env w1) => line_yes e _ w1 h F.out.2.2.1 F.out.2.2.2.1 hv)
            have K := Lib.hid (fun w1 (h : IsEr w1 e (.iface ut ux)) (hv : AsS.Ty w1) => t_kind e _ w1 h hv)
            have O := Lib.hid (fun w1 (h : IsEr w1 e (.iface ut ux)) (hv : AsF.Ty w1) => t_off e _ w1 h hv)
            have NN := Lib.hid (fun w1 (h : IsEr w1 e (.iface ut ux)) => t_notes (some e) _ w1 h F.out.2.2.2.1)
            rw [F.out.2.1] at LY
            rw [A.out.1, kindV] at K
            rw [A.out.2.1, offV] at O
            have er : (x.toList == x.toList) = true := by simp
            go_wp2_with fail
            refine (LY.out _ U.out T.out.2.1.1).mono ?_
            rintro q y3 ⟨rfl, hb⟩
            replace T := Lib.hid (T.out.on hb)
            replace U := Lib.hid (IsEr.on hb U.out)
            replace SL := Lib.hid (SL.out.on hb)
            clear hb
            go_wp2_with fail
            refine (K.out _ U.out T.out.2.1.2).mono ?_
            rintro q y4 ⟨rfl, hb⟩
            replace T := Lib.hid (T.out.on hb)
            replace U := Lib.hid (IsEr.on hb U.out)
            replace SL := Lib.hid (SL.out.on hb)
            clear hb
            go_wp2_with fail
            refine (O.out _ U.out T.out.2.1.place).mono ?_
            rintro q y5 ⟨rfl, hb⟩
            replace T := Lib.hid (T.out.on hb)
            replace U := Lib.hid (IsEr.on hb U.out)
            replace SL := Lib.hid (SL.out.on hb)
            clear hb
            go_wp2_with fail
            refine (NN.out _ U.out).mono ?_
            rintro q y6 ⟨⟨l3, rfl, hl3⟩, hb⟩
            replace T := Lib.hid (T.out.on hb)
            have EQ := Lib.hid (t_equal l3 l e.words e.words y6 hl3 (SL.out.on hb) (by have := F.out.2.2.2.2; omega) (by have := F.out.2.2.2.2; omega))
            rw [decide_eq_true (rfl : e.words = e.words)] at EQ
            clear hb hl3 SL U
            go_wp2_with fail
            refine EQ.out.mono ?_
            rintro q y7 ⟨rfl, hb⟩
            replace T := Lib.hid (T.out.on hb)
            clear hb EQ
            go_wp2
            go_roundg (2 - (0 + 1))
            case measure => decide
            case rel => exact ⟨0 + 1, by decide, rfl, by go_num, T⟩
        · have cx := T.out.1.2.2
          obtain ⟨x, hx⟩ : ∃ x : ByteArray, x = x1 := ⟨_, rfl⟩
          have SX := Lib.hid (show x.size ≤ 4000 by rw [hx]; exact S1.out)
          rw [← hx] at cx
          clear hj hx
          have PA := Lib.hid (fun w1 hv => t_parse x SX.out w1 hv)
          have RP := Lib.hid (fun w1 => r_parse x SX.out w1)
          cases hp : parseE x with
          | none =>
            rw [hp] at PA
            have HP := Lib.hid hp
            clear hp
            go_wp2_with fail
            refine (PA.out _ T.out.2.1.1).mono ?_
            rintro q y1 ⟨hq, hb⟩
            cases hq
            replace T := Lib.hid (T.out.on hb)
            clear hb
            go_wp2_with fail
            refine (RP.out _).mono ?_
            rintro q y2 ⟨⟨ws, r, h1, h2, h3⟩, hb⟩
            rw [pars_of h1 h2 HP.out] at h3
            cases h3
            replace T := Lib.hid (T.out.on hb)
            clear hb h1 h2
            go_wp2
            go_roundg (2 - (1 + 1))
            case measure => decide
            case rel => exact ⟨1 + 1, by decide, rfl, by go_num, T⟩
          | some e =>
            rw [hp] at PA
            have HP := Lib.hid hp
            clear hp
            go_wp2_with fail
            refine (PA.out _ T.out.2.1.1).mono ?_
            rintro q y1 ⟨hq, hb⟩
            obtain ⟨u, rfl, hu⟩ := hq
            obtain ⟨ut, ux, rfl⟩ := hu.iface
            replace T := Lib.hid (T.out.on hb)
            have U := Lib.hid hu
            clear hb hu
            go_wp2_with fail
            refine (RP.out _).mono ?_
            rintro q y2 ⟨⟨ws, r, h1, h2, h3⟩, hb⟩
            obtain ⟨k', o', h4, h5⟩ := pars_some h1 h2 HP.out
            rw [h4] at h3
            obtain ⟨l, rfl, hl⟩ := h3
            have F := Lib.hid h5
            have A := Lib.hid (no_all h5.1)
            replace T := Lib.hid (T.out.on hb)
            replace U := Lib.hid (IsEr.on hb U.out)
            have SL := Lib.hid hl
            clear hb h1 h2 h4 h5 hl PA RP HP
            have LY := Lib.hid (fun w1 (h : IsEr w1 e (.iface ut ux)) (hv : Env w1) => line_yes e _ w1 h F.out.2.2.1 F.out.2.2.2.1 hv)
            have K := Lib.hid (fun w1 (h : IsEr w1 e (.iface ut ux)) (hv : AsS.Ty w1) => t_kind e _ w1 h hv)
            have O := Lib.hid (fun w1 (h : IsEr w1 e (.iface ut ux)) (hv : AsF.Ty w1) => t_off e _ w1 h hv)
            have NN := Lib.hid (fun w1 (h : IsEr w1 e (.iface ut ux)) => t_notes (some e) _ w1 h F.out.2.2.2.1)
            rw [F.out.2.1] at LY
            rw [A.out.1, kindV] at K
            rw [A.out.2.1, offV] at O
            have er : (x.toList == x.toList) = true := by simp
            go_wp2_with fail
            refine (LY.out _ U.out T.out.2.1.1).mono ?_
            rintro q y3 ⟨rfl, hb⟩
            replace T := Lib.hid (T.out.on hb)
            replace U := Lib.hid (IsEr.on hb U.out)
            replace SL := Lib.hid (SL.out.on hb)
            clear hb
            go_wp2_with fail
            refine (K.out _ U.out T.out.2.1.2).mono ?_
            rintro q y4 ⟨rfl, hb⟩
            replace T := Lib.hid (T.out.on hb)
            replace U := Lib.hid (IsEr.on hb U.out)
            replace SL := Lib.hid (SL.out.on hb)
            clear hb
            go_wp2_with fail
            refine (O.out _ U.out T.out.2.1.place).mono ?_
            rintro q y5 ⟨rfl, hb⟩
            replace T := Lib.hid (T.out.on hb)
            replace U := Lib.hid (IsEr.on hb U.out)
            replace SL := Lib.hid (SL.out.on hb)
            clear hb
            go_wp2_with fail
            refine (NN.out _ U.out).mono ?_
            rintro q y6 ⟨⟨l3, rfl, hl3⟩, hb⟩
            replace T := Lib.hid (T.out.on hb)
            have EQ := Lib.hid (t_equal l3 l e.words e.words y6 hl3 (SL.out.on hb) (by have := F.out.2.2.2.2; omega) (by have := F.out.2.2.2.2; omega))
            rw [decide_eq_true (rfl : e.words = e.words)] at EQ
            clear hb hl3 SL U
            go_wp2_with fail
            refine EQ.out.mono ?_
            rintro q y7 ⟨rfl, hb⟩
            replace T := Lib.hid (T.out.on hb)
            clear hb EQ
            go_wp2
            go_roundg (2 - (1 + 1))
            case measure => decide
            case rel => exact ⟨1 + 1, by decide, rfl, by go_num, T⟩
        · clear hj
          go_wp2
          go_ret
          exact ⟨rfl, T.out.2.2⟩
    · have BE := Lib.hid (bE_all k o xs)
      have BU := Lib.hid (fun w1 (h : Strs w1 v xs) => t_build k o hk0 xs v w1 h Q.out.1 Q.out.2)
      generalize bE k o xs = e at *
      clear hk0
      have LY := Lib.hid (fun u w1 (h : IsEr w1 e u) (hv : Env w1) => line_yes e u w1 h (BE.out.2.2.2.2.2 KO.out.1 KO.out.2) (by have := BE.out.2.2.2.1; omega) hv)
      obtain ⟨x1, hx1⟩ : ∃ x1 : ByteArray, x1 = e.line := ⟨_, rfl⟩
      have S1 := Lib.hid (show x1.size ≤ 4000 by
        rw [hx1, no_line BE.out.1]
        have := lineW_le KO.out.1 KO.out.2 e.words BE.out.2.2.2.2.1
        have := BE.out.2.2.1
        omega)
      rw [← hx1] at LY
      clear hx1
      go_enter Tryz.func4, Tryz.ntmps4
      go_wp2_with fail
      refine N.out.mono ?_
      rintro q w1 ⟨rfl, hb1⟩
      go_wp2_with fail
      refine (H.out _ hb1).mono ?_
      rintro q w2 ⟨rfl, hb2⟩
      have B2 := Lib.hid (hb1.trans (hb2.mono hb1.size))
      clear hb1 hb2 N H
      go_wp2_with fail
      refine (BU.out _ (G.out.1.on B2.out)).mono ?_
      rintro q w3 ⟨⟨u, l, rfl, hu, -⟩, hb3⟩
      have B3 := Lib.hid (B2.out.trans (hb3.mono B2.out.size))
      have U := Lib.hid hu
      clear hb3 B2 hu BU
      go_wp2_with fail
      refine (LY.out _ _ U.out (G.out.2.below B3.out).1).mono ?_
      rintro q w4 ⟨rfl, hb⟩
      have B4 := Lib.hid (B3.out.trans (hb.mono B3.out.size))
      clear hb B3 LY U BE
      have B5 := Lib.hid (B4.out.trans ((below_alloc w4 (.cells #[.string s, .string x1] 9)).mono B4.out.size))
      have n5 := Blk.new w4 9 #[.string s, .string x1] rfl
      have L5 : Hid (Li w (w4.alloc (.cells #[.string s, .string x1] 9)) w4.heap.size s x1) := Lib.hid ⟨⟨n5.lt, n5.cell (j := 0) rfl, n5.cell (j := 1) rfl⟩, G.out.2.below B5.out, B5.out⟩
      clear n5 B4 B5 Q KO G hs'
      go_wp2
      generalize w4.heap.size = g at *
      generalize w4.alloc (.cells #[.string s, .string x1] 9) = w5 at *
      go_loopg [52] (2) (fun gg v52 wr => ∃ j : Nat, j ≤ 2 ∧ gg = 2 - j ∧ v52 = .int .i64 j ∧ Hid (Li w wr g s x1))
      case atStart => exact ⟨0, by decide, rfl, rfl, L5⟩
      case round =>
        obtain ⟨j, hj, rfl, rfl, T⟩ := hrel
        clear L5
        rcases (show j = 0 ∨ j = 1 ∨ j = 2 by omega) with rfl | rfl | rfl
        · have cx := T.out.1.2.1
          obtain ⟨x, hx⟩ : ∃ x : ByteArray, x = s := ⟨_, rfl⟩
          have SX := Lib.hid (show x.size ≤ 4000 by rw [hx]; exact S0.out)
          rw [← hx] at cx
          clear hj hx
          have PA := Lib.hid (fun w1 hv => t_parse x SX.out w1 hv)
          have RP := Lib.hid (fun w1 => r_parse x SX.out w1)
          cases hp : parseE x with
          | none =>
            rw [hp] at PA
            have HP := Lib.hid hp
            clear hp
            go_wp2_with fail
            refine (PA.out _ T.out.2.1.1).mono ?_
            rintro q y1 ⟨hq, hb⟩
            cases hq
            replace T := Lib.hid (T.out.on hb)
            clear hb
            go_wp2_with fail
            refine (RP.out _).mono ?_
            rintro q y2 ⟨⟨ws, r, h1, h2, h3⟩, hb⟩
            rw [pars_of h1 h2 HP.out] at h3
            cases h3
            replace T := Lib.hid (T.out.on hb)
            clear hb h1 h2
            go_wp2
            go_roundg (2 - (0 + 1))
            case measure => decide
            case rel => exact ⟨0 + 1, by decide, rfl, by go_num, T⟩
          | some e =>
            rw [hp] at PA
            have HP := Lib.hid hp
            clear hp
            go_wp2_with fail
            refine (PA.out _ T.out.2.1.1).mono ?_
            rintro q y1 ⟨hq, hb⟩
            obtain ⟨u, rfl, hu⟩ := hq
            obtain ⟨ut, ux, rfl⟩ := hu.iface
            replace T := Lib.hid (T.out.on hb)
            have U := Lib.hid hu
            clear hb hu
            go_wp2_with fail
            refine (RP.out _).mono ?_
            rintro q y2 ⟨⟨ws, r, h1, h2, h3⟩, hb⟩
            obtain ⟨k', o', h4, h5⟩ := pars_some h1 h2 HP.out
            rw [h4] at h3
            obtain ⟨l, rfl, hl⟩ := h3
            have F := Lib.hid h5
            have A := Lib.hid (no_all h5.1)
            replace T := Lib.hid (T.out.on hb)
            replace U := Lib.hid (IsEr.on hb U.out)
            have SL := Lib.hid hl
            clear hb h1 h2 h4 h5 hl PA RP HP
            have LY := Lib.hid (fun w1 (h : IsEr w1 e (.iface ut ux)) (hv : Env w1) => line_yes e _ w1 h F.out.2.2.1 F.out.2.2.2.1 hv)
            have K := Lib.hid (fun w1 (h : IsEr w1 e (.iface ut ux)) (hv : AsS.Ty w1) => t_kind e _ w1 h hv)
            have O := Lib.hid (fun w1 (h : IsEr w1 e (.iface ut ux)) (hv : AsF.Ty w1) => t_off e _ w1 h hv)
            have NN := Lib.hid (fun w1 (h : IsEr w1 e (.iface ut ux)) => t_notes (some e) _ w1 h F.out.2.2.2.1)
            rw [F.out.2.1] at LY
            rw [A.out.1, kindV] at K
            rw [A.out.2.1, offV] at O
            have er : (x.toList == x.toList) = true := by simp
            go_wp2_with fail
            refine (LY.out _ U.out T.out.2.1.1).mono ?_
            rintro q y3 ⟨rfl, hb⟩
            replace T := Lib.hid (T.out.on hb)
            replace U := Lib.hid (IsEr.on hb U.out)
            replace SL := Lib.hid (SL.out.on hb)
            clear hb
            go_wp2_with fail
            refine (K.out _ U.out T.out.2.1.2).mono ?_
            rintro q y4 ⟨rfl, hb⟩
            replace T := Lib.hid (T.out.on hb)
            replace U := Lib.hid (IsEr.on hb U.out)
            replace SL := Lib.hid (SL.out.on hb)
            clear hb
            go_wp2_with fail
            refine (O.out _ U.out T.out.2.1.place).mono ?_
            rintro q y5 ⟨rfl, hb⟩
            replace T := Lib.hid (T.out.on hb)
            replace U := Lib.hid (IsEr.on hb U.out)
            replace SL := Lib.hid (SL.out.on hb)
            clear hb
            go_wp2_with fail
            refine (NN.out _ U.out).mono ?_
            rintro q y6 ⟨⟨l3, rfl, hl3⟩, hb⟩
            replace T := Lib.hid (T.out.on hb)
            have EQ := Lib.hid (t_equal l3 l e.words e.words y6 hl3 (SL.out.on hb) (by have := F.out.2.2.2.2; omega) (by have := F.out.2.2.2.2; omega))
            rw [decide_eq_true (rfl : e.words = e.words)] at EQ
            clear hb hl3 SL U
            go_wp2_with fail
            refine EQ.out.mono ?_
            rintro q y7 ⟨rfl, hb⟩
            replace T := Lib.hid (T.out.on hb)
            clear hb EQ
            go_wp2
            go_roundg (2 - (0 + 1))
            case measure => decide
            case rel => exact ⟨0 + 1, by decide, rfl, by go_num, T⟩
        · have cx := T.out.1.2.2
          obtain ⟨x, hx⟩ : ∃ x : ByteArray, x = x1 := ⟨_, rfl⟩
          have SX := Lib.hid (show x.size ≤ 4000 by rw [hx]; exact S1.out)
          rw [← hx] at cx
          clear hj hx
          have PA := Lib.hid (fun w1 hv => t_parse x SX.out w1 hv)
          have RP := Lib.hid (fun w1 => r_parse x SX.out w1)
          cases hp : parseE x with
          | none =>
            rw [hp] at PA
            have HP := Lib.hid hp
            clear hp
            go_wp2_with fail
            refine (PA.out _ T.out.2.1.1).mono ?_
            rintro q y1 ⟨hq, hb⟩
            cases hq
            replace T := Lib.hid (T.out.on hb)
            clear hb
            go_wp2_with fail
            refine (RP.out _).mono ?_
            rintro q y2 ⟨⟨ws, r, h1, h2, h3⟩, hb⟩
            rw [pars_of h1 h2 HP.out] at h3
            cases h3
            replace T := Lib.hid (T.out.on hb)
            clear hb h1 h2
            go_wp2
            go_roundg (2 - (1 + 1))
            case measure => decide
            case rel => exact ⟨1 + 1, by decide, rfl, by go_num, T⟩
          | some e =>
            rw [hp] at PA
            have HP := Lib.hid hp
            clear hp
            go_wp2_with fail
            refine (PA.out _ T.out.2.1.1).mono ?_
            rintro q y1 ⟨hq, hb⟩
            obtain ⟨u, rfl, hu⟩ := hq
            obtain ⟨ut, ux, rfl⟩ := hu.iface
            replace T := Lib.hid (T.out.on hb)
            have U := Lib.hid hu
            clear hb hu
            go_wp2_with fail
            refine (RP.out _).mono ?_
            rintro q y2 ⟨⟨ws, r, h1, h2, h3⟩, hb⟩
            obtain ⟨k', o', h4, h5⟩ := pars_some h1 h2 HP.out
            rw [h4] at h3
            obtain ⟨l, rfl, hl⟩ := h3
            have F := Lib.hid h5
            have A := Lib.hid (no_all h5.1)
            replace T := Lib.hid (T.out.on hb)
            replace U := Lib.hid (IsEr.on hb U.out)
            have SL := Lib.hid hl
            clear hb h1 h2 h4 h5 hl PA RP HP
            have LY := Lib.hid (fun w1 (h : IsEr w1 e (.iface ut ux)) (hv : Env w1) => line_yes e _ w1 h F.out.2.2.1 F.out.2.2.2.1 hv)
            have K := Lib.hid (fun w1 (h : IsEr w1 e (.iface ut ux)) (hv : AsS.Ty w1) => t_kind e _ w1 h hv)
            have O := Lib.hid (fun w1 (h : IsEr w1 e (.iface ut ux)) (hv : AsF.Ty w1) => t_off e _ w1 h hv)
            have NN := Lib.hid (fun w1 (h : IsEr w1 e (.iface ut ux)) => t_notes (some e) _ w1 h F.out.2.2.2.1)
            rw [F.out.2.1] at LY
            rw [A.out.1, kindV] at K
            rw [A.out.2.1, offV] at O
            have er : (x.toList == x.toList) = true := by simp
            go_wp2_with fail
            refine (LY.out _ U.out T.out.2.1.1).mono ?_
            rintro q y3 ⟨rfl, hb⟩
            replace T := Lib.hid (T.out.on hb)
            replace U := Lib.hid (IsEr.on hb U.out)
            replace SL := Lib.hid (SL.out.on hb)
            clear hb
            go_wp2_with fail
            refine (K.out _ U.out T.out.2.1.2).mono ?_
            rintro q y4 ⟨rfl, hb⟩
            replace T := Lib.hid (T.out.on hb)
            replace U := Lib.hid (IsEr.on hb U.out)
            replace SL := Lib.hid (SL.out.on hb)
            clear hb
            go_wp2_with fail
            refine (O.out _ U.out T.out.2.1.place).mono ?_
            rintro q y5 ⟨rfl, hb⟩
            replace T := Lib.hid (T.out.on hb)
            replace U := Lib.hid (IsEr.on hb U.out)
            replace SL := Lib.hid (SL.out.on hb)
            clear hb
            go_wp2_with fail
            refine (NN.out _ U.out).mono ?_
            rintro q y6 ⟨⟨l3, rfl, hl3⟩, hb⟩
            replace T := Lib.hid (T.out.on hb)
            have EQ := Lib.hid (t_equal l3 l e.words e.words y6 hl3 (SL.out.on hb) (by have := F.out.2.2.2.2; omega) (by have := F.out.2.2.2.2; omega))
            rw [decide_eq_true (rfl : e.words = e.words)] at EQ
            clear hb hl3 SL U
            go_wp2_with fail
            refine EQ.out.mono ?_
            rintro q y7 ⟨rfl, hb⟩
            replace T := Lib.hid (T.out.on hb)
            clear hb EQ
            go_wp2
            go_roundg (2 - (1 + 1))
            case measure => decide
            case rel => exact ⟨1 + 1, by decide, rfl, by go_num, T⟩
        · clear hj
          go_wp2
          go_ret
          exact ⟨rfl, T.out.2.2⟩
end Go.Proofs.YtcipgagpmglikaaGreatDoor
