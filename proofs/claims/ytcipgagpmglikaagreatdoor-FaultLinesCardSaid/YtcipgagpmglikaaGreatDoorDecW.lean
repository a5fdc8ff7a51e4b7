/-
  DecWide: the text of a wide number.
-/
import Derived.Test.YtcipgagpmglikaaGreatDoorSay
import Derived.Test.YtcipgagpmglikaaGreatDoorRegion2
namespace Go.Proofs.YtcipgagpmglikaaGreatDoor
open Go.RowKit Go.Sort
theorem drop_extract (l : List UInt8) (n : Nat) (h : n = l.length) : (⟨l.toArray⟩ : ByteArray).extract 1 n = ⟨(l.drop 1).toArray⟩ := by
  subst h
  refine bytes_eq ?_
  simp
  exact List.take_of_length_le (by simp)
theorem txt_group (x q : Int) (r : Int) (hr0 : 0 ≤ r) (hq : q ≠ 0) (hx : x.natAbs = q.natAbs * 1000000000000000000 + r.toNat) (hr : r < 1000000000000000000) (hs : q < 0 ↔ x < 0) (n : Nat) (hn : n = (txt (1000000000000000000 + r)).size) :
    txt q ++ (txt (1000000000000000000 + r)).extract 1 n = txt x := by
  refine bytes_eq ?_
  have e := itoa_group x q r.toNat hq hx (by omega) hs
  rw [show ((r.toNat : Nat) : Int) = r by omega] at e
  rw [txt_list, e, hn, txt_size]
  unfold txt
  rw [drop_extract _ _ rfl]
  simp
set_option maxRecDepth 8000
theorem clip_small {x : Int} (h : -9223372036854775808 ≤ x ∧ x ≤ 9223372036854775807) : clip x = x := by unfold clip; (repeat' split) <;> omega
theorem clip_bd (x : Int) : -9223372036854775808 ≤ clip x ∧ clip x ≤ 9223372036854775807 := by unfold clip; (repeat' split) <;> omega
theorem eq_wide (x y : Int) (W : World) : (binOp .eql 108 (wideV x) (wideV y)).run Tryz.prog W = .ok (.bool (decide (x = y))) W := by
  unfold wideV
  have e := split_eq x
  have f := split_eq y
  by_cases h : hiOf x = hiOf y
  · by_cases h2 : loOf x = loOf y
    · have : x = y := by omega
      subst this
      go_simp
    · have hn : ¬ x = y := by rintro rfl; exact h2 rfl
      have k1 : (hiOf x == hiOf y) = true := by simpa using h
      have k2 : (loOf x == loOf y) = false := by simpa using h2
      rw [decide_eq_false hn]
      clear h h2 hn e f
      go_simp
  · have hn : ¬ x = y := by rintro rfl; exact h rfl
    have k1 : (hiOf x == hiOf y) = false := by simpa using h
    rw [decide_eq_false hn]
    clear h hn e f
    go_simp
theorem hi_sign (x : Int) : decide (hiOf x < 0) = decide (x < 0) := by unfold hiOf; congr 1; apply propext; omega
theorem in_bd {n : Int} (h : In n) : -170141183460469231731687303715884105728 ≤ n ∧ n ≤ 170141183460469231731687303715884105727 := by unfold In at h; omega
/-- The number and its group, above -2^127 .. -10^18. -/
theorem group_up {x q r : Int} (hx : In x) (hf : ¬ (-9223372036854775808 ≤ x ∧ x ≤ 9223372036854775807)) (hq : q = x / 1000000000000000000) (hr : r = x % 1000000000000000000) (hn : x < 0) (h0 : 0 < r) :
    In q ∧ In (q + 1) ∧ (0 < r ∧ r < 1000000000000000000) ∧ (q + 1).natAbs < x.natAbs ∧ ∀ n : Nat, n = (txt (1000000000000000000 + (1000000000000000000 - r))).size → txt (q + 1) ++ (txt (1000000000000000000 + (1000000000000000000 - r))).extract 1 n = txt x := by
  unfold In at *
  refine ⟨by omega, by omega, by omega, by omega, ?_⟩
  exact txt_group x (q + 1) (1000000000000000000 - r) (by omega) (by omega) (by omega) (by omega) (by omega)
theorem group_on {x q r : Int} (hx : In x) (hf : ¬ (-9223372036854775808 ≤ x ∧ x ≤ 9223372036854775807)) (hq : q = x / 1000000000000000000) (hr : r = x % 1000000000000000000) (hn : 0 ≤ x ∨ r = 0) :
    In q ∧ (0 ≤ r ∧ r < 1000000000000000000) ∧ q.natAbs < x.natAbs ∧ ∀ n : Nat, n = (txt (1000000000000000000 + r)).size → txt q ++ (txt (1000000000000000000 + r)).extract 1 n = txt x := by
  unfold In at *
  refine ⟨by omega, by omega, by omega, ?_⟩
  exact txt_group x q r (by omega) (by omega) (by omega) (by omega) (by omega)
def upVal (q r : Int) (i _p : Nat) : Value :=
  match i with
  | 0 => wideV q
  | 1 => wideV 1
  | 2 => wideV (q + 1)
  | 3 => .int .u64 r
  | 4 => .int .u64 (1000000000000000000 - r)
  | 6 => .int .u64 (1000000000000000000 - r)
  | _ => undef
def upObj (q : Int) (i : Nat) : Obj :=
  match i with
  | 5 => wideO (q + 1)
  | _ => wideO q
set_option maxHeartbeats 2000000 in
theorem t_decwide (n : Nat) : ∀ x : Int, x.natAbs = n → In x → Says 59 #[wideV x] (.string (txt x)) := by
  induction n using Nat.strongRecOn with
  | _ n ih =>
    intro x hn hx w hw
    have C := Lib.hid (g_clip x hx)
    have O := Lib.hid (g_of (clip x) (clip_bd x))
    have G := Lib.hid hw
    have W : Hid (WideAt (w.alloc (wideO x)) w.heap.size x ∧ Below w.heap.size w (w.alloc (wideO x))) := Lib.hid ⟨by unfold WideAt; exact row_new _ _ rfl, below_alloc _ _⟩
    have IH := Lib.hid ih
    have N := Lib.hid hn
    have X := Lib.hid hx
    have B := Lib.hid (clip_bd x)
    have E := eq_wide (clip x) x
    unfold wideO at W
    unfold wideV at E ⊢
    by_cases hf : clip x = x
    · have D := Lib.hid ((t_dec (clip x) B.out).as rfl (v' := .string (txt x)) (by rw [hf]))
      rw [decide_eq_true hf] at E
      clear hw ih hn hx hf
      go_enter Tryz.func59, Tryz.ntmps59
      go_upto_region 1 with fail
      generalize w.alloc (.cells #[.int .i64 (hiOf x), .int .u64 (loOf x)] 108) = w0 at *
      have b0 := W.out.1.at.1
      have b1 := W.out.1.at.2.1
      go_upto_region 2 with (refine (C.out _ (G.out.1.below W.out.2)).mono ?_; rintro e w1 ⟨rfl, hb⟩; have W1 := Lib.hid (show WideAt w1 w.heap.size x ∧ Below w.heap.size w w1 from ⟨W.out.1.on hb, W.out.2.trans (hb.mono W.out.2.size)⟩); clear hb W b0 b1)
      obtain ⟨a0, a1⟩ := W1.out.1.at.q
      have G1 := Lib.hid (show Glob w1 from (G.out.below W1.out.2).1)
      generalize clip x = y at *
      refine wp_region_quiet_below (by kernel_rfl) (by kernel_rfl) ?_
      repeat (go_big_quiet_step (exact (O.out.quiet G1.out _ _)))
      (refine wpQuiet_nil ?_; intro _ hw'; obtain ⟨⟨dq, osq⟩, hw''⟩ := hw'; subst hw'')
      have hb := below_quiet (W := w1) dq osq
      have W2 := Lib.hid (W1.out.2.trans (hb.mono W1.out.2.size))
      clear hb W1 a0 a1
      generalize grow (redrawn w1 dq) osq = w2 at *
      go_wp2_with fail
      refine (D.out _ (G.out.below W2.out)).mono ?_
      rintro e w3 ⟨rfl, hb⟩
      go_wp2
      go_ret
      exact ⟨rfl, W2.out.trans (hb.mono W2.out.size)⟩
    · have D := Lib.hid ((g_div x 1000000000000000000 hx ⟨by omega, by omega⟩ (by omega)).as rfl (v' := .tuple #[wideV (x / 1000000000000000000), .int .u64 (x % 1000000000000000000), .bool true]) rfl)
      rw [decide_eq_false hf] at E
      have F := Lib.hid (show ¬ (-9223372036854775808 ≤ x ∧ x ≤ 9223372036854775807) from fun h => hf (clip_small h))
      unfold wideV at D
      obtain ⟨q, hq⟩ : ∃ q, q = x / 1000000000000000000 := ⟨_, rfl⟩
      obtain ⟨r, hr⟩ : ∃ r, r = x % 1000000000000000000 := ⟨_, rfl⟩
      rw [← hq, ← hr] at D
      have Q := Lib.hid (show q = x / 1000000000000000000 ∧ r = x % 1000000000000000000 from ⟨hq, hr⟩)
      clear hw ih hn hx hf hq hr
      go_enter Tryz.func59, Tryz.ntmps59
      go_upto_region 1 with fail
      generalize w.alloc (.cells #[.int .i64 (hiOf x), .int .u64 (loOf x)] 108) = w0 at *
      have b0 := W.out.1.at.1
      have b1 := W.out.1.at.2.1
      go_upto_region 2 with (refine (C.out _ (G.out.1.below W.out.2)).mono ?_; rintro e w1 ⟨rfl, hb⟩; have W1 := Lib.hid (show WideAt w1 w.heap.size x ∧ Below w.heap.size w w1 from ⟨W.out.1.on hb, W.out.2.trans (hb.mono W.out.2.size)⟩); clear hb W b0 b1)
      obtain ⟨a0, a1⟩ := W1.out.1.at.q
      have G1 := Lib.hid (show Glob w1 from (G.out.below W1.out.2).1)
      generalize clip x = y at *
      refine wp_region_quiet_below (by kernel_rfl) (by kernel_rfl) ?_
      repeat (go_big_quiet_step (exact (O.out.quiet G1.out _ _)))
      (refine wpQuiet_nil ?_; intro _ hw'; obtain ⟨⟨dq, osq⟩, hw''⟩ := hw'; subst hw'')
      have hb := below_quiet (W := w1) dq osq
      have W2 := Lib.hid (show WideAt (grow (redrawn w1 dq) osq) w.heap.size x ∧ Below w.heap.size w (grow (redrawn w1 dq) osq) from ⟨W1.out.1.on hb, W1.out.2.trans (hb.mono W1.out.2.size)⟩)
      clear hb W1 a0 a1 G1 O E
      generalize grow (redrawn w1 dq) osq = w2 at *
      have b0 := W2.out.1.at.1
      have b1 := W2.out.1.at.2.1
      go_upto_region 5 with (go_at_call 73; refine (D.out _ (G.out.1.below W2.out.2)).mono ?_; rintro e w3 ⟨rfl, hb⟩; have W3 := Lib.hid (show WideAt w3 w.heap.size x ∧ Below w.heap.size w w3 from ⟨W2.out.1.on hb, W2.out.2.trans (hb.mono W2.out.2.size)⟩); clear hb W2 b0 b1)
      have W4 : Hid (WideAt (w3.alloc (wideO q)) w.heap.size x ∧ WideAt (w3.alloc (wideO q)) w3.heap.size q ∧ Below w.heap.size w (w3.alloc (wideO q)) ∧ w.heap.size < w3.heap.size) := Lib.hid ⟨W3.out.1.alloc _, by unfold WideAt; exact row_new _ _ rfl, W3.out.2.alloc W3.out.2.size _, W3.out.1.at.2.2⟩
      unfold wideO at W4
      generalize w3.alloc (.cells #[.int .i64 (hiOf q), .int .u64 (loOf q)] 108) = w4 at *
      generalize w3.heap.size = p at *
      clear W3
      have b0 := W4.out.1.at.1
      by_cases hs : x < 0 ∧ 0 < r
      · have k0 : decide (hiOf x < 0) = true := by rw [hi_sign]; simp [hs.1]
        have k1 : decide (0 < r) = true := by simp [hs.2]
        have O1 := Lib.hid ((g_of 1 (by omega)).as rfl (v' := wideV 1) rfl)
        have q0 := Lib.hid (group_up X.out F.out Q.out.1 Q.out.2 hs.1 hs.2)
        have A1 := Lib.hid ((g_add q 1 q0.out.1 (by unfold In; omega)).as rfl (v' := wideV (q + 1)) (by rw [sat_id q0.out.2.1]; rfl))
        have H1 := Lib.hid (IH.out (q + 1).natAbs (by have := q0.out.2.2.2.1; have := N.out; omega) (q + 1) rfl q0.out.2.1)
        have T1 := Lib.hid (q0.out.2.2.2.2)
        have U1 := Lib.hid (t_unsigned (1000000000000000000 + (1000000000000000000 - r)) (by have := q0.out.2.2.1; omega))
        have rr := q0.out.2.2.1
        have Z := Lib.hid (in_bd q0.out.2.1)
        have rw1 : IntKind.u64.wrap (1000000000000000000 - r) = 1000000000000000000 - r := by rw [IntKind.wrap_u64]; omega
        clear hs q0 Q X F N IH
        go_upto_region 6 with fail
        refine wp_region_turns_into p [.gives, .gives, .gives, .gives, .gives, .stores 7, .gives, .makes (some 5)] (upVal q r) (upObj q) (by kernel_rfl) (by kernel_rfl) (by kernel_rfl) rfl W4.out.2.1 ?_ ?_
        · refine EachOp.cons (fun D own a w' I hn hd => ?_) ?_
          · have o7 : D 7 = true ∧ own 7 = _ := I.there 0 _ rfl
            have n5 : D 5 = false := I.notYet (j := 5) rfl (by kernel_rfl) hn
            have bq := I.fresh o7.1 rfl n5
            rw [o7.2] at bq
            exact does_load rfl rfl 108 (.tmp 4) rfl _ ((I.was (by kernel_rfl)).trans rfl) 108 _ _ _ bq Tryz.underlying108 rfl infoW rfl
          refine EachOp.cons (fun D own a w' I hn hd => ?_) ?_
          · exact does_go rfl rfl rfl rfl Tryz.func48 (by kernel_rfl) (by kernel_rfl) #[.int .i64 1] (by simp <;> rfl) (O1.out w' (G.out.1.below (W4.out.2.2.1.trans (I.below.mono (by have := W4.out.2.2.2; omega)))))
          refine EachOp.cons (fun D own a w' I hn hd => ?_) ?_
          · have e28 : a.eval (.tmp 28) = wideV q := I.get (i := 0) rfl (hd 0 (by kernel_rfl)) rfl rfl
            have e29 : a.eval (.tmp 29) = wideV 1 := I.get (i := 1) rfl (hd 1 (by kernel_rfl)) rfl rfl
            exact does_go rfl rfl rfl rfl Tryz.func74 (by kernel_rfl) (by kernel_rfl) #[wideV q, wideV 1] (by simp [e28, e29] <;> rfl) (A1.out w' (G.out.1.below (W4.out.2.2.1.trans (I.below.mono (by have := W4.out.2.2.2; omega)))))
          refine EachOp.cons (fun D own a w' I hn hd => ?_) ?_
          · have n6 : D 6 = false := I.notYet (j := 6) rfl (by kernel_rfl) hn
            have e5 : a.eval (.tmp 5) = .int .u64 r := (I.was' n6 (by kernel_rfl)).trans rfl
            have e5p : a.tmps[5]?.getD undef = .int .u64 r := by simpa [Act.eval] using e5
            exact does_value rfl rfl (by go_simp; rfl)
          refine EachOp.cons (fun D own a w' I hn hd => ?_) ?_
          · have e31 : a.eval (.tmp 31) = .int .u64 r := I.get (i := 3) rfl (hd 3 (by kernel_rfl)) rfl rfl
            have e31p : a.tmps[31]?.getD undef = .int .u64 r := by simpa [Act.eval] using e31
            exact does_value rfl rfl (by go_simp; rfl)
          refine EachOp.cons (fun D own a w' I hn hd => ?_) ?_
          · have o7 : D 7 = true ∧ own 7 = _ := I.there 0 _ rfl
            have e4 : a.eval (.tmp 4) = .pointer (some ⟨own 7, 0, none⟩) := by rw [o7.2]; exact (I.was (by kernel_rfl)).trans rfl
            have e30 : a.eval (.tmp 30) = wideV (q + 1) := I.get (i := 2) rfl (hd 2 (by kernel_rfl)) rfl rfl
            exact does_store rfl rfl rfl 108 (.tmp 4) (.tmp 30) rfl _ e4 e30 108 _ (I.fresh o7.1 rfl hn) infoW rfl (by kernel_rfl) rfl
          refine EachOp.cons (fun D own a w' I hn hd => ?_) EachOp.nil
          · have e32 : a.eval (.tmp 32) = .int .u64 (1000000000000000000 - r) := I.get (i := 4) rfl (hd 4 (by kernel_rfl)) rfl rfl
            have e32p : a.tmps[32]?.getD undef = .int .u64 (1000000000000000000 - r) := by simpa [Act.eval] using e32
            exact does_value rfl rfl (by go_simp; rfl)
        · intro own w5 H
          have o7 : own 7 = p := (H.there 0 _ rfl).2
          have R := H.made 7 rfl rfl
          rw [o7] at R
          have R := Lib.hid (show WideAt w5 p (q + 1) from R)
          have S5 := Lib.hid (W4.out.2.2.1.trans (H.below.mono (by have := W4.out.2.2.2; omega)))
          refine (by assumption : ∀ (a : Act) (w : World), Code.wp Tryz.prog _ _ a w → _) _ _ ?_
          simp only [putAll, Act.put, List.setIfInBounds_toArray, List.set_cons_zero, List.set_cons_succ, Nat.zero_add, Nat.reduceAdd, upVal, wideV]
          obtain ⟨r0, r1, _⟩ := R.out.at
          clear H o7 W4 b0 A1 O1
          generalize q + 1 = q' at *
          go_wp2_with fail
          refine (H1.out _ (G.out.below S5.out)).mono ?_
          rintro e w6 ⟨rfl, hb⟩
          have S6 := Lib.hid (S5.out.trans (hb.mono S5.out.size))
          have z1 : (1 : Int) ≤ ((txt (1000000000000000000 + (1000000000000000000 - r))).size : Nat) := by rw [txt_size]; have := itoa_length_pos (1000000000000000000 + (1000000000000000000 - r)); omega
          have z2 : (txt (1000000000000000000 + (1000000000000000000 - r))).size ≤ 40 := by rw [txt_size]; exact itoa_length_le (by omega)
          have z3 : (txt q').size ≤ 40 := by rw [txt_size]; exact itoa_length_le Z.out
          have T2 := Lib.hid (T1.out _ rfl)
          generalize hu : txt (1000000000000000000 + (1000000000000000000 - r)) = u at *
          generalize txt q' = q2 at *
          clear T1
          go_wp2_with fail
          refine (U1.out _ (G.out.below S6.out)).mono ?_
          rintro e w7 ⟨rfl, hb⟩
          have S7 := Lib.hid (S6.out.trans (hb.mono S6.out.size))
          clear hb
          go_wp2
          go_ret
          exact ⟨by rw [T2.out]; rfl, S7.out⟩
      · have sp : (x < 0 ∧ r = 0) ∨ 0 ≤ x := by have := Q.out.2; omega
        have q0 := Lib.hid (group_on X.out F.out Q.out.1 Q.out.2 (by omega))
        have H1 := Lib.hid (IH.out q.natAbs (by have := q0.out.2.2.1; have := N.out; omega) q rfl q0.out.1)
        have T1 := Lib.hid (q0.out.2.2.2)
        have rr := q0.out.2.1
        have U1 := Lib.hid (t_unsigned (1000000000000000000 + r) (by omega))
        have Z := Lib.hid (in_bd q0.out.1)
        have z1 : (1 : Int) ≤ ((txt (1000000000000000000 + r)).size : Nat) := by rw [txt_size]; have := itoa_length_pos (1000000000000000000 + r); omega
        have z2 : (txt (1000000000000000000 + r)).size ≤ 40 := by rw [txt_size]; exact itoa_length_le (by omega)
        have z3 : (txt q).size ≤ 40 := by rw [txt_size]; exact itoa_length_le Z.out
        have T2 := Lib.hid (T1.out _ rfl)
        clear hs q0 Q X F N IH T1
        generalize hu : txt (1000000000000000000 + r) = u at *
        generalize txt q = q2 at *
        obtain ⟨r0, r1, _⟩ := W4.out.2.1.at
        rcases sp with ⟨k0, rfl⟩ | k0
        · have k1 : decide (hiOf x < 0) = true := by rw [hi_sign]; simp [k0]
          clear k0
          go_upto_region 7 with fail
          go_wp2_with fail
          refine (H1.out _ (G.out.below W4.out.2.2.1)).mono ?_
          rintro e w6 ⟨rfl, hb⟩
          have S6 := Lib.hid (W4.out.2.2.1.trans (hb.mono W4.out.2.2.1.size))
          clear hb
          go_wp2_with fail
          refine (U1.out _ (G.out.below S6.out)).mono ?_
          rintro e w7 ⟨rfl, hb⟩
          have S7 := Lib.hid (S6.out.trans (hb.mono S6.out.size))
          clear hb
          go_wp2
          go_ret
          exact ⟨by rw [T2.out]; rfl, S7.out⟩
        · have k1 : decide (hiOf x < 0) = false := by rw [hi_sign]; simp; omega
          clear k0
          go_upto_region 7 with fail
          go_wp2_with fail
          refine (H1.out _ (G.out.below W4.out.2.2.1)).mono ?_
          rintro e w6 ⟨rfl, hb⟩
          have S6 := Lib.hid (W4.out.2.2.1.trans (hb.mono W4.out.2.2.1.size))
          clear hb
          go_wp2_with fail
          refine (U1.out _ (G.out.below S6.out)).mono ?_
          rintro e w7 ⟨rfl, hb⟩
          have S7 := Lib.hid (S6.out.trans (hb.mono S6.out.size))
          clear hb
          go_wp2
          go_ret
          exact ⟨by rw [T2.out]; rfl, S7.out⟩
theorem t_decw (x : Int) (hx : In x) : Says 59 #[wideV x] (.string (txt x)) := t_decwide x.natAbs x rfl hx
end Go.Proofs.YtcipgagpmglikaaGreatDoor
