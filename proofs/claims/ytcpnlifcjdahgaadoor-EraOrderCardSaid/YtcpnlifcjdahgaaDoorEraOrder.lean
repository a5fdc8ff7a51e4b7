/-
  EraOrder: walked.
-/
import Derived.Test.YtcpnlifcjdahgaaDoorKnown3
import Derived.Test.YtcpnlifcjdahgaaDoorNear
namespace Go.Proofs.YtcpnlifcjdahgaaDoor
open Go.RowKit Go.Sort
def ordVal (s l h x y : Int) (i p : Nat) : Value :=
  match i with
  | 0 => .int .u64 s
  | 1 => wideV l
  | 2 => wideV x
  | 3 => .int .u64 s
  | 4 => wideV h
  | 5 => wideV y
  | 6 => .pointer (some ⟨p, 0, none⟩)
  | 7 => .pointer (some ⟨p, 0, none⟩)
  | _ => undef
def ordObj (x y : Int) (i : Nat) : Obj :=
  match i with
  | 8 => wideO x
  | 9 => wideO y
  | _ => wideO 0
set_option maxHeartbeats 8000000 in
theorem eraOrder_any (s a b t m f g : Int) (hs : 0 ≤ s ∧ s ≤ 18446744073709551615) (ha : In a) (hb : In b) (ht : 0 ≤ t ∧ t ≤ 18446744073709551615) (hm : 0 ≤ m ∧ m ≤ 18446744073709551615) (hf : 0 ≤ f ∧ f ≤ 4294967295) (hg1 : 0 ≤ g ∧ g ≤ 4294967295) (w : World) (hg : Glob w) :
    Calls Tryd.prog 5 #[.int .u64 s, wideV a, wideV b, .int .u64 t, .int .u64 m, .int .u32 f, .int .u32 g] w fun e w' => e = .returned (.bool true) ∧ Below w.heap.size w w' := by
  have K := Lib.hid g_known3
  have C1 := Lib.hid (g_cmp a b)
  have G := Lib.hid hg
  have X1 := Lib.hid (e_unix t f ht hf)
  have X2 := Lib.hid (e_unix m g hm hg1)
  have B1 := Lib.hid ((e_back (unixI t f) (unix_in ht hf)).as rfl (v' := .tuple #[.int .u64 t, .int .u32 f, .bool true]) (by rw [(unix_back ht hf).1, (unix_back ht hf).2.1, (unix_back ht hf).2.2]))
  have C3 := Lib.hid (g_cmp (unixI t f) (unixI m g))
  have LT := Lib.hid (unix_lt (s := t) (t := m) hf hg1)
  have HS := Lib.hid hs
  have HA := Lib.hid ha
  have HB := Lib.hid hb
  have W : Hid (WideAt ((w.alloc (wideO a)).alloc (wideO b)) w.heap.size a ∧ WideAt ((w.alloc (wideO a)).alloc (wideO b)) (w.heap.size + 1) b ∧ Below w.heap.size w ((w.alloc (wideO a)).alloc (wideO b))) := Lib.hid (by
    unfold WideAt
    refine ⟨?_, ?_, by unfold wideO; (repeat (first | (with_reducible exact Below.refl _ _) | (with_reducible assumption) | (with_reducible refine Below.drew ?_) | (with_reducible refine below_drewN ?_ _) | ((with_reducible refine Below.alloc ?_ ?_ _); rotate_left; (focus (first | (simp; done) | (simp; omega) | omega))) | ((with_reducible refine Below.setCell ?_ ?_ _); rotate_left; (focus (first | (simp; done) | (simp; omega) | omega))) | ((with_reducible refine Below.trans ?_ (Below.mono (by assumption) ?_)); rotate_left; (focus (first | (simp; done) | (simp; omega) | omega)))))⟩
    · rw [heap_alloc_old _ _ (by first | (simp; done) | (simp; omega) | omega)]; exact row_new _ _ rfl
    · exact row_new _ _ (by first | (simp; done) | (simp; omega) | omega))
  clear hs ha hb ht hm hf hg1 hg
  generalize unixI t f = u at *
  generalize unixI m g = v at *
  unfold wideO at W
  unfold wideV at X1 X2 B1
  unfold wideV
  go_enter Tryd.func5, Tryd.ntmps5
  go_upto_region 1 with fail
  generalize (w.alloc (.cells #[.int .i64 (hiOf a), .int .u64 (loOf a)] 25)).alloc (.cells #[.int .i64 (hiOf b), .int .u64 (loOf b)] 25) = w0 at *
  go_wp2_with fail
  refine (K.out _ (G.out.below W.out.2.2)).mono ?_
  rintro e w1 ⟨rfl, hb⟩
  have W1 := Lib.hid (show WideAt w1 w.heap.size a ∧ WideAt w1 (w.heap.size + 1) b ∧ Below w.heap.size w w1 from ⟨W.out.1.on hb, W.out.2.1.on hb, W.out.2.2.trans (hb.mono W.out.2.2.size)⟩)
  clear hb W
  obtain ⟨a0, a1, _⟩ := W1.out.1.at
  obtain ⟨b0, b1, _⟩ := W1.out.2.1.at
  go_wp2_with fail
  refine (C1.out _ (G.out.below W1.out.2.2)).mono ?_
  rintro e w2 ⟨rfl, hb⟩
  have W2 := Lib.hid (show WideAt w2 w.heap.size a ∧ WideAt w2 (w.heap.size + 1) b ∧ Below w.heap.size w w2 from ⟨W1.out.1.on hb, W1.out.2.1.on hb, W1.out.2.2.trans (hb.mono W1.out.2.2.size)⟩)
  clear hb W1 a0 a1 b0 b1
  go_upto_if 28 with fail
  go_cut [] from 25 to 30 (fun wr => ∃ l h : Int, l ≤ h ∧ In l ∧ In h ∧ Hid (WideAt wr w.heap.size l ∧ WideAt wr (w.heap.size + 1) h ∧ Below w.heap.size w wr))
  case first =>
    by_cases c : b < a
    · have j : decide (0 < sgn a b) = true := by simp; unfold sgn; split <;> (try split) <;> omega
      have j2 : 0 < sgn a b := by simpa using j
      obtain ⟨a0, a1, _⟩ := W2.out.1.at
      obtain ⟨b0, b1, _⟩ := W2.out.2.1.at
      have a2 := W2.out.1.free 0
      have a3 := W2.out.1.free 1
      have b2 := W2.out.2.1.free 0
      have b3 := W2.out.2.1.free 1
      go_wp2
      go_meet
      refine ⟨b, a, by omega, HB.out, HA.out, Lib.hid ⟨?_, ?_, ?_⟩⟩
      · exact ((W2.out.1.stored (x := b)).other (by simp) _).other (by simp) _
      · exact ((W2.out.2.1.other (by simp) _).other (by simp) _).stored (x := a)
      · have S := W2.out.2.2
        (repeat (first | (with_reducible exact Below.refl _ _) | (with_reducible assumption) | (with_reducible refine Below.drew ?_) | (with_reducible refine below_drewN ?_ _) | ((with_reducible refine Below.alloc ?_ ?_ _); rotate_left; (focus (first | (simp; done) | (simp; omega) | omega))) | ((with_reducible refine Below.setCell ?_ ?_ _); rotate_left; (focus (first | (simp; done) | (simp; omega) | omega))) | ((with_reducible refine Below.trans ?_ (Below.mono (by assumption) ?_)); rotate_left; (focus (first | (simp; done) | (simp; omega) | omega)))))
    · have j : decide (0 < sgn a b) = false := by simp; unfold sgn; split <;> (try split) <;> omega
      have j2 : ¬ 0 < sgn a b := by simpa using j
      go_wp2
      go_meet
      exact ⟨a, b, by omega, HA.out, HB.out, W2⟩
  case rest =>
  obtain ⟨l, h, lh, hl, hh, W3⟩ := hcut
  clear W2 C1 HA HB K
  have UL := Lib.hid (e_unfold s l HS.out hl)
  have UH := Lib.hid (e_unfold s h HS.out hh)
  have xy := Lib.hid (unfold_mono HS.out hl hh lh)
  have xs := Lib.hid (unfold_words HS.out hl).2
  have ys := Lib.hid (unfold_words HS.out hh).2
  have ap := Lib.hid (era_apart xs.out ys.out xy.out)
  clear lh hl hh
  generalize unfoldI s l = x at *
  generalize unfoldI s h = y at *
  go_upto_region 5 with fail
  refine wp_region_turns [.gives, .gives, .gives, .gives, .gives, .gives, .makes (some 8), .makes (some 9), .stores 6, .stores 7] (ordVal s l h x y) (ordObj x y) (by kernel_rfl) (by kernel_rfl) rfl ?_ ?_
  · refine EachOp.cons (fun D own a w' I hn hd => ?_) ?_
    · have e0 : a.eval (.tmp 0) = .int .u64 s := (I.was (by kernel_rfl)).trans rfl
      have e0p : a.tmps[0]?.getD undef = .int .u64 s := by simpa [Act.eval] using e0
      exact does_value rfl rfl (by go_simp; rfl)
    refine EachOp.cons (fun D own a w' I hn hd => ?_) ?_
    · exact does_load rfl rfl 25 (.tmp 8) rfl _ ((I.was (by kernel_rfl)).trans rfl) 25 _ _ _ (I.blk W3.out.1) Tryd.underlying25 rfl infoW rfl
    refine EachOp.cons (fun D own a w' I hn hd => ?_) ?_
    · have e31 : a.eval (.tmp 31) = .int .u64 s := I.get (i := 0) rfl (hd 0 (by kernel_rfl)) rfl rfl
      have e32 : a.eval (.tmp 32) = wideV l := I.get (i := 1) rfl (hd 1 (by kernel_rfl)) rfl rfl
      exact does_go rfl rfl rfl rfl Tryd.func11 (by kernel_rfl) (by kernel_rfl) #[.int .u64 s, wideV l] (by simp [e31, e32] <;> rfl) (UL.out w' (G.out.below (W3.out.2.2.trans (I.below.mono W3.out.2.2.size))))
    refine EachOp.cons (fun D own a w' I hn hd => ?_) ?_
    · have e0 : a.eval (.tmp 0) = .int .u64 s := (I.was (by kernel_rfl)).trans rfl
      have e0p : a.tmps[0]?.getD undef = .int .u64 s := by simpa [Act.eval] using e0
      exact does_value rfl rfl (by go_simp; rfl)
    refine EachOp.cons (fun D own a w' I hn hd => ?_) ?_
    · exact does_load rfl rfl 25 (.tmp 9) rfl _ ((I.was (by kernel_rfl)).trans rfl) 25 _ _ _ (I.blk W3.out.2.1) Tryd.underlying25 rfl infoW rfl
    refine EachOp.cons (fun D own a w' I hn hd => ?_) ?_
    · have e34 : a.eval (.tmp 34) = .int .u64 s := I.get (i := 3) rfl (hd 3 (by kernel_rfl)) rfl rfl
      have e35 : a.eval (.tmp 35) = wideV h := I.get (i := 4) rfl (hd 4 (by kernel_rfl)) rfl rfl
      exact does_go rfl rfl rfl rfl Tryd.func11 (by kernel_rfl) (by kernel_rfl) #[.int .u64 s, wideV h] (by simp [e34, e35] <;> rfl) (UH.out w' (G.out.below (W3.out.2.2.trans (I.below.mono W3.out.2.2.size))))
    refine EachOp.cons (fun D own a w' I hn hd => ?_) ?_
    · exact does_alloc rfl rfl (by go_simp; exact ⟨rfl, rfl⟩)
    refine EachOp.cons (fun D own a w' I hn hd => ?_) ?_
    · exact does_alloc rfl rfl (by go_simp; exact ⟨rfl, rfl⟩)
    refine EachOp.cons (fun D own a w' I hn hd => ?_) ?_
    · have e15 : a.eval (.tmp 15) = .pointer (some ⟨own 6, 0, none⟩) := I.get (i := 6) rfl (hd 6 (by kernel_rfl)) rfl rfl
      have e33 : a.eval (.tmp 33) = wideV x := I.get (i := 2) rfl (hd 2 (by kernel_rfl)) rfl rfl
      exact does_store rfl rfl rfl 25 (.tmp 15) (.tmp 33) rfl _ e15 e33 25 _ (I.fresh (hd 6 (by kernel_rfl)) rfl hn) infoW rfl (by kernel_rfl) rfl
    refine EachOp.cons (fun D own a w' I hn hd => ?_) EachOp.nil
    · have e16 : a.eval (.tmp 16) = .pointer (some ⟨own 7, 0, none⟩) := I.get (i := 7) rfl (hd 7 (by kernel_rfl)) rfl rfl
      have e36 : a.eval (.tmp 36) = wideV y := I.get (i := 5) rfl (hd 5 (by kernel_rfl)) rfl rfl
      exact does_store rfl rfl rfl 25 (.tmp 16) (.tmp 36) rfl _ e16 e36 25 _ (I.fresh (hd 7 (by kernel_rfl)) rfl hn) infoW rfl (by kernel_rfl) rfl
  intro own w4 H
  have P4 := Lib.hid (show WideAt w4 (own 6) x ∧ WideAt w4 (own 7) y ∧ Below w.heap.size w w4 from ⟨H.made 6 rfl rfl, H.made 7 rfl rfl, W3.out.2.2.trans (H.below.mono W3.out.2.2.size)⟩)
  refine (by assumption : ∀ (a : Act) (w : World), Code.wp Tryd.prog _ _ a w → _) _ _ ?_
  simp only [putAll, Act.put, List.setIfInBounds_toArray, List.set_cons_zero, List.set_cons_succ, Nat.zero_add, Nat.reduceAdd, ordVal, wideV]
  generalize own 6 = p at *
  generalize own 7 = q at *
  clear H W3 UL UH
  have C2 := Lib.hid (g_cmp x y)
  have N1 := Lib.hid (e_number x)
  have N2 := Lib.hid (e_number y)
  obtain ⟨a0, a1⟩ := P4.out.1.at.q
  obtain ⟨b0, b1⟩ := P4.out.2.1.at.q
  have G1 := Lib.hid (G.out.below P4.out.2.2)
  go_upto_region 6 with fail
  go_cut [59] from 37 to 59 (fun v wr => v = .bool false ∧ Hid (Below w.heap.size w wr))
  case first =>
    have c0 : decide (0 < sgn x y) = false := by have := xy.out; simp; unfold sgn; split <;> (try split) <;> omega
    rcases ap.out with e | lt
    · subst e
      refine wp_region_quiet_below (by kernel_rfl) (by kernel_rfl) ?_
      repeat (go_big_quiet_step (first | (with_reducible exact (C2.out.quiet G1.out _ _))))
      (refine wpQuiet_nil ?_; intro _ hw'; obtain ⟨⟨dq, osq⟩, hw''⟩ := hw'; subst hw'')
      go_wp2
      go_meet
      exact ⟨rfl, Lib.hid (P4.out.2.2.trans ((below_quiet dq osq).mono P4.out.2.2.size))⟩
    · have n0 : (loOf x == loOf y) = true := by rw [xs.out, ys.out]; simp
      have n0' : (loOf x != loOf y) = false := by rw [xs.out, ys.out]; simp
      have n1 : (hiOf x == hiOf y) = false := by simp; omega
      have n2 : ¬ hiOf x = hiOf y := by omega
      have n3 : decide (hiOf y ≤ hiOf x) = false := by simp; omega
      refine wp_region_quiet_below (by kernel_rfl) (by kernel_rfl) ?_
      repeat (go_big_quiet_step (first | (with_reducible exact (C2.out.quiet G1.out _ _)) | (with_reducible exact (N1.out.quiet G1.out _ _)) | (with_reducible exact (N2.out.quiet G1.out _ _))))
      (refine wpQuiet_nil ?_; intro _ hw'; obtain ⟨⟨dq, osq⟩, hw''⟩ := hw'; subst hw'')
      go_wp2
      go_meet
      exact ⟨rfl, Lib.hid (P4.out.2.2.trans ((below_quiet dq osq).mono P4.out.2.2.size))⟩
  case rest =>
  obtain ⟨rfl, W5⟩ := hcut
  clear P4 C2 N1 N2 a0 a1 b0 b1 G1 xy xs ys ap HS
  go_wp2_with fail
  refine (X1.out _ (G.out.below W5.out)).mono ?_
  rintro e w5 ⟨rfl, hb⟩
  have W6 := Lib.hid (W5.out.trans (hb.mono W5.out.size))
  clear hb W5
  go_wp2_with fail
  refine (X2.out _ (G.out.below W6.out)).mono ?_
  rintro e w6 ⟨rfl, hb⟩
  have W7 := Lib.hid (W6.out.trans (hb.mono W6.out.size))
  clear hb W6
  go_upto_region 9 with fail
  have W8 := Lib.hid (show WideAt ((w6.alloc (wideO u)).alloc (wideO v)) w6.heap.size u ∧ WideAt ((w6.alloc (wideO u)).alloc (wideO v)) (w6.heap.size + 1) v ∧ Below w.heap.size w ((w6.alloc (wideO u)).alloc (wideO v)) from
    ⟨WideAt.alloc (row_new _ _ rfl) _, row_new _ _ (by first | (simp; done) | (simp; omega) | omega), (W7.out.trans ((below_alloc w6 (wideO u)).mono W7.out.size)).trans ((below_alloc _ _).mono (W7.out.trans ((below_alloc w6 (wideO u)).mono W7.out.size)).size)⟩)
  unfold wideO at W8
  clear W7
  generalize (w6.alloc (.cells #[.int .i64 (hiOf u), .int .u64 (loOf u)] 25)).alloc (.cells #[.int .i64 (hiOf v), .int .u64 (loOf v)] 25) = w7 at *
  generalize w6.heap.size = c at *
  obtain ⟨a0, a1, _⟩ := W8.out.1.at
  go_wp2_with fail
  refine (B1.out _ (G.out.below W8.out.2.2)).mono ?_
  rintro e w8 ⟨rfl, hb⟩
  have W9 := Lib.hid (show WideAt w8 c u ∧ WideAt w8 (c + 1) v ∧ Below w.heap.size w w8 from ⟨W8.out.1.on hb, W8.out.2.1.on hb, W8.out.2.2.trans (hb.mono W8.out.2.2.size)⟩)
  clear hb W8 a0 a1
  have e3 : Hid (decide (sgn u v < 0) = decide (u < v)) := Lib.hid (by congr 1; apply propext; unfold sgn; split <;> (try split) <;> omega)
  go_upto_region 12 with fail
  go_cut [22] from 84 to 96 (fun z wr => z = .bool (decide (u < v)) ∧ wr = w8)
  case first =>
    by_cases k1 : t < m
    · have j := Lib.hid (decide_eq_true (LT.out.2 (Or.inl k1)))
      go_wp2
      go_meet
      exact ⟨by rw [j.out], rfl⟩
    · by_cases k2 : t = m
      · by_cases k3 : f < g
        · have j := Lib.hid (decide_eq_true (LT.out.2 (Or.inr ⟨k2, k3⟩)))
          subst k2
          go_wp2
          go_meet
          exact ⟨by rw [j.out], rfl⟩
        · have j := Lib.hid (decide_eq_false (fun h => by have := LT.out.1 h; omega : ¬ u < v))
          subst k2
          go_wp2
          go_meet
          exact ⟨by rw [j.out], rfl⟩
      · have j := Lib.hid (decide_eq_false (fun h => by have := LT.out.1 h; omega : ¬ u < v))
        go_wp2
        go_meet
        exact ⟨by rw [j.out], rfl⟩
  case rest =>
  obtain ⟨rfl, rfl⟩ := hcut
  generalize decide (u < v) = z at *
  obtain ⟨a0, a1, _⟩ := W9.out.1.at
  obtain ⟨b0, b1, _⟩ := W9.out.2.1.at
  go_wp2_with fail
  refine (C3.out _ (G.out.below W9.out.2.2)).mono ?_
  rintro e w9 ⟨rfl, hb⟩
  have e3 := e3.out
  go_wp2
  go_ret
  exact ⟨rfl, W9.out.2.2.trans (hb.mono W9.out.2.2.size)⟩
end Go.Proofs.YtcpnlifcjdahgaaDoor
