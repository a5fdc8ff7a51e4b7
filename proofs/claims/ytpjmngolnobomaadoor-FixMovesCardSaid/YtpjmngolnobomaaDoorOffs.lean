/-
  Package fix: Offset, Delay.
-/
import Derived.Test.YtpjmngolnobomaaDoorFix
import Derived.Test.YtpjmngolnobomaaDoorBoxes
namespace Go.Proofs.YtpjmngolnobomaaDoor
open Go.RowKit Go.Sort
def offVal (x1 x2 x3 x4 : Int) (i p : Nat) : Value :=
  match i with
  | 0 => wideV x1
  | 1 => .func (.func 55) #[] #[.pointer (some ⟨p, 0, none⟩)]
  | 2 => wideV x2
  | 3 => wideV (sat (x2 - x1))
  | 4 => wideV x4
  | 5 => .func (.func 55) #[] #[.pointer (some ⟨p, 0, none⟩)]
  | 6 => wideV x3
  | 7 => wideV (sat (x3 - x4))
  | 8 => .pointer (some ⟨p, 0, none⟩)
  | 9 => .pointer (some ⟨p, 0, none⟩)
  | _ => undef
def offObj (x1 x2 x3 x4 : Int) (i : Nat) : Obj :=
  match i with
  | 1 => wideO x1
  | 5 => wideO x4
  | 10 => wideO (sat (x2 - x1))
  | 11 => wideO (sat (x3 - x4))
  | _ => wideO 0
set_option maxHeartbeats 4000000 in
theorem f_offset (x1 x2 x3 x4 : Int) (h1 : In x1) (h2 : In x2) (h3 : In x3) (h4 : In x4) :
    Gives 18 #[wideV x1, wideV x2, wideV x3, wideV x4] (.int .i64 (clip (sat (sat (x2 - x1) + sat (x3 - x4)) / 2))) := fun w hg => by
  have H1 := Lib.hid h1
  have H2 := Lib.hid h2
  have H3 := Lib.hid h3
  have H4 := Lib.hid h4
  have G := Lib.hid hg
  clear h1 h2 h3 h4 hg
  unfold wideV
  go_enter Tryd.func18, Tryd.ntmps18
  go_upto_region 1 with fail
  have W := Lib.hid (four_boxes w x1 x2 x3 x4)
  unfold wideO at W
  generalize (((w.alloc (.cells #[.int .i64 (hiOf x1), .int .u64 (loOf x1)] 25)).alloc (.cells #[.int .i64 (hiOf x2), .int .u64 (loOf x2)] 25)).alloc (.cells #[.int .i64 (hiOf x3), .int .u64 (loOf x3)] 25)).alloc (.cells #[.int .i64 (hiOf x4), .int .u64 (loOf x4)] 25) = w0 at *
  refine wp_region_turns [.gives, .makes none, .gives, .gives, .gives, .makes none, .gives, .gives, .makes (some 10), .makes (some 11), .stores 8, .stores 9] (offVal x1 x2 x3 x4) (offObj x1 x2 x3 x4) (by kernel_rfl) (by kernel_rfl) rfl ?_ ?_
  · refine EachOp.cons (fun D own a w I hn hd => ?_) ?_
    · exact does_load rfl rfl 25 (.tmp 4) rfl _ ((I.was (by kernel_rfl)).trans rfl) 25 _ _ _ (I.blk W.out.1) Tryd.underlying25 rfl infoW rfl
    refine EachOp.cons (fun D own a w I hn hd => ?_) ?_
    · have e11 : a.eval (.tmp 11) = wideV x1 := I.get (i := 0) rfl (hd 0 (by kernel_rfl)) rfl rfl
      exact does_new_go rfl rfl rfl rfl Tryd.func41 (by kernel_rfl) (by kernel_rfl) #[wideV x1] (by simp [e11]) (since_any x1 w)
    refine EachOp.cons (fun D own a w I hn hd => ?_) ?_
    · exact does_load rfl rfl 25 (.tmp 5) rfl _ ((I.was (by kernel_rfl)).trans rfl) 25 _ _ _ (I.blk W.out.2.1) Tryd.underlying25 rfl infoW rfl
    refine EachOp.cons (fun D own a w I hn hd => ?_) ?_
    · have e12 : a.eval (.tmp 12) = .func (.func 55) #[] #[.pointer (some ⟨own 1, 0, none⟩)] := I.get (i := 1) rfl (hd 1 (by kernel_rfl)) rfl rfl
      have e13 : a.eval (.tmp 13) = wideV x2 := I.get (i := 2) rfl (hd 2 (by kernel_rfl)) rfl rfl
      have m1 : WideAt w (own 1) x1 := I.made 1 (hd 1 (by kernel_rfl)) rfl
      exact does_go rfl rfl rfl e12 Tryd.func55 (by kernel_rfl) (by kernel_rfl) #[wideV x2, .pointer (some ⟨own 1, 0, none⟩)] (by simp [e13]) (since_call x1 x2 H1.out H2.out (own 1) w (G.out.below (W.out.2.2.2.2.trans (I.below.mono W.out.2.2.2.2.size))) m1.at)
    refine EachOp.cons (fun D own a w I hn hd => ?_) ?_
    · exact does_load rfl rfl 25 (.tmp 7) rfl _ ((I.was (by kernel_rfl)).trans rfl) 25 _ _ _ (I.blk W.out.2.2.2.1) Tryd.underlying25 rfl infoW rfl
    refine EachOp.cons (fun D own a w I hn hd => ?_) ?_
    · have e15 : a.eval (.tmp 15) = wideV x4 := I.get (i := 4) rfl (hd 4 (by kernel_rfl)) rfl rfl
      exact does_new_go rfl rfl rfl rfl Tryd.func41 (by kernel_rfl) (by kernel_rfl) #[wideV x4] (by simp [e15]) (since_any x4 w)
    refine EachOp.cons (fun D own a w I hn hd => ?_) ?_
    · exact does_load rfl rfl 25 (.tmp 6) rfl _ ((I.was (by kernel_rfl)).trans rfl) 25 _ _ _ (I.blk W.out.2.2.1) Tryd.underlying25 rfl infoW rfl
    refine EachOp.cons (fun D own a w I hn hd => ?_) ?_
    · have e16 : a.eval (.tmp 16) = .func (.func 55) #[] #[.pointer (some ⟨own 5, 0, none⟩)] := I.get (i := 5) rfl (hd 5 (by kernel_rfl)) rfl rfl
      have e17 : a.eval (.tmp 17) = wideV x3 := I.get (i := 6) rfl (hd 6 (by kernel_rfl)) rfl rfl
      have m5 : WideAt w (own 5) x4 := I.made 5 (hd 5 (by kernel_rfl)) rfl
      exact does_go rfl rfl rfl e16 Tryd.func55 (by kernel_rfl) (by kernel_rfl) #[wideV x3, .pointer (some ⟨own 5, 0, none⟩)] (by simp [e17]) (since_call x4 x3 H4.out H3.out (own 5) w (G.out.below (W.out.2.2.2.2.trans (I.below.mono W.out.2.2.2.2.size))) m5.at)
    refine EachOp.cons (fun D own a w I hn hd => ?_) ?_
    · exact does_alloc rfl rfl (by go_simp; exact ⟨rfl, rfl⟩)
    refine EachOp.cons (fun D own a w I hn hd => ?_) ?_
    · exact does_alloc rfl rfl (by go_simp; exact ⟨rfl, rfl⟩)
    refine EachOp.cons (fun D own a w I hn hd => ?_) ?_
    · have e9 : a.eval (.tmp 9) = .pointer (some ⟨own 8, 0, none⟩) := I.get (i := 8) rfl (hd 8 (by kernel_rfl)) rfl rfl
      have e14 : a.eval (.tmp 14) = wideV (sat (x2 - x1)) := I.get (i := 3) rfl (hd 3 (by kernel_rfl)) rfl rfl
      exact does_store rfl rfl rfl 25 (.tmp 9) (.tmp 14) rfl _ e9 e14 25 _ (I.fresh (hd 8 (by kernel_rfl)) rfl hn) infoW rfl (by kernel_rfl) rfl
    refine EachOp.cons (fun D own a w I hn hd => ?_) EachOp.nil
    have e10 : a.eval (.tmp 10) = .pointer (some ⟨own 9, 0, none⟩) := I.get (i := 9) rfl (hd 9 (by kernel_rfl)) rfl rfl
    have e18 : a.eval (.tmp 18) = wideV (sat (x3 - x4)) := I.get (i := 7) rfl (hd 7 (by kernel_rfl)) rfl rfl
    exact does_store rfl rfl rfl 25 (.tmp 10) (.tmp 18) rfl _ e10 e18 25 _ (I.fresh (hd 9 (by kernel_rfl)) rfl hn) infoW rfl (by kernel_rfl) rfl
  · intro own w1 H
    have A := Lib.hid (show WideAt w1 (own 8) (sat (x2 - x1)) from H.made 8 rfl rfl)
    have B := Lib.hid (show WideAt w1 (own 9) (sat (x3 - x4)) from H.made 9 rfl rfl)
    have S := Lib.hid (W.out.2.2.2.2.trans (H.below.mono W.out.2.2.2.2.size))
    refine (by assumption : ∀ (a : Act) (w : World), Code.wp Tryd.prog _ _ a w → _) _ _ ?_
    simp only [putAll, Act.put, List.setIfInBounds_toArray, List.set_cons_zero, List.set_cons_succ, Nat.zero_add, Nat.reduceAdd, offVal, wideV]
    generalize own 8 = p at *
    generalize own 9 = q at *
    obtain ⟨a0, a1, lp⟩ := A.out.at
    obtain ⟨b0, b1, lq⟩ := B.out.at
    have A2 := Lib.hid (g_add (sat (x2 - x1)) (sat (x3 - x4)) (sat_in _) (sat_in _))
    have L2 := Lib.hid (g_half (sat (sat (x2 - x1) + sat (x3 - x4))))
    have C2 := Lib.hid (g_clip (sat (sat (x2 - x1) + sat (x3 - x4)) / 2) (half_in (sat_in _)))
    clear H A B lp lq W
    go_wp2_with (first
      | (go_at_call 23; refine (A2.out _ (G.out.below S.out)).mono ?_; rintro e w2 ⟨rfl, hb⟩; have S2 := Lib.hid (S.out.trans (hb.mono S.out.size)); clear hb)
      | (go_at_call 42; refine (L2.out _ (G.out.below S2.out)).mono ?_; rintro e w3 ⟨rfl, hb⟩; have S3 := Lib.hid (S2.out.trans (hb.mono S2.out.size)); clear hb)
      | (go_at_call 26; refine (C2.out _ (G.out.below S3.out)).mono ?_; rintro e w4 ⟨rfl, hb⟩; have S4 := Lib.hid (S3.out.trans (hb.mono S3.out.size)); clear hb))
    go_ret
    exact ⟨rfl, S4.out⟩
def delVal (x1 x2 x3 x4 : Int) (i p : Nat) : Value :=
  match i with
  | 0 => wideV x1
  | 1 => .func (.func 55) #[] #[.pointer (some ⟨p, 0, none⟩)]
  | 2 => wideV x4
  | 3 => wideV (sat (x4 - x1))
  | 4 => wideV x2
  | 5 => .func (.func 55) #[] #[.pointer (some ⟨p, 0, none⟩)]
  | 6 => wideV x3
  | 7 => wideV (sat (x3 - x2))
  | 8 => .pointer (some ⟨p, 0, none⟩)
  | 9 => .pointer (some ⟨p, 0, none⟩)
  | _ => undef
def delObj (x1 x2 x3 x4 : Int) (i : Nat) : Obj :=
  match i with
  | 1 => wideO x1
  | 5 => wideO x2
  | 10 => wideO (sat (x4 - x1))
  | 11 => wideO (sat (x3 - x2))
  | _ => wideO 0
set_option maxHeartbeats 4000000 in
theorem f_delay (x1 x2 x3 x4 : Int) (h1 : In x1) (h2 : In x2) (h3 : In x3) (h4 : In x4) :
    Gives 20 #[wideV x1, wideV x2, wideV x3, wideV x4] (.int .i64 (clip (sat (sat (x4 - x1) - sat (x3 - x2))))) := fun w hg => by
  have H1 := Lib.hid h1
  have H2 := Lib.hid h2
  have H3 := Lib.hid h3
  have H4 := Lib.hid h4
  have G := Lib.hid hg
  clear h1 h2 h3 h4 hg
  unfold wideV
  go_enter Tryd.func20, Tryd.ntmps20
  go_upto_region 1 with fail
  have W := Lib.hid (four_boxes w x1 x2 x3 x4)
  unfold wideO at W
  generalize (((w.alloc (.cells #[.int .i64 (hiOf x1), .int .u64 (loOf x1)] 25)).alloc (.cells #[.int .i64 (hiOf x2), .int .u64 (loOf x2)] 25)).alloc (.cells #[.int .i64 (hiOf x3), .int .u64 (loOf x3)] 25)).alloc (.cells #[.int .i64 (hiOf x4), .int .u64 (loOf x4)] 25) = w0 at *
  refine wp_region_turns [.gives, .makes none, .gives, .gives, .gives, .makes none, .gives, .gives, .makes (some 10), .makes (some 11), .stores 8, .stores 9] (delVal x1 x2 x3 x4) (delObj x1 x2 x3 x4) (by kernel_rfl) (by kernel_rfl) rfl ?_ ?_
  · refine EachOp.cons (fun D own a w I hn hd => ?_) ?_
    · exact does_load rfl rfl 25 (.tmp 4) rfl _ ((I.was (by kernel_rfl)).trans rfl) 25 _ _ _ (I.blk W.out.1) Tryd.underlying25 rfl infoW rfl
    refine EachOp.cons (fun D own a w I hn hd => ?_) ?_
    · have e11 : a.eval (.tmp 11) = wideV x1 := I.get (i := 0) rfl (hd 0 (by kernel_rfl)) rfl rfl
      exact does_new_go rfl rfl rfl rfl Tryd.func41 (by kernel_rfl) (by kernel_rfl) #[wideV x1] (by simp [e11]) (since_any x1 w)
    refine EachOp.cons (fun D own a w I hn hd => ?_) ?_
    · exact does_load rfl rfl 25 (.tmp 7) rfl _ ((I.was (by kernel_rfl)).trans rfl) 25 _ _ _ (I.blk W.out.2.2.2.1) Tryd.underlying25 rfl infoW rfl
    refine EachOp.cons (fun D own a w I hn hd => ?_) ?_
    · have e12 : a.eval (.tmp 12) = .func (.func 55) #[] #[.pointer (some ⟨own 1, 0, none⟩)] := I.get (i := 1) rfl (hd 1 (by kernel_rfl)) rfl rfl
      have e13 : a.eval (.tmp 13) = wideV x4 := I.get (i := 2) rfl (hd 2 (by kernel_rfl)) rfl rfl
      have m1 : WideAt w (own 1) x1 := I.made 1 (hd 1 (by kernel_rfl)) rfl
      exact does_go rfl rfl rfl e12 Tryd.func55 (by kernel_rfl) (by kernel_rfl) #[wideV x4, .pointer (some ⟨own 1, 0, none⟩)] (by simp [e13]) (since_call x1 x4 H1.out H4.out (own 1) w (G.out.below (W.out.2.2.2.2.trans (I.below.mono W.out.2.2.2.2.size))) m1.at)
    refine EachOp.cons (fun D own a w I hn hd => ?_) ?_
    · exact does_load rfl rfl 25 (.tmp 5) rfl _ ((I.was (by kernel_rfl)).trans rfl) 25 _ _ _ (I.blk W.out.2.1) Tryd.underlying25 rfl infoW rfl
    refine EachOp.cons (fun D own a w I hn hd => ?_) ?_
    · have e15 : a.eval (.tmp 15) = wideV x2 := I.get (i := 4) rfl (hd 4 (by kernel_rfl)) rfl rfl
      exact does_new_go rfl rfl rfl rfl Tryd.func41 (by kernel_rfl) (by kernel_rfl) #[wideV x2] (by simp [e15]) (since_any x2 w)
    refine EachOp.cons (fun D own a w I hn hd => ?_) ?_
    · exact does_load rfl rfl 25 (.tmp 6) rfl _ ((I.was (by kernel_rfl)).trans rfl) 25 _ _ _ (I.blk W.out.2.2.1) Tryd.underlying25 rfl infoW rfl
    refine EachOp.cons (fun D own a w I hn hd => ?_) ?_
    · have e16 : a.eval (.tmp 16) = .func (.func 55) #[] #[.pointer (some ⟨own 5, 0, none⟩)] := I.get (i := 5) rfl (hd 5 (by kernel_rfl)) rfl rfl
      have e17 : a.eval (.tmp 17) = wideV x3 := I.get (i := 6) rfl (hd 6 (by kernel_rfl)) rfl rfl
      have m5 : WideAt w (own 5) x2 := I.made 5 (hd 5 (by kernel_rfl)) rfl
      exact does_go rfl rfl rfl e16 Tryd.func55 (by kernel_rfl) (by kernel_rfl) #[wideV x3, .pointer (some ⟨own 5, 0, none⟩)] (by simp [e17]) (since_call x2 x3 H2.out H3.out (own 5) w (G.out.below (W.out.2.2.2.2.trans (I.below.mono W.out.2.2.2.2.size))) m5.at)
    refine EachOp.cons (fun D own a w I hn hd => ?_) ?_
    · exact does_alloc rfl rfl (by go_simp; exact ⟨rfl, rfl⟩)
    refine EachOp.cons (fun D own a w I hn hd => ?_) ?_
    · exact does_alloc rfl rfl (by go_simp; exact ⟨rfl, rfl⟩)
    refine EachOp.cons (fun D own a w I hn hd => ?_) ?_
    · have e9 : a.eval (.tmp 9) = .pointer (some ⟨own 8, 0, none⟩) := I.get (i := 8) rfl (hd 8 (by kernel_rfl)) rfl rfl
      have e14 : a.eval (.tmp 14) = wideV (sat (x4 - x1)) := I.get (i := 3) rfl (hd 3 (by kernel_rfl)) rfl rfl
      exact does_store rfl rfl rfl 25 (.tmp 9) (.tmp 14) rfl _ e9 e14 25 _ (I.fresh (hd 8 (by kernel_rfl)) rfl hn) infoW rfl (by kernel_rfl) rfl
    refine EachOp.cons (fun D own a w I hn hd => ?_) EachOp.nil
    have e10 : a.eval (.tmp 10) = .pointer (some ⟨own 9, 0, none⟩) := I.get (i := 9) rfl (hd 9 (by kernel_rfl)) rfl rfl
    have e18 : a.eval (.tmp 18) = wideV (sat (x3 - x2)) := I.get (i := 7) rfl (hd 7 (by kernel_rfl)) rfl rfl
    exact does_store rfl rfl rfl 25 (.tmp 10) (.tmp 18) rfl _ e10 e18 25 _ (I.fresh (hd 9 (by kernel_rfl)) rfl hn) infoW rfl (by kernel_rfl) rfl
  · intro own w1 H
    have A := Lib.hid (show WideAt w1 (own 8) (sat (x4 - x1)) from H.made 8 rfl rfl)
    have B := Lib.hid (show WideAt w1 (own 9) (sat (x3 - x2)) from H.made 9 rfl rfl)
    have S := Lib.hid (W.out.2.2.2.2.trans (H.below.mono W.out.2.2.2.2.size))
    refine (by assumption : ∀ (a : Act) (w : World), Code.wp Tryd.prog _ _ a w → _) _ _ ?_
    simp only [putAll, Act.put, List.setIfInBounds_toArray, List.set_cons_zero, List.set_cons_succ, Nat.zero_add, Nat.reduceAdd, delVal, wideV]
    generalize own 8 = p at *
    generalize own 9 = q at *
    obtain ⟨a0, a1, lp⟩ := A.out.at
    obtain ⟨b0, b1, lq⟩ := B.out.at
    have A2 := Lib.hid (g_sub (sat (x4 - x1)) (sat (x3 - x2)) (sat_in _) (sat_in _))
    have C2 := Lib.hid (g_clip (sat (sat (x4 - x1) - sat (x3 - x2))) (sat_in _))
    clear H A B lp lq W
    go_wp2_with (first
      | (go_at_call 27; refine (A2.out _ (G.out.below S.out)).mono ?_; rintro e w2 ⟨rfl, hb⟩; have S2 := Lib.hid (S.out.trans (hb.mono S.out.size)); clear hb)
      | (go_at_call 26; refine (C2.out _ (G.out.below S2.out)).mono ?_; rintro e w3 ⟨rfl, hb⟩; have S3 := Lib.hid (S2.out.trans (hb.mono S2.out.size)); clear hb))
    go_ret
    exact ⟨rfl, S3.out⟩
end Go.Proofs.YtpjmngolnobomaaDoor
