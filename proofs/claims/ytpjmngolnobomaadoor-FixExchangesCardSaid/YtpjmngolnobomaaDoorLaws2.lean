/-
  FixMoments, FixParts, FixExchanges: walked.
-/
import Derived.Test.YtpjmngolnobomaaDoorKnown2
import Derived.Test.YtpjmngolnobomaaDoorRef2d
namespace Go.Proofs.YtpjmngolnobomaaDoor
open Go.RowKit Go.Sort
theorem Four.on {w w1 w2 : World} {x1 x2 x3 x4 : Int} (h : Four w x1 x2 x3 x4 w1) (hb : Below w1.heap.size w1 w2) : Four w x1 x2 x3 x4 w2 :=
  ⟨h.1.on hb, h.2.1.on hb, h.2.2.1.on hb, h.2.2.2.1.on hb, h.2.2.2.2.trans (hb.mono h.2.2.2.2.size)⟩
set_option maxHeartbeats 4000000 in
theorem fixMoments_any (s f h x : Int) (hs : -9223372036854775808 ≤ s ∧ s ≤ 9223372036854775807) (hf : 0 ≤ f ∧ f ≤ 4294967295) (hh : 0 ≤ h ∧ h ≤ 4294967295) (hx : In x) (w : World) (hg : Glob w) :
    Calls Tryd.prog 3 #[.int .i64 s, .int .u32 f, .int .u32 h, (.agg #[.int .i64 (hiOf x), .int .u64 (loOf x)])] w fun e w' => e = .returned (.bool true) ∧ Below w.heap.size w w' := by
  have K := Lib.hid g_known2
  have A1 := Lib.hid (f_split x hx)
  have A2 := Lib.hid (r2_split x hx)
  have M1 := Lib.hid (f_moment s f hs hf)
  have M2 := Lib.hid (r2_moment s f hs hf)
  have SH := Lib.hid (f_short h hh.1 hh.2)
  have c1 : IntKind.i64.wrap h = h := by rw [IntKind.wrap_i64]; omega
  have c2 : IntKind.i64.wrap (h * 65536) = h * 65536 := by rw [IntKind.wrap_i64]; omega
  have h0 := hh.1
  have h1 := hh.2
  have G := Lib.hid hg
  have W0 := Lib.hid (show WideAt (w.alloc (.cells #[.int .i64 (hiOf x), .int .u64 (loOf x)] 25)) w.heap.size x from row_new _ _ rfl)
  have hb : Below w.heap.size w (w.alloc (.cells #[.int .i64 (hiOf x), .int .u64 (loOf x)] 25)) := by (repeat (first | (with_reducible exact Below.refl _ _) | (with_reducible assumption) | (with_reducible refine Below.drew ?_) | (with_reducible refine below_drewN ?_ _) | ((with_reducible refine Below.alloc ?_ ?_ _); rotate_left; (focus (first | (simp; done) | (simp; omega) | omega))) | ((with_reducible refine Below.setCell ?_ ?_ _); rotate_left; (focus (first | (simp; done) | (simp; omega) | omega))) | ((with_reducible refine Below.trans ?_ (Below.mono (by assumption) ?_)); rotate_left; (focus (first | (simp; done) | (simp; omega) | omega)))))
  clear hg hs hf hh hx
  go_enter Tryd.func3, Tryd.ntmps3
  go_upto_region 1 with fail
  generalize w.alloc (.cells #[.int .i64 (hiOf x), .int .u64 (loOf x)] 25) = w0 at *
  go_wp2_with fail
  refine (K.out _ (G.out.below hb)).mono ?_
  rintro e w1 ⟨rfl, hb2⟩
  have W1 := Lib.hid (W0.out.on hb2)
  replace hb := hb.trans (hb2.mono hb.size)
  clear hb2 W0
  obtain ⟨a0, a1, _⟩ := W1.out.at
  go_wp2_with fail
  refine (A1.out _ (G.out.below hb)).mono ?_
  rintro e w2 ⟨rfl, hb2⟩
  have W2 := Lib.hid (W1.out.on hb2)
  replace hb := hb.trans (hb2.mono hb.size)
  clear hb2 W1 a0 a1
  obtain ⟨a0, a1, _⟩ := W2.out.at
  go_wp2_with fail
  refine (A2.out _ (G.out.below hb)).mono ?_
  rintro e w3 ⟨rfl, hb2⟩
  replace hb := hb.trans (hb2.mono hb.size)
  clear hb2 a0 a1
  go_wp2_with fail
  refine (M1.out _ (G.out.below hb)).mono ?_
  rintro e w4 ⟨rfl, hb2⟩
  replace hb := hb.trans (hb2.mono hb.size)
  clear hb2
  go_wp2_with fail
  refine (M2.out _ (G.out.below hb)).mono ?_
  rintro e w5 ⟨rfl, hb2⟩
  replace hb := hb.trans (hb2.mono hb.size)
  clear hb2
  go_wp2_with fail
  refine (SH.out _ (G.out.below hb)).mono ?_
  rintro e w6 ⟨rfl, hb2⟩
  replace hb := hb.trans (hb2.mono hb.size)
  clear hb2
  go_wp2
  go_ret
  exact ⟨rfl, hb⟩
set_option maxHeartbeats 4000000 in
theorem fixParts_any (n d f : Int) (hn : 0 ≤ n ∧ n ≤ 18446744073709551615) (hd : 0 ≤ d ∧ d ≤ 18446744073709551615) (hf : 0 ≤ f ∧ f ≤ 4294967295) (w : World) (hg : Glob w) :
    Calls Tryd.prog 4 #[.int .u64 n, .int .u64 d, .int .u32 f] w fun e w' => e = .returned (.bool true) ∧ Below w.heap.size w w' := by
  have K := Lib.hid g_known2
  have A1 := Lib.hid (f_frac n d hn hd)
  have A2 := Lib.hid (f_parts f d hf hd)
  have A3 := Lib.hid (r2_frac n d hn hd)
  have A4 := Lib.hid (r2_parts f d hf hd)
  have G := Lib.hid hg
  have hb : Below w.heap.size w w := Below.refl _ _
  clear hg hn hd hf
  generalize fracI n d = x at *
  generalize partsI f d = y at *
  generalize withinB n d = s at *
  generalize withinB 0 d = t at *
  go_enter Tryd.func4, Tryd.ntmps4
  go_wp2_with fail
  refine (K.out _ (G.out.below hb)).mono ?_
  rintro e w1 ⟨rfl, hb2⟩
  replace hb := hb.trans (hb2.mono hb.size)
  clear hb2
  go_wp2_with fail
  refine (A1.out _ (G.out.below hb)).mono ?_
  rintro e w1 ⟨rfl, hb2⟩
  replace hb := hb.trans (hb2.mono hb.size)
  clear hb2
  go_wp2_with fail
  refine (A2.out _ (G.out.below hb)).mono ?_
  rintro e w1 ⟨rfl, hb2⟩
  replace hb := hb.trans (hb2.mono hb.size)
  clear hb2
  go_wp2_with fail
  refine (A3.out _ (G.out.below hb)).mono ?_
  rintro e w1 ⟨rfl, hb2⟩
  replace hb := hb.trans (hb2.mono hb.size)
  clear hb2
  go_wp2_with fail
  refine (A4.out _ (G.out.below hb)).mono ?_
  rintro e w1 ⟨rfl, hb2⟩
  replace hb := hb.trans (hb2.mono hb.size)
  clear hb2
  go_wp2
  go_ret
  exact ⟨rfl, hb⟩
set_option maxHeartbeats 4000000 in
theorem fixExchanges_any (x1 x2 x3 x4 : Int) (h1 : In x1) (h2 : In x2) (h3 : In x3) (h4 : In x4) (w : World) (hg : Glob w) :
    Calls Tryd.prog 5 #[wideV x1, wideV x2, wideV x3, wideV x4] w fun e w' => e = .returned (.bool true) ∧ Below w.heap.size w w' := by
  have K := Lib.hid g_known2
  have O1 := Lib.hid (f_offset x1 x2 x3 x4 h1 h2 h3 h4)
  have O2 := Lib.hid (r2_offset x1 x2 x3 x4 h1 h2 h3 h4)
  have D1 := Lib.hid (f_delay x1 x2 x3 x4 h1 h2 h3 h4)
  have D2 := Lib.hid (r2_delay x1 x2 x3 x4 h1 h2 h3 h4)
  have G := Lib.hid hg
  unfold wideV at *
  clear hg h1 h2 h3 h4
  generalize clip (sat (sat (x2 - x1) + sat (x3 - x4)) / 2) = o at *
  generalize clip (sat (sat (x4 - x1) - sat (x3 - x2))) = d at *
  go_enter Tryd.func5, Tryd.ntmps5
  go_upto_region 1 with fail
  have W := Lib.hid (four_boxes w x1 x2 x3 x4)
  unfold wideO at W
  generalize (((w.alloc (.cells #[.int .i64 (hiOf x1), .int .u64 (loOf x1)] 25)).alloc (.cells #[.int .i64 (hiOf x2), .int .u64 (loOf x2)] 25)).alloc (.cells #[.int .i64 (hiOf x3), .int .u64 (loOf x3)] 25)).alloc (.cells #[.int .i64 (hiOf x4), .int .u64 (loOf x4)] 25) = w0 at *
  go_wp2_with fail
  refine (K.out _ (G.out.below W.out.2.2.2.2)).mono ?_
  rintro e w1 ⟨rfl, hb⟩
  have W1 := Lib.hid (W.out.on hb)
  clear hb W
  obtain ⟨a0, a1⟩ := W1.out.1.at.q
  obtain ⟨b0, b1⟩ := W1.out.2.1.at.q
  obtain ⟨c0, c1⟩ := W1.out.2.2.1.at.q
  obtain ⟨d0, d1⟩ := W1.out.2.2.2.1.at.q
  have S := Lib.hid W1.out.2.2.2.2
  have G1 := Lib.hid (G.out.below S.out)
  clear W1 G
  go_upto_region 3 with fail
  refine wp_region_quiet_below (by kernel_rfl) (by kernel_rfl) ?_
  repeat (go_big_quiet_step (first | (with_reducible exact (O1.out.quiet G1.out _ _)) | (with_reducible exact (O2.out.quiet G1.out _ _)) | (with_reducible exact (D1.out.quiet G1.out _ _)) | (with_reducible exact (D2.out.quiet G1.out _ _))))
  (refine wpQuiet_nil ?_; intro _ hw'; obtain ⟨⟨dq, osq⟩, hw''⟩ := hw'; subst hw'')
  go_wp2
  go_ret
  exact ⟨rfl, S.out.trans ((below_quiet dq osq).mono S.out.size)⟩
end Go.Proofs.YtpjmngolnobomaaDoor
