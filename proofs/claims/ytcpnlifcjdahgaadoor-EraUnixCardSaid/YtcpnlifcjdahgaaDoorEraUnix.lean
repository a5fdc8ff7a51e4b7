/-
  EraUnix: walked.
-/
import Derived.Test.YtcpnlifcjdahgaaDoorKnown3
import Derived.Test.YtcpnlifcjdahgaaDoorRef3b
namespace Go.Proofs.YtcpnlifcjdahgaaDoor
open Go.RowKit Go.Sort
set_option maxHeartbeats 4000000 in
theorem eraUnix_any (s f x : Int) (hs : 0 ≤ s ∧ s ≤ 18446744073709551615) (hf : 0 ≤ f ∧ f ≤ 4294967295) (hx : In x) (w : World) (hg : Glob w) :
    Calls Tryd.prog 3 #[.int .u64 s, .int .u32 f, wideV x] w fun e w' => e = .returned (.bool true) ∧ Below w.heap.size w w' := by
  have K := Lib.hid g_known3
  have B1 := Lib.hid (e_back x hx)
  have B2 := Lib.hid (r3_back x hx)
  have U1 := Lib.hid (e_unix s f hs hf)
  have U2 := Lib.hid (r3_unix s f hs hf)
  have G := Lib.hid hg
  have W : Hid (WideAt (w.alloc (wideO x)) w.heap.size x ∧ Below w.heap.size w (w.alloc (wideO x))) := Lib.hid ⟨row_new _ _ rfl, below_alloc _ _⟩
  clear hs hf hx hg
  generalize unixI s f = u at *
  generalize backS x = bs at *
  generalize backF x = bf at *
  generalize backOk x = bo at *
  unfold wideO at W
  unfold wideV at *
  go_enter Tryd.func3, Tryd.ntmps3
  go_upto_region 1 with fail
  generalize w.alloc (.cells #[.int .i64 (hiOf x), .int .u64 (loOf x)] 25) = w0 at *
  go_wp2_with fail
  refine (K.out _ (G.out.below W.out.2)).mono ?_
  rintro e w1 ⟨rfl, hb⟩
  have W1 := Lib.hid (show WideAt w1 w.heap.size x ∧ Below w.heap.size w w1 from ⟨W.out.1.on hb, W.out.2.trans (hb.mono W.out.2.size)⟩)
  clear hb W
  obtain ⟨a0, a1, _⟩ := W1.out.1.at
  go_wp2_with fail
  refine (B1.out _ (G.out.below W1.out.2)).mono ?_
  rintro e w2 ⟨rfl, hb⟩
  have W2 := Lib.hid (show WideAt w2 w.heap.size x ∧ Below w.heap.size w w2 from ⟨W1.out.1.on hb, W1.out.2.trans (hb.mono W1.out.2.size)⟩)
  clear hb W1 a0 a1
  obtain ⟨a0, a1, _⟩ := W2.out.1.at
  go_wp2_with fail
  refine (B2.out _ (G.out.below W2.out.2)).mono ?_
  rintro e w3 ⟨rfl, hb⟩
  have W3 := Lib.hid (W2.out.2.trans (hb.mono W2.out.2.size))
  clear hb W2 a0 a1
  go_wp2_with fail
  refine (U1.out _ (G.out.below W3.out)).mono ?_
  rintro e w4 ⟨rfl, hb⟩
  have W4 := Lib.hid (W3.out.trans (hb.mono W3.out.size))
  clear hb W3
  go_wp2_with fail
  refine (U2.out _ (G.out.below W4.out)).mono ?_
  rintro e w5 ⟨rfl, hb⟩
  have W5 := Lib.hid (W4.out.trans (hb.mono W4.out.size))
  clear hb W4
  go_wp2
  go_ret
  exact ⟨rfl, W5.out⟩
end Go.Proofs.YtcpnlifcjdahgaaDoor
