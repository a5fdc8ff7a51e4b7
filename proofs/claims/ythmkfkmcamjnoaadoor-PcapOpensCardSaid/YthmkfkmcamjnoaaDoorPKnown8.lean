/-
  What every statement of layer 8 asks first: the chapter's rows.
-/
import Derived.Test.YthmkfkmcamjnoaaDoorPBytes8
import Derived.Test.YthmkfkmcamjnoaaDoorPAt8
import Derived.Test.YthmkfkmcamjnoaaDoorConvB
import Derived.Great.BuildSlice
namespace Go.Proofs.YthmkfkmcamjnoaaDoor
open Go.RowKit Go.Sort
set_option maxRecDepth 100000
def EnvP (w : World) : Prop := Glob w ∧ Mags w
theorem EnvP.below {w w' : World} (h : EnvP w) (hb : Below w.heap.size w w') : EnvP w' := ⟨h.1.below hb, h.2.below hb⟩
theorem open_short : openS [212, 195] = ((false, false, 0, 0), 121) := by decide
theorem open_magic : openS [212, 196] = ((false, false, 0, 0), 120) := by decide
theorem known_bytes : bytesS true false 1 262144 = [212, 195, 178, 161, 2, 0, 4, 0, 0, 0, 0, 0, 0, 0, 0, 0, 0, 0, 4, 0, 1, 0, 0, 0] := by decide
theorem known_at : atS false 0 500000 = unixI 0 2147483648 := by decide
/-- A step: what was, stays. -/
def KeepP (w wr : World) : Prop := EnvP wr ∧ Below w.heap.size w wr
theorem KeepP.on {w wr w2 : World} (h : KeepP w wr) (hb : Below wr.heap.size wr w2) : KeepP w w2 := ⟨h.1.below hb, h.2.trans (hb.mono h.2.size)⟩
theorem KeepP.alloc {w wr : World} (h : KeepP w wr) (o : Obj) : KeepP w (wr.alloc o) := h.on (below_alloc wr o)
set_option maxHeartbeats 4000000 in
theorem t_known (w : World) (hE : EnvP w) : Calls Tryd.prog 7 #[] w fun e w' => e = .returned (.bool true) ∧ Below w.heap.size w w' := by
  have S0 := Lib.hid (show KeepP w w from ⟨hE, Below.refl _ _⟩)
  have O1 := Lib.hid (fun v w hB hM => t_open v [212, 195] w hB hM (by decide))
  have O2 := Lib.hid (fun v w hB hM => t_open v [212, 196] w hB hM (by decide))
  rw [open_short] at O1
  rw [open_magic] at O2
  have TB := Lib.hid (fun w => t_bytes true false 1 262144 (by decide) (by decide) w)
  rw [known_bytes] at TB
  have TA := Lib.hid (fun w hG => t_at true false 1 262144 0 500000 0 0 (by decide) (by decide) w hG)
  rw [show atS false ((0 : Nat) : Int) ((500000 : Nat) : Int) = unixI 0 2147483648 from known_at] at TA
  have TU := Lib.hid (e_unix 0 2147483648 (by decide) (by decide))
  have TD := Lib.hid (fun w => t_den true false 1 262144 w)
  rw [show den false = 1000000 from rfl] at TD
  rw [show fileV ((false, false, 0, 0), 121) = .tuple #[.agg #[.bool false, .bool false, .int .u16 0, .int .u32 0], .int .i64 121] from rfl] at O1
  rw [show fileV ((false, false, 0, 0), 120) = .tuple #[.agg #[.bool false, .bool false, .int .u16 0, .int .u32 0], .int .i64 120] from rfl] at O2
  unfold wideV at TA TU
  generalize unixI 0 2147483648 = z at *
  clear hE
  go_enter Tryd.func7, Tryd.ntmps7
  go_upto_region 2 with fail
  have S1 := Lib.hid (S0.out.alloc (.cells #[.bool true, .bool false, .int .u16 1, .int .u32 262144] 26))
  have F1 := Lib.hid (row_new w (.cells #[.bool true, .bool false, .int .u16 1, .int .u32 262144] 26) rfl)
  clear S0
  generalize w.alloc (.cells #[.bool true, .bool false, .int .u16 1, .int .u32 262144] 26) = w1 at *
  go_wp2_with fail
  have Y1 := Lib.hid ((RowB.new w1 [212, 195] (cs := #[.int .u8 212, .int .u8 195]) rfl).byt (n := 2) (c := 2) rfl (Nat.le_refl _))
  have S2 := Lib.hid (S1.out.alloc (.cells #[.int .u8 212, .int .u8 195] 5))
  have F2 := Lib.hid (keepRow F1.out (below_alloc w1 (.cells #[.int .u8 212, .int .u8 195] 5)))
  clear S1 F1
  refine (O1.out _ _ Y1.out S2.out.1.2).mono ?_
  rintro e w2 ⟨rfl, hb⟩
  have S3 := Lib.hid (S2.out.on hb)
  have F3 := Lib.hid (keepRow F2.out hb)
  clear hb S2 F2 Y1
  go_upto_region 3 with fail
  have S4 := Lib.hid (S3.out.alloc (.cells #[.bool false, .bool false, .int .u16 0, .int .u32 0] 26))
  have F4 := Lib.hid (keepRow F3.out (below_alloc w2 (.cells #[.bool false, .bool false, .int .u16 0, .int .u32 0] 26)))
  clear S3 F3
  generalize w2.alloc (.cells #[.bool false, .bool false, .int .u16 0, .int .u32 0] 26) = w3 at *
  go_wp2_with fail
  have Y4 := Lib.hid ((RowB.new w3 [212, 196] (cs := #[.int .u8 212, .int .u8 196]) rfl).byt (n := 2) (c := 2) rfl (Nat.le_refl _))
  have S5 := Lib.hid (S4.out.alloc (.cells #[.int .u8 212, .int .u8 196] 5))
  have F5 := Lib.hid (keepRow F4.out (below_alloc w3 (.cells #[.int .u8 212, .int .u8 196] 5)))
  clear S4 F4
  refine (O2.out _ _ Y4.out S5.out.1.2).mono ?_
  rintro e w4 ⟨rfl, hb⟩
  have S6 := Lib.hid (S5.out.on hb)
  have F6 := Lib.hid (keepRow F5.out hb)
  clear hb S5 F5 Y4
  go_upto_region 4 with fail
  have S7 := Lib.hid (S6.out.alloc (.cells #[.bool false, .bool false, .int .u16 0, .int .u32 0] 26))
  have F7 := Lib.hid (keepRow F6.out (below_alloc w4 (.cells #[.bool false, .bool false, .int .u16 0, .int .u32 0] 26)))
  clear S6 F6
  generalize w4.alloc (.cells #[.bool false, .bool false, .int .u16 0, .int .u32 0] 26) = w5 at *
  obtain ⟨⟨c0, c1, c2, c3⟩, _⟩ := row4 F7.out
  go_wp2_with fail
  refine (TB.out _).mono ?_
  rintro e w6 ⟨v6, rfl, hY, hb⟩
  have S8 := Lib.hid (S7.out.on hb)
  have F8 := Lib.hid (keepRow F7.out hb)
  obtain ⟨a6, n6, d6, rfl⟩ := hY.slice
  have cv := conv_bytes hY.bytes
  clear hb S7 F7 hY c0 c1 c2 c3
  obtain ⟨⟨c0, c1, c2, c3⟩, _⟩ := row4 F8.out
  go_wp2_with fail
  refine (TA.out _ S8.out.1.1).mono ?_
  rintro e w7 ⟨rfl, hb⟩
  have S9 := Lib.hid (S8.out.on hb)
  have F9 := Lib.hid (keepRow F8.out hb)
  clear hb S8 F8 cv c0 c1 c2 c3
  obtain ⟨⟨c0, c1, c2, c3⟩, _⟩ := row4 F9.out
  go_wp2_with fail
  refine (TU.out _ S9.out.1.1).mono ?_
  rintro e w8 ⟨rfl, hb⟩
  have S10 := Lib.hid (S9.out.on hb)
  have F10 := Lib.hid (keepRow F9.out hb)
  clear hb S9 F9 c0 c1 c2 c3
  obtain ⟨⟨c0, c1, c2, c3⟩, _⟩ := row4 F10.out
  go_wp2_with fail
  refine (TD.out _).mono ?_
  rintro e w9 ⟨rfl, hb⟩
  have S11 := Lib.hid (S10.out.on hb)
  clear hb S10 F10 c0 c1 c2 c3
  go_wp2
  go_ret
  exact ⟨rfl, S11.out.2⟩
end Go.Proofs.YthmkfkmcamjnoaaDoor
