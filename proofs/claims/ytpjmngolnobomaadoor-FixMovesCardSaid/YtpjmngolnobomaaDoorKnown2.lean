/-
  The statements' own 'known' of package fix: the chapter's rows hold.
-/
import Derived.Test.YtpjmngolnobomaaDoorOffs
namespace Go.Proofs.YtpjmngolnobomaaDoor
open Go.RowKit Go.Sort
set_option maxHeartbeats 4000000 in
theorem known2_any (w : World) (hg : Glob w) : Calls Tryd.prog 8 #[] w fun e w' => e = .returned (.bool true) ∧ Below w.heap.size w w' := by
  have M := Lib.hid ((f_moment (-1) 5 (by omega) (by omega)).as rfl (v' := .agg #[.int .i64 (-1), .int .u64 18446744069414584325]) rfl)
  have SP := Lib.hid ((f_split (-4294967291) (by unfold In; omega)).as (args' := #[.agg #[.int .i64 (-1), .int .u64 18446744069414584325]]) rfl (v' := .tuple #[.int .i64 (-1), .int .u32 5]) rfl)
  have F1 := Lib.hid ((f_frac 1 2 (by omega) (by omega)).as rfl (v' := .tuple #[.int .u32 2147483648, .bool true]) rfl)
  have F2 := Lib.hid ((f_frac 1 3 (by omega) (by omega)).as rfl (v' := .tuple #[.int .u32 1431655766, .bool true]) rfl)
  have F3 := Lib.hid ((f_frac 3 3 (by omega) (by omega)).as rfl (v' := .tuple #[.int .u32 0, .bool false]) rfl)
  have P1 := Lib.hid ((f_parts 2147483648 1000 (by omega) (by omega)).as rfl (v' := .tuple #[.int .u64 500, .bool true]) rfl)
  have o0 := Lib.hid ((g_of 0 (by omega)).as rfl (v' := .agg #[.int .i64 0, .int .u64 0]) rfl)
  have o10 := Lib.hid ((g_of 10 (by omega)).as rfl (v' := .agg #[.int .i64 0, .int .u64 10]) rfl)
  have o14 := Lib.hid ((g_of 14 (by omega)).as rfl (v' := .agg #[.int .i64 0, .int .u64 14]) rfl)
  have o20 := Lib.hid ((g_of 20 (by omega)).as rfl (v' := .agg #[.int .i64 0, .int .u64 20]) rfl)
  have OF := Lib.hid ((f_offset 0 10 14 20 (by unfold In; omega) (by unfold In; omega) (by unfold In; omega) (by unfold In; omega)).as (args' := #[.agg #[.int .i64 0, .int .u64 0], .agg #[.int .i64 0, .int .u64 10], .agg #[.int .i64 0, .int .u64 14], .agg #[.int .i64 0, .int .u64 20]]) rfl (v' := .int .i64 2) rfl)
  have DL := Lib.hid ((f_delay 0 10 14 20 (by unfold In; omega) (by unfold In; omega) (by unfold In; omega) (by unfold In; omega)).as (args' := #[.agg #[.int .i64 0, .int .u64 0], .agg #[.int .i64 0, .int .u64 10], .agg #[.int .i64 0, .int .u64 14], .agg #[.int .i64 0, .int .u64 20]]) rfl (v' := .int .i64 16) rfl)
  have SH := Lib.hid ((f_short 65536 (by omega) (by omega)).as rfl (v' := .int .i64 4294967296) rfl)
  have G := Lib.hid hg
  have hb : Below w.heap.size w w := Below.refl _ _
  clear hg
  go_enter Tryd.func8, Tryd.ntmps8
  go_wp2_with fail
  refine (M.out _ (G.out.below hb)).mono ?_
  rintro e w1 ⟨rfl, hb2⟩
  replace hb := hb.trans (hb2.mono hb.size)
  clear hb2
  go_wp2_with fail
  refine (SP.out _ (G.out.below hb)).mono ?_
  rintro e w1 ⟨rfl, hb2⟩
  replace hb := hb.trans (hb2.mono hb.size)
  clear hb2
  go_wp2_with fail
  refine (F1.out _ (G.out.below hb)).mono ?_
  rintro e w1 ⟨rfl, hb2⟩
  replace hb := hb.trans (hb2.mono hb.size)
  clear hb2
  go_wp2_with fail
  refine (F2.out _ (G.out.below hb)).mono ?_
  rintro e w1 ⟨rfl, hb2⟩
  replace hb := hb.trans (hb2.mono hb.size)
  clear hb2
  go_wp2_with fail
  refine (F3.out _ (G.out.below hb)).mono ?_
  rintro e w1 ⟨rfl, hb2⟩
  replace hb := hb.trans (hb2.mono hb.size)
  clear hb2
  go_wp2_with fail
  refine (P1.out _ (G.out.below hb)).mono ?_
  rintro e w1 ⟨rfl, hb2⟩
  replace hb := hb.trans (hb2.mono hb.size)
  clear hb2
  go_wp2_with fail
  refine (o0.out _ (G.out.below hb)).mono ?_
  rintro e w1 ⟨rfl, hb2⟩
  replace hb := hb.trans (hb2.mono hb.size)
  clear hb2
  go_wp2_with fail
  refine (o10.out _ (G.out.below hb)).mono ?_
  rintro e w1 ⟨rfl, hb2⟩
  replace hb := hb.trans (hb2.mono hb.size)
  clear hb2
  go_wp2_with fail
  refine (o14.out _ (G.out.below hb)).mono ?_
  rintro e w1 ⟨rfl, hb2⟩
  replace hb := hb.trans (hb2.mono hb.size)
  clear hb2
  go_wp2_with fail
  refine (o20.out _ (G.out.below hb)).mono ?_
  rintro e w1 ⟨rfl, hb2⟩
  replace hb := hb.trans (hb2.mono hb.size)
  clear hb2
  go_wp2_with fail
  refine (OF.out _ (G.out.below hb)).mono ?_
  rintro e w1 ⟨rfl, hb2⟩
  replace hb := hb.trans (hb2.mono hb.size)
  clear hb2
  go_wp2_with fail
  refine (o0.out _ (G.out.below hb)).mono ?_
  rintro e w1 ⟨rfl, hb2⟩
  replace hb := hb.trans (hb2.mono hb.size)
  clear hb2
  go_wp2_with fail
  refine (o10.out _ (G.out.below hb)).mono ?_
  rintro e w1 ⟨rfl, hb2⟩
  replace hb := hb.trans (hb2.mono hb.size)
  clear hb2
  go_wp2_with fail
  refine (o14.out _ (G.out.below hb)).mono ?_
  rintro e w1 ⟨rfl, hb2⟩
  replace hb := hb.trans (hb2.mono hb.size)
  clear hb2
  go_wp2_with fail
  refine (o20.out _ (G.out.below hb)).mono ?_
  rintro e w1 ⟨rfl, hb2⟩
  replace hb := hb.trans (hb2.mono hb.size)
  clear hb2
  go_wp2_with fail
  refine (DL.out _ (G.out.below hb)).mono ?_
  rintro e w1 ⟨rfl, hb2⟩
  replace hb := hb.trans (hb2.mono hb.size)
  clear hb2
  go_wp2_with fail
  refine (SH.out _ (G.out.below hb)).mono ?_
  rintro e w1 ⟨rfl, hb2⟩
  replace hb := hb.trans (hb2.mono hb.size)
  clear hb2
  go_wp2
  go_ret
  exact ⟨rfl, hb⟩
theorem g_known2 : Gives 8 #[] (.bool true) := fun w hg => known2_any w hg
end Go.Proofs.YtpjmngolnobomaaDoor
