/-
  The statements' own 'known' of package era: the chapter's rows hold.
-/
import Derived.Test.YtcpnlifcjdahgaaDoorUnix
namespace Go.Proofs.YtcpnlifcjdahgaaDoor
open Go.RowKit Go.Sort
set_option maxHeartbeats 4000000 in
theorem known3_any (w : World) (hg : Glob w) : Calls Tryd.prog 6 #[] w fun e w' => e = .returned (.bool true) ∧ Below w.heap.size w w' := by
  have F := Lib.hid ((e_fold 18446744073709551621).as (args' := #[.agg #[.int .i64 1, .int .u64 5]]) rfl (v' := .int .u64 5) rfl)
  have N := Lib.hid ((e_number 18446744073709551621).as (args' := #[.agg #[.int .i64 1, .int .u64 5]]) rfl (v' := .int .i64 1) rfl)
  have N2 := Lib.hid ((e_number (-1)).as (args' := #[.agg #[.int .i64 (-1), .int .u64 18446744073709551615]]) rfl (v' := .int .i64 (-1)) rfl)
  have U1 := Lib.hid ((e_unfold 5 18446744073709551616 (by omega) (by unfold In; omega)).as (args' := #[.int .u64 5, .agg #[.int .i64 1, .int .u64 0]]) rfl (v' := .agg #[.int .i64 1, .int .u64 5]) rfl)
  have U2 := Lib.hid ((e_unfold 0 9223372036854775808 (by omega) (by unfold In; omega)).as (args' := #[.int .u64 0, .agg #[.int .i64 0, .int .u64 9223372036854775808]]) rfl (v' := .agg #[.int .i64 0, .int .u64 0]) rfl)
  have U3 := Lib.hid ((e_unfold 0 9223372036854775809 (by omega) (by unfold In; omega)).as (args' := #[.int .u64 0, .agg #[.int .i64 0, .int .u64 9223372036854775809]]) rfl (v' := .agg #[.int .i64 1, .int .u64 0]) rfl)
  have X := Lib.hid ((e_unix 0 0 (by omega) (by omega)).as rfl (v' := .agg #[.int .i64 0, .int .u64 9487534653230284800]) rfl)
  have G := Lib.hid hg
  clear hg
  have W : Hid (WideAt (w.alloc (wideO 18446744073709551621)) w.heap.size 18446744073709551621 ∧ Below w.heap.size w (w.alloc (wideO 18446744073709551621))) := Lib.hid ⟨by unfold WideAt; exact row_new _ _ rfl, below_alloc _ _⟩
  rw [show wideO 18446744073709551621 = .cells #[.int .i64 1, .int .u64 5] 25 from rfl] at W
  go_enter Tryd.func6, Tryd.ntmps6
  go_upto_region 2 with fail
  generalize w.alloc (.cells #[.int .i64 1, .int .u64 5] 25) = w0 at *
  obtain ⟨a0, a1⟩ := W.out.1.at.q
  rw [show hiOf 18446744073709551621 = 1 from rfl] at a0
  rw [show loOf 18446744073709551621 = 5 from rfl] at a1
  have G1 := Lib.hid (G.out.below W.out.2)
  refine wp_region_quiet_below (by kernel_rfl) (by kernel_rfl) ?_
  repeat (go_big_quiet_step (first | (with_reducible exact (F.out.quiet G1.out _ _)) | (with_reducible exact (N.out.quiet G1.out _ _)) | (with_reducible exact (N2.out.quiet G1.out _ _)) | (with_reducible exact (U1.out.quiet G1.out _ _)) | (with_reducible exact (U2.out.quiet G1.out _ _)) | (with_reducible exact (U3.out.quiet G1.out _ _)) | (with_reducible exact (X.out.quiet G1.out _ _))))
  (refine wpQuiet_nil ?_; intro _ hw'; obtain ⟨⟨dq, osq⟩, hw''⟩ := hw'; subst hw'')
  go_wp2
  go_ret
  exact ⟨rfl, W.out.2.trans ((below_quiet dq osq).mono W.out.2.size)⟩
theorem g_known3 : Gives 6 #[] (.bool true) := fun w hg => known3_any w hg
end Go.Proofs.YtcpnlifcjdahgaaDoor
