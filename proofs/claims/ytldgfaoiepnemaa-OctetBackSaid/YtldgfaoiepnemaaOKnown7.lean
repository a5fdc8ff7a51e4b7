/-
  What every statement of layer 7 asks first: the chapter's rows.
-/
import Derived.Test.YtldgfaoiepnemaaOctB
import Derived.Test.YtldgfaoiepnemaaOctE
import Derived.Great.BuildSlice
namespace Go.Proofs.Ytldgfaoiepnemaa
open Go.RowKit Go.Sort
set_option maxRecDepth 8000
set_option maxHeartbeats 2000000 in
theorem t_known (w : World) : Calls Try.prog 7 #[] w fun e w' => e = .returned (.bool true) ∧ Below w.heap.size w w' := by
  have R1 := Lib.hid ((RowB.new w [1, 2] (cs := #[.int .u8 1, .int .u8 2]) rfl).bytA)
  have S1 := Lib.hid (below_alloc w (.cells #[.int .u8 1, .int .u8 2] 5))
  have P5 := Lib.hid (fun w => t_pad 5 (by omega) w)
  have P8 := Lib.hid (fun w => t_pad 8 (by omega) w)
  have e5 : padV 5 = 3 := by decide
  have e8 : padV 8 = 0 := by decide
  rw [e5] at P5
  rw [e8] at P8
  clear e5 e8
  go_enter Try.func7, Try.ntmps7
  go_wp2_with fail
  refine (t_u16 (some ⟨w.heap.size, 0, none⟩) [1, 2] 2 false 0 (by decide) (by omega) (by decide) _ R1.out).mono ?_
  rintro e w2 ⟨rfl, hb⟩
  have R2 := Lib.hid (R1.out.on hb)
  have S2 := Lib.hid (S1.out.trans (hb.mono S1.out.size))
  clear hb R1 S1
  rw [show gv [1, 2] false 0 2 = 258 by decide]
  go_wp2_with fail
  refine (t_u16 (some ⟨w.heap.size, 0, none⟩) [1, 2] 2 true 0 (by decide) (by omega) (by decide) _ R2.out).mono ?_
  rintro e w3 ⟨rfl, hb⟩
  have S3 := Lib.hid (S2.out.trans (hb.mono S2.out.size))
  clear hb R2 S2
  rw [show gv [1, 2] true 0 2 = 513 by decide]
  go_wp2_with fail
  refine (P5.out _).mono ?_
  rintro e w4 ⟨rfl, rfl⟩
  go_wp2_with fail
  refine (P8.out _).mono ?_
  rintro e w4 ⟨rfl, rfl⟩
  go_wp2_with fail
  have Y := Lib.hid (Byts.new1 _ ((RowB.new w3 [0, 1, 242, 3, 244, 245, 246, 247] (cs := #[.int .u8 0, .int .u8 1, .int .u8 242, .int .u8 3, .int .u8 244, .int .u8 245, .int .u8 246, .int .u8 247]) rfl).byt (n := 8) (c := 8) rfl (Nat.le_refl _)))
  have S4 := Lib.hid (((S3.out.alloc S3.out.size (.cells #[.int .u8 0, .int .u8 1, .int .u8 242, .int .u8 3, .int .u8 244, .int .u8 245, .int .u8 246, .int .u8 247] 5))).alloc (by have := S3.out.size; simp; omega) (.cells #[.slice (some ⟨w3.heap.size, 0, none⟩) 8 8] 22))
  refine (t_sum _ [[0, 1, 242, 3, 244, 245, 246, 247]] (by decide) (by decide) _ (by simpa using Y.out)).mono ?_
  rintro e w4 ⟨rfl, rfl⟩
  rw [show csum [[0, 1, 242, 3, 244, 245, 246, 247]].flatten = 8717 by decide]
  go_wp2
  go_ret
  exact ⟨rfl, S4.out⟩
end Go.Proofs.Ytldgfaoiepnemaa
