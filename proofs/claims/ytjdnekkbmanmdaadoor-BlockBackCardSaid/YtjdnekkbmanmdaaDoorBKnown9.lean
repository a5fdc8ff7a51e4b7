/-
  What every statement of layer 9 asks first: the chapter's rows.
-/
import Derived.Test.YtjdnekkbmanmdaaDoorBBytes9
import Derived.Test.YtjdnekkbmanmdaaDoorBTurn9
import Derived.Test.YtjdnekkbmanmdaaDoorConvB
import Derived.Lib.SmallJoins
import Derived.Great.BuildSlice
namespace Go.Proofs.YtjdnekkbmanmdaaDoor
open Go.RowKit Go.Sort
set_option maxRecDepth 100000
theorem known_frame : frameR 1 [1, 2, 3, 4] false = [0, 0, 0, 1, 0, 0, 0, 16, 1, 2, 3, 4, 0, 0, 0, 16] := by decide
theorem known_frameE : frameE [1, 2, 3, 4] = 0 := by decide
theorem known_size1 : sizeV (sizeB [6, 0, 0, 0, 16, 0, 0, 0] true 64) = .tuple #[.int .i64 16, .int .i64 0] := by
  rw [show sizeB [6, 0, 0, 0, 16, 0, 0, 0] true 64 = (16, 0) by decide]; rfl
theorem known_size2 : sizeV (sizeB [6, 0, 0, 0, 16, 0, 0, 0] true 15) = .tuple #[.int .i64 0, .int .i64 122] := by
  rw [show sizeB [6, 0, 0, 0, 16, 0, 0, 0] true 15 = (0, 122) by decide]; rfl
theorem known_turn1 : turnV (turnB [10, 13, 13, 10, 0, 0, 0, 28, 26, 43, 60, 77]) = .tuple #[.bool false, .int .i64 0] := by
  rw [show turnB [10, 13, 13, 10, 0, 0, 0, 28, 26, 43, 60, 77] = (false, 0) by decide]; rfl
theorem known_turn2 : turnV (turnB [10, 13]) = .tuple #[.bool false, .int .i64 121] := by
  rw [show turnB [10, 13] = (false, 121) by decide]; rfl
theorem known_turn3 : turnV (turnB [10, 14]) = .tuple #[.bool false, .int .i64 120] := by
  rw [show turnB [10, 14] = (false, 120) by decide]; rfl
/-- A literal's row, as the conversion marks it. -/
theorem Byt.marked (w : World) (L : List UInt8) {cs : Array Value} (h : cs = (cellsOf L).toArray) (fr : Nat × Nat) {n c : Nat} (hn : n = L.length) (hc : n ≤ c) : Byt (w.alloc (.cells cs 5 fr)) (.slice (some ⟨w.heap.size, 0, none⟩) n c) L := by
  subst h
  refine BytA.byt (Or.inr ⟨w.heap.size, 0, rfl, by simp, fun j hj => ?_⟩) hn hc
  rw [Nat.zero_add, World.cell?_alloc_mark]
  simp [cellsOf, hj]
set_option maxHeartbeats 4000000 in
theorem t_known9 (w : World) : Calls Tryd.prog 4 #[] w fun e w' => e = .returned (.bool true) ∧ Below w.heap.size w w' := by
  have TF := Lib.hid (fun v w hB => t_frame 1 v [1, 2, 3, 4] false (by omega) (by decide) w hB)
  unfold FrOut at TF
  rw [known_frame, known_frameE] at TF
  have T1 := Lib.hid (fun v w hB => t_size v [6, 0, 0, 0, 16, 0, 0, 0] true 64 w hB (by decide))
  have T2 := Lib.hid (fun v w hB => t_size v [6, 0, 0, 0, 16, 0, 0, 0] true 15 w hB (by decide))
  have T3 := Lib.hid (fun v w hB => t_turnB v [10, 13, 13, 10, 0, 0, 0, 28, 26, 43, 60, 77] w hB (by decide))
  have T4 := Lib.hid (fun v w hB => t_turnB v [10, 13] w hB (by decide))
  have T5 := Lib.hid (fun v w hB => t_turnB v [10, 14] w hB (by decide))
  rw [known_size1] at T1
  rw [known_size2] at T2
  rw [known_turn1] at T3
  rw [known_turn2] at T4
  rw [known_turn3] at T5
  have Y0 := Lib.hid ((RowB.new w [1, 2, 3, 4] (cs := #[.int .u8 1, .int .u8 2, .int .u8 3, .int .u8 4]) rfl).byt (n := 4) (c := 4) rfl (Nat.le_refl _))
  go_enter Tryd.func4, Tryd.ntmps4
  go_wp2_with fail
  refine (TF.out _ _ Y0.out).mono ?_
  rintro e w1 ⟨v1, rfl, hY, hb⟩
  have B1 := Lib.hid ((below_alloc w _).trans (hb.mono (by simp)))
  have cv := conv_bytes hY.bytes
  obtain ⟨a1, n1, d1, rfl⟩ := hY.slice
  clear hb hY Y0
  have kc := fun (w : World) (C : Array Value) (n c : Nat) => Lib.run_convert_bytes_const (P := Tryd.prog) w 23 5 C n c Tryd.underlying23 Tryd.underlying5
  have Y1 := Lib.hid (Byt.marked w1 [6, 0, 0, 0, 16, 0, 0, 0] (cs := #[.int .u8 6, .int .u8 0, .int .u8 0, .int .u8 0, .int .u8 16, .int .u8 0, .int .u8 0, .int .u8 0]) rfl (8, 9) (n := 8) (c := 8) rfl (Nat.le_refl _))
  go_wp2_with fail
  refine (T1.out _ _ Y1.out).mono ?_
  rintro e w2 ⟨rfl, hb⟩
  have B2 := Lib.hid (B1.out.trans (((below_alloc w1 _).trans (hb.mono (by simp))).mono B1.out.size))
  clear hb Y1 B1
  have Y2 := Lib.hid (Byt.marked w2 [6, 0, 0, 0, 16, 0, 0, 0] (cs := #[.int .u8 6, .int .u8 0, .int .u8 0, .int .u8 0, .int .u8 16, .int .u8 0, .int .u8 0, .int .u8 0]) rfl (8, 9) (n := 8) (c := 8) rfl (Nat.le_refl _))
  go_wp2_with fail
  refine (T2.out _ _ Y2.out).mono ?_
  rintro e w3 ⟨rfl, hb⟩
  have B3 := Lib.hid (B2.out.trans (((below_alloc w2 _).trans (hb.mono (by simp))).mono B2.out.size))
  clear hb Y2 B2
  have Y3 := Lib.hid (Byt.marked w3 [10, 13, 13, 10, 0, 0, 0, 28, 26, 43, 60, 77] (cs := #[.int .u8 10, .int .u8 13, .int .u8 13, .int .u8 10, .int .u8 0, .int .u8 0, .int .u8 0, .int .u8 28, .int .u8 26, .int .u8 43, .int .u8 60, .int .u8 77]) rfl (12, 13) (n := 12) (c := 12) rfl (Nat.le_refl _))
  go_wp2_with fail
  refine (T3.out _ _ Y3.out).mono ?_
  rintro e w4 ⟨rfl, hb⟩
  have B4 := Lib.hid (B3.out.trans (((below_alloc w3 _).trans (hb.mono (by simp))).mono B3.out.size))
  clear hb Y3 B3
  have Y4 := Lib.hid (Byt.marked w4 [10, 13] (cs := #[.int .u8 10, .int .u8 13]) rfl (2, 3) (n := 2) (c := 2) rfl (Nat.le_refl _))
  go_wp2_with fail
  refine (T4.out _ _ Y4.out).mono ?_
  rintro e w5 ⟨rfl, hb⟩
  have B5 := Lib.hid (B4.out.trans (((below_alloc w4 _).trans (hb.mono (by simp))).mono B4.out.size))
  clear hb Y4 B4
  have Y5 := Lib.hid (Byt.marked w5 [10, 14] (cs := #[.int .u8 10, .int .u8 14]) rfl (2, 3) (n := 2) (c := 2) rfl (Nat.le_refl _))
  go_wp2_with fail
  refine (T5.out _ _ Y5.out).mono ?_
  rintro e w6 ⟨rfl, hb⟩
  have B6 := Lib.hid (B5.out.trans (((below_alloc w5 _).trans (hb.mono (by simp))).mono B5.out.size))
  clear hb Y5 B5
  go_wp2
  go_ret
  exact ⟨rfl, B6.out⟩
end Go.Proofs.YtjdnekkbmanmdaaDoor
