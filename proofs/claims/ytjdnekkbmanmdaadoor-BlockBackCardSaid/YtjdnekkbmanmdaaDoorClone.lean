/-
  strings.Clone, without the kit's contract: a row is made, filled, frozen, and told as a text.
-/
import Derived.Test.YtjdnekkbmanmdaaDoorORef7
import Derived.Lib.BufferWrite
import Derived.Lib.UnsafeStr
import Derived.Laws.CopyOwn
namespace Go.Proofs.YtjdnekkbmanmdaaDoor
open Go.RowKit Go.Sort
set_option maxRecDepth 8000
set_option maxHeartbeats 2000000 in
theorem t_liteClone (s : ByteArray) (h0 : 0 < s.size) (hs : s.size ≤ 4000) (w : World) : Calls Tryd.prog 40 #[.string s] w fun e w' => e = .returned (.string s) ∧ Below w.heap.size w w' := by
  obtain ⟨M, hM⟩ : ∃ M, M = (cellsOf (List.replicate s.size 0)).toArray := ⟨_, rfl⟩
  have MS : M.size = s.size := by rw [hM]; simp [cellsOf]
  have mk := run_make_all w s.size (by omega)
  rw [← hM] at mk
  clear hM
  have g0 : ((s.size : Int) == 0) = false := by rw [beq_eq_false_iff_ne]; omega
  have cp := Lib.run_copy_row_string (P := Tryd.prog) (w.alloc (.cells M 5)) 23 9 3 5 w.heap.size 0 s.size s.size s M 5 Tryd.underlying23 (by kernel_rfl) (heap_alloc_new w _) (Nat.le_refl _) (Nat.le_of_eq (by rw [MS, Nat.zero_add]))
  obtain ⟨Y, hY⟩ : ∃ Y, Y = (M.toList.take 0 ++ Lib.byteCells s.data.toList ++ M.toList.drop (0 + s.size)).toArray := ⟨_, rfl⟩
  rw [← hY] at cp
  have YL : Y.toList = Lib.byteCells s.data.toList := by
    rw [hY]
    simp [List.drop_of_length_le (show M.toList.length ≤ s.size by rw [Array.length_toList]; omega)]
  have SZ : s.data.toList.length = s.size := by simp
  have YS : Y.size = s.size := by rw [← Array.length_toList, YL, Lib.byteCells_length, SZ]
  have gY : ((w.alloc (.cells M 5)).setRow w.heap.size Y).heap[w.heap.size]? = some (.cells Y 5 (0, 0)) := setRow_heap _ _ M _ 5 (0, 0) (heap_alloc_new w _)
  have us := Lib.run_unsafeString_row (P := Tryd.prog) ((w.alloc (.cells M 5)).setRow w.heap.size Y) 112 3 9 5 Tryd.underlying112 (by kernel_rfl) w.heap.size s.size (by unfold World.shape?; rw [gY]; simp only [YS]) s.data.toList (by intro e; rw [e] at SZ; simp at SZ; omega) (by omega) (by omega)
    (fun j x hj => by
      rw [addr_add, Nat.zero_add, cell_of_row _ _ _ _ _ _ gY, ← Array.getElem?_toList, YL]
      simp [Lib.byteCells, hj])
  have e : (⟨s.data.toList.toArray⟩ : ByteArray) = s := by simp
  rw [e, SZ] at us
  clear hY YL SZ YS gY MS e
  go_enter Tryd.func40, Tryd.ntmps40
  go_wp2
  go_ret
  exact ⟨rfl, Lib.below_freeze (below_setRow (below_alloc w _) (Nat.le_refl _) _) (Nat.le_refl _) _⟩
theorem t_clone' (s : ByteArray) (h0 : 0 < s.size) (hs : s.size ≤ 4000) (w : World) : Calls Tryd.prog 32 #[.string s] w fun e w' => e = .returned (.string s) ∧ Below w.heap.size w w' := by
  have C := Lib.hid (fun w => t_liteClone s h0 hs w)
  clear h0 hs
  go_enter Tryd.func32, Tryd.ntmps32
  go_wp2_with (go_at_call 40; refine (C.out _).mono ?_; rintro e w1 ⟨rfl, hb⟩)
  go_ret
  exact ⟨rfl, hb⟩
end Go.Proofs.YtjdnekkbmanmdaaDoor
