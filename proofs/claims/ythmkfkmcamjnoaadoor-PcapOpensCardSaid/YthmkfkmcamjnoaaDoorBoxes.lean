/-
  Wide numbers in boxes: whole blocks, as the law of regions wants them.
-/
import Derived.Test.YthmkfkmcamjnoaaDoorGives
import Derived.Test.YthmkfkmcamjnoaaDoorRegion
namespace Go.Proofs.YthmkfkmcamjnoaaDoor
open Go.RowKit Go.Sort
/-- A whole wide number in a block. -/
def WideAt (w : World) (b : Nat) (x : Int) : Prop := w.heap[b]? = some (.cells #[.int .i64 (hiOf x), .int .u64 (loOf x)] 52 (0, 0))
theorem WideAt.at {w : World} {b : Nat} {x : Int} (h : WideAt w b x) : At w b x := by
  have lt : b < w.heap.size := by
    rcases Nat.lt_or_ge b w.heap.size with g | g
    · exact g
    · unfold WideAt at h; rw [Array.getElem?_eq_none g] at h; cases h
  exact ⟨cell_of_row w b 0 _ _ _ h, cell_of_row w b 1 _ _ _ h, lt⟩
theorem WideAt.on {w w' : World} {b : Nat} {x : Int} (h : WideAt w b x) (hb : Below w.heap.size w w') : WideAt w' b x := (hb.block b h.at.2.2).trans h
theorem WideAt.free {w : World} {b : Nat} {x : Int} (h : WideAt w b x) (j : Nat) : w.frozen? ⟨b, j, none⟩ = false := frozen_of_row w b j _ _ h
theorem WideAt.other {w : World} {b : Nat} {x : Int} (h : WideAt w b x) {a : Addr} (ha : a.block ≠ b) (v : Value) : WideAt (w.setCell a v) b x := (heap_setCell_other w a b v (Ne.symm ha)).trans h
theorem WideAt.stored {w : World} {b : Nat} {u x : Int} (h : WideAt w b u) : WideAt ((w.setCell ⟨b, 0, none⟩ (.int .i64 (hiOf x))).setCell ⟨b, 1, none⟩ (.int .u64 (loOf x))) b x := by
  have lt := h.at.2.2
  unfold WideAt at *
  unfold World.setCell
  simp only [Array.getElem?_modify, if_true, h]
  rfl
theorem WideAt.alloc {w : World} {b : Nat} {x : Int} (h : WideAt w b x) (o : Obj) : WideAt (w.alloc o) b x := h.on (below_alloc w o)
theorem infoW : (Tryd.prog.info? 52).map (·.size) = some 2 := by kernel_rfl
def wideV (x : Int) : Value := (.agg #[.int .i64 (hiOf x), .int .u64 (loOf x)])
def wideO (x : Int) : Obj := .cells #[.int .i64 (hiOf x), .int .u64 (loOf x)] 52 (0, 0)
/-- Four numbers in boxes of their own. -/
def Four (w : World) (x1 x2 x3 x4 : Int) (w0 : World) : Prop :=
  WideAt w0 w.heap.size x1 ∧ WideAt w0 (w.heap.size + 1) x2 ∧ WideAt w0 (w.heap.size + 1 + 1) x3 ∧ WideAt w0 (w.heap.size + 1 + 1 + 1) x4 ∧ Below w.heap.size w w0
theorem four_boxes (w : World) (x1 x2 x3 x4 : Int) : Four w x1 x2 x3 x4 ((((w.alloc (wideO x1)).alloc (wideO x2)).alloc (wideO x3)).alloc (wideO x4)) := by
  unfold Four WideAt wideO
  refine ⟨?_, ?_, ?_, ?_, by (repeat (first | (with_reducible exact Below.refl _ _) | (with_reducible assumption) | (with_reducible refine Below.drew ?_) | (with_reducible refine below_drewN ?_ _) | ((with_reducible refine Below.alloc ?_ ?_ _); rotate_left; (focus (first | (simp; done) | (simp; omega) | omega))) | ((with_reducible refine Below.setCell ?_ ?_ _); rotate_left; (focus (first | (simp; done) | (simp; omega) | omega))) | ((with_reducible refine Below.trans ?_ (Below.mono (by assumption) ?_)); rotate_left; (focus (first | (simp; done) | (simp; omega) | omega)))))⟩
  · rw [heap_alloc_old _ _ (by first | (simp; done) | (simp; omega) | omega), heap_alloc_old _ _ (by first | (simp; done) | (simp; omega) | omega), heap_alloc_old _ _ (by first | (simp; done) | (simp; omega) | omega)]; exact heap_alloc_new _ _
  · rw [heap_alloc_old _ _ (by first | (simp; done) | (simp; omega) | omega), heap_alloc_old _ _ (by first | (simp; done) | (simp; omega) | omega)]; exact row_new _ _ (by first | (simp; done) | (simp; omega) | omega)
  · rw [heap_alloc_old _ _ (by first | (simp; done) | (simp; omega) | omega)]; exact row_new _ _ (by first | (simp; done) | (simp; omega) | omega)
  · exact row_new _ _ (by first | (simp; done) | (simp; omega) | omega)
end Go.Proofs.YthmkfkmcamjnoaaDoor
