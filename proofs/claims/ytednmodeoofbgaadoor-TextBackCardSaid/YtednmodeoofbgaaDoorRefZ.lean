/-
  The document's numbers, whole: their values; Zero.
-/
import Derived.Test.YtednmodeoofbgaaDoorRefK
namespace Go.Proofs.YtednmodeoofbgaaDoor
open Go.RowKit Go.Sort
set_option maxRecDepth 8000
def numV (b : Bool) (m : Int) : Value := .agg (numC b (dig m))
def numO (b : Bool) (m : Int) : Obj := .cells (numC b (dig m)) 28 (0, 0)
theorem dig_zero : dig 0 = fun _ => 0 := by funext i; unfold dig; simp
theorem r_zero (b : Bool) (m : Int) (h : Sz m) : Gives 31 #[.agg (numC b (dig m))] (.bool (decide (m = 0))) := fun w _ => rzero_any b m h w
end Go.Proofs.YtednmodeoofbgaaDoor
