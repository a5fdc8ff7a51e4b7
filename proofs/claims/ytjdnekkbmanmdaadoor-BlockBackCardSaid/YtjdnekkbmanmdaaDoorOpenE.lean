/-
  How the rows read whose one listed variable is errors.errorType.
-/
import Derived.Test.YtjdnekkbmanmdaaDoorOpen7
import Derived.Test.YtjdnekkbmanmdaaDoorAsSv
import Derived.LaidHandle
import Derived.LaidMore
namespace Go.Proofs.YtjdnekkbmanmdaaDoor
open Go.ChangeShapes Go.WideShapes Go.ChangeAt Go.RowKit
set_option maxRecDepth 100000
abbrev listedE : List (String × DataW Unit) := [("errors.errorType", Rows.laid_errors_errorType)]
theorem gErrT : Tryd.prog.globalNamed "errors.errorType" = some 0 := by kernel_rfl
theorem rtyp : (Tryd.prog.cutTypes.find? (·.1 == "internal/reflectlite.rtype")).map (·.2) = some 97 := by kernel_rfl
theorem oneErr : ((List.range 141).filter fun t => Tryd.prog.rowNamed t [101, 114, 114, 111, 114]) = [32] := by kernel_rfl
theorem nTypes : Tryd.prog.types.size = 141 := by kernel_rfl
theorem metE {W : World} (h : laidMetH Tryd.prog listedE W) : handlesMet Tryd.prog [("errors.errorType", Rows.laid_errors_errorType)] W := h.2
theorem ty_of_laid {W : World} (h : laidMetH Tryd.prog listedE W) : AsS.Ty W := by
  have h2 := metE h
  obtain ⟨name, u, ty, e1, e2, e3, e4, e5⟩ := h2 _ (List.mem_singleton.2 rfl)
  have en : name = [101, 114, 114, 111, 114] := (Option.some.inj e1).symm
  subst en
  obtain rfl := Option.some.inj (rtyp.symm.trans e2)
  have hm : ty ∈ (List.range 141).filter fun t => Tryd.prog.rowNamed t [101, 114, 114, 111, 114] := List.mem_filter.2 ⟨List.mem_range.2 (by rw [← nTypes]; exact e3), e4⟩
  rw [oneErr] at hm
  obtain rfl := List.mem_singleton.1 hm
  have hh : typeHandle Tryd.prog 32 = .pointer (some ⟨1, 32, none⟩) := by kernel_rfl
  rw [hh] at e5
  have c := World.var?_cell gErrT e5 0
  exact c.trans rfl
theorem doorE (os : Os) (args : Array Value) : laidMetH Tryd.prog listedE ((World.doorLaid Tryd.prog 400 os).forCall (fun _ _ => 0) ⟨#[], args, []⟩).memory :=
  laidMetH_of_parts3 (fuel := 65) (laidMet_of_run' 65 (by kernel_rfl) (by kernel_rfl)) (by kernel_rfl) (by kernel_rfl)
end Go.Proofs.YtjdnekkbmanmdaaDoor
