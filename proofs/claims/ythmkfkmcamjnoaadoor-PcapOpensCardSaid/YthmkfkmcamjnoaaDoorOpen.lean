/-
  How the rows of the statements over wide numbers read: an argument that is a number of 128 bits; the two listed variables.
-/
import Derived.Test.YthmkfkmcamjnoaaDoorWf
import Derived.Test.YthmkfkmcamjnoaaDoorWidA
import Derived.WalkKit
import Derived.ProofKit
import Derived.LaidMore
import Derived.OpenShut
import Derived.ChangeOld
import Derived.Stop.Joined
import Derived.Lib.SmallJoins
namespace Go.Proofs.YthmkfkmcamjnoaaDoor
open Go.ChangeShapes Go.WideShapes Go.ChangeAt Go.RowKit
set_option maxRecDepth 100000
theorem cellsW : Tryd.prog.cellsOf 52 = 2 := by kernel_rfl
theorem gLeast : Tryd.prog.globalNamed "horologe/wide.least" = some 1 := by kernel_rfl
theorem gGreatest : Tryd.prog.globalNamed "horologe/wide.greatest" = some 2 := by kernel_rfl
theorem tLeast : (Tryd.prog.globals[1]?).map (·.type) = some 52 := by kernel_rfl
theorem tGreatest : (Tryd.prog.globals[2]?).map (·.type) = some 52 := by kernel_rfl
section
variable {H : Type} {enc : TypeId × Value → H} {w : World} {base : Nat} {spare : Nat → Bool} {held : Bool}
/-- An argument that is a wide number. -/
theorem open_wide {r : Reach} {b0 : Nat} {v : Value} {d : DataW H} {p : List MemPlace} (hv : Value.okWide Tryd.prog w r b0 52 v) (h : DataW.Trod enc Tryd.prog w base spare held 52 v d p) :
    ∃ x, In x ∧ v = .agg #[.int .i64 (hiOf x), .int .u64 (loOf x)] := by
  obtain ⟨c0, c1, y0, y1, m, rfl, _, _, hy0, hy1⟩ := Joins.open_agg2 Tryd.underlying52 (by kernel_rfl) cellsW hv h
  obtain ⟨a, e0, _, wa⟩ := DataW.trod_int Tryd.underlying2 hy0
  obtain ⟨b, e1, _, wb⟩ := DataW.trod_int Tryd.underlying36 hy1
  simp at e0 e1
  subst e0 e1
  have ha := wf_i64 wa
  have hb := wf_u64 wb
  refine ⟨a * 18446744073709551616 + b, by unfold In; omega, ?_⟩
  rw [hiOf_mk hb.1 hb.2, loOf_mk hb.1 hb.2]
/-- A listed variable's two cells. -/
theorem cells_of_laid {cs : Array Value} {m : Nat} {p : List MemPlace} {a b : Int} (h : DataW.trod enc Tryd.prog w base spare held m 52 cs.toList = some (.agg [.lit (.int .i64 a), .lit (.int .u64 b)], p)) :
    cs = #[.int .i64 a, .int .u64 b] := by
  obtain ⟨xs, n, _, hx, hl, hlen, hg⟩ := DataW.trod_struct Tryd.underlying52 h
  rw [cellsW] at hl
  obtain ⟨l⟩ := cs
  match l, hl with
  | [c0, c1], _ =>
    match xs, hlen with
    | [x0, x1], _ =>
      simp only [Prod.mk.injEq, DataW.agg.injEq, List.map_cons, List.map_nil, List.cons.injEq, and_true] at hx
      have c64 : Tryd.prog.cellsOf 2 = 1 := by kernel_rfl
      have u64c : Tryd.prog.cellsOf 36 = 1 := by kernel_rfl
      have h0 : DataW.trod enc Tryd.prog w base spare held n 2 (List.take (Tryd.prog.cellsOf 2) [c0, c1]) = some x0 := hg 0 _ rfl
      have h1 : DataW.trod enc Tryd.prog w base spare held n 36 (List.take (Tryd.prog.cellsOf 36) [c1]) = some x1 := hg 1 _ rfl
      rw [c64] at h0
      rw [u64c] at h1
      obtain ⟨k, e1, e2, _⟩ := DataW.trod_int Tryd.underlying2 h0
      obtain ⟨k', e1', e2', _⟩ := DataW.trod_int Tryd.underlying36 h1
      rw [e2, e2'] at hx
      simp at e1 e1' hx
      rw [e1, e1', hx.1.1, hx.1.2]
end
/-- What the rows list. -/
abbrev listed {H : Type} : List (String × DataW H) := [("horologe/wide.least", Rows.laid_horologe_wide_least), ("horologe/wide.greatest", Rows.laid_horologe_wide_greatest)]
theorem glob_of_laid {W : World} (h : laidMetH Tryd.prog listed W) : Glob W := by
  rw [MakeChecks.laidMetH_plain _ _ _ (by kernel_rfl)] at h
  obtain ⟨ps, ⟨g0, t0, cs0, f0, p0, q0, hg0, ht0, hv0, hd0, ⟨g1, t1, cs1, f1, p1, q1, hg1, ht1, hv1, hd1, _, _⟩, _⟩, _, _⟩ := h
  obtain rfl := Option.some.inj (gLeast.symm.trans hg0)
  obtain rfl := Option.some.inj (gGreatest.symm.trans hg1)
  obtain rfl := Option.some.inj (tLeast.symm.trans ht0)
  obtain rfl := Option.some.inj (tGreatest.symm.trans ht1)
  obtain rfl := cells_of_laid hd0
  obtain rfl := cells_of_laid hd1
  have c0 := World.var?_cell hg0 hv0 0
  have c1 := World.var?_cell hg0 hv0 1
  have c2 := World.var?_cell hg1 hv1 0
  have c3 := World.var?_cell hg1 hv1 1
  exact ⟨c0.trans rfl, c1.trans rfl, c2.trans rfl, c3.trans rfl, block_lt_of_cell (c0.trans rfl), block_lt_of_cell (c2.trans rfl)⟩
/-- The door's own heap meets the condition: three closed facts. -/
theorem door_met (os : Os) (args : Array Value) : laidMetH Tryd.prog listed ((World.doorLaid Tryd.prog 400 os).forCall (fun _ _ => 0) ⟨#[], args, []⟩).memory :=
  laidMetH_of_parts3 (fuel := 8) (laidMet_of_run' 8 (by kernel_rfl) (by kernel_rfl)) (by kernel_rfl) (by kernel_rfl)
end Go.Proofs.YthmkfkmcamjnoaaDoor
