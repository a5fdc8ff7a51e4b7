/-
  The document's ends of wide numbers: Ends (horologeref04).
-/
import Derived.Test.YtednmodeoofbgaaDoorRUn
namespace Go.Proofs.YtednmodeoofbgaaDoor
open Go.RowKit Go.Sort
set_option maxRecDepth 8000
theorem results_cell_cell {P : Program} {fn : Func} {p q : Tmp} {ty : TypeId} (h : fn.results = #[.cell p ty, .cell q ty]) (tmps : Array Value) (w : World) (g g' : Nat) (t t' : TypeId) (cs cs' : Array Value) (fr fr' : Nat × Nat) (d : TypeDesc)
    (hp : tmps.getD p undef = .pointer (some ⟨g, 0, none⟩)) (hq : tmps.getD q undef = .pointer (some ⟨g', 0, none⟩)) (hg : w.heap[g]? = some (.cells cs t fr)) (hg' : w.heap[g']? = some (.cells cs' t' fr'))
    (hu : P.underlying ty = some d) (hd : (match d with | .struct _ | .array _ _ => true | _ => false) = true) (hi : (P.info? ty).map (·.size) = some cs.size) (hi' : (P.info? ty).map (·.size) = some cs'.size) :
    (results fn tmps).run P w = .ok (.tuple #[.agg cs, .agg cs']) w := by
  have hp' : tmps[p]?.getD undef = .pointer (some ⟨g, 0, none⟩) := by simpa using hp
  have hq' : tmps[q]?.getD undef = .pointer (some ⟨g', 0, none⟩) := by simpa using hq
  simp [results, h, hp', hq', asAddr, run_loadVar_row w g t ty cs fr d hg hu hd hi, run_loadVar_row w g' t' ty cs' fr' d hg' hu hd hi']
def leastN : Value := numV true 170141183460469231731687303715884105728
def mostN : Value := numV false 170141183460469231731687303715884105727
theorem r_ends : Gives 19 #[] (.tuple #[leastN, mostN]) := fun w hg => by
  have F1 := Lib.hid ((r_from (-170141183460469231731687303715884105728) (by unfold In; omega)).as (args' := #[.agg #[.int .i64 (-9223372036854775808), .int .u64 0]]) rfl (v' := leastN) rfl)
  have F2 := Lib.hid ((r_from 170141183460469231731687303715884105727 (by unfold In; omega)).as (args' := #[.agg #[.int .i64 9223372036854775807, .int .u64 18446744073709551615]]) rfl (v' := mostN) rfl)
  have G := Lib.hid hg
  clear hg
  go_enter Tryd.func19, Tryd.ntmps19
  go_upto_region 1 with fail
  rw [← numC_nought]
  have W : Hid (NumAt ((w.alloc (.cells (numC false (fun _ => 0)) 28)).alloc (.cells (numC false (fun _ => 0)) 28)) w.heap.size false (fun _ => 0) ∧ NumAt ((w.alloc (.cells (numC false (fun _ => 0)) 28)).alloc (.cells (numC false (fun _ => 0)) 28)) (w.heap.size + 1) false (fun _ => 0) ∧ Below w.heap.size w ((w.alloc (.cells (numC false (fun _ => 0)) 28)).alloc (.cells (numC false (fun _ => 0)) 28))) := Lib.hid
    ⟨(NumAt.new _ _ _ rfl).alloc _, NumAt.new _ _ _ (by simp), by (repeat (first | (with_reducible exact Below.refl _ _) | (with_reducible assumption) | (with_reducible refine Below.drew ?_) | (with_reducible refine below_drewN ?_ _) | ((with_reducible refine Below.alloc ?_ ?_ _); rotate_left; (focus (first | (simp; done) | (simp; omega) | omega))) | ((with_reducible refine Below.setCell ?_ ?_ _); rotate_left; (focus (first | (simp; done) | (simp; omega) | omega))) | ((with_reducible refine Below.trans ?_ (Below.mono (by assumption) ?_)); rotate_left; (focus (first | (simp; done) | (simp; omega) | omega)))))⟩
  generalize (w.alloc (.cells (numC false (fun _ => 0)) 28)).alloc (.cells (numC false (fun _ => 0)) 28) = w1 at *
  unfold leastN mostN numV at *
  go_wp2_with (first
    | (go_at_call 18; first | (refine (F1.out _ (G.out.below W.out.2.2)).mono ?_; rintro e w2 ⟨rfl, hb⟩; have W2 := Lib.hid (show NumAt w2 w.heap.size false (fun _ => 0) ∧ NumAt w2 (w.heap.size + 1) false (fun _ => 0) ∧ Below w.heap.size w w2 from ⟨W.out.1.on hb, W.out.2.1.on hb, W.out.2.2.trans (hb.mono W.out.2.2.size)⟩); clear hb W) | (refine (F2.out _ (G.out.below W2.out.2.2)).mono ?_; rintro e w3 ⟨rfl, hb⟩; have W3 := Lib.hid (show NumAt w3 w.heap.size false (fun _ => 0) ∧ NumAt w3 (w.heap.size + 1) false (fun _ => 0) ∧ Below w.heap.size w w3 from ⟨W2.out.1.on hb, W2.out.2.1.on hb, W2.out.2.2.trans (hb.mono W2.out.2.2.size)⟩); clear hb W2))
    | (refine store_num rfl (.tmp 0) (.tmp 3) rfl w.heap.size rfl true (dig 170141183460469231731687303715884105728) rfl false (fun _ => 0) W3.out.1 ?_)
    | (refine store_num rfl (.tmp 1) (.tmp 5) rfl (w.heap.size + 1) rfl false (dig 170141183460469231731687303715884105727) rfl false (fun _ => 0) (W3.out.2.1.wholeOther _ (by omega)) ?_))
  exact bodyPost_ret (results_cell_cell (p := 0) (q := 1) rfl _ _ w.heap.size (w.heap.size + 1) 28 28 (numC true (dig 170141183460469231731687303715884105728)) (numC false (dig 170141183460469231731687303715884105727)) (0, 0) (0, 0) _ rfl rfl (W3.out.1.whole.wholeOther _ (by omega)) ((W3.out.2.1.wholeOther _ (by omega)).whole) Tryd.underlying28 rfl (infoN _ _) (infoN _ _)) rfl
    (And.intro rfl (Below.setRow' (Below.setRow' W3.out.2.2 (by omega) _) (by omega) _))
end Go.Proofs.YtednmodeoofbgaaDoor
