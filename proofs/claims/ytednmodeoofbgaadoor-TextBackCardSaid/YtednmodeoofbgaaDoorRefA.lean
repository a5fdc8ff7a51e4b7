/-
  The document's numbers (horologeref01) in memory: a sign, and 20 pieces; Zero.
-/
import Derived.Test.YtednmodeoofbgaaDoorProg
import Derived.Test.YtednmodeoofbgaaDoorNum
import Derived.WalkKit
import Derived.WalkSpells
import Derived.WalkLawsBesides
import Derived.LoopTactic
import Derived.BigQuiet
import Derived.Deep.QuietTactic
import Derived.Lib.Hide
import Derived.Laws.Tables
import Derived.Outline
namespace Go.Proofs.YtednmodeoofbgaaDoor
open Go.RowKit
/-- The cells of a number: its sign, and its pieces. -/
def numC (b : Bool) (f : Nat → Int) : Array Value := (Value.bool b :: (List.range 20).map fun i => Value.int .u64 (f i)).toArray
theorem numC_size (b : Bool) (f : Nat → Int) : (numC b f).size = 21 := by simp [numC]
theorem numC_zero (b : Bool) (f : Nat → Int) : (numC b f)[0]? = some (.bool b) := by simp [numC]
theorem numC_at (b : Bool) (f : Nat → Int) {k : Nat} (h : k < 20) : (numC b f)[1 + k]? = some (.int .u64 (f k)) := by
  rw [Nat.add_comm]; simp [numC, h]
def upd (f : Nat → Int) (k : Nat) (v : Int) : Nat → Int := fun i => if i = k then v else f i
theorem numC_set (b : Bool) (f : Nat → Int) {k : Nat} (h : k < 20) (v : Int) : (numC b f).setIfInBounds (1 + k) (.int .u64 v) = numC b (upd f k v) := by
  apply Array.ext_getElem?
  intro i
  rw [Array.getElem?_setIfInBounds]
  rcases Nat.eq_zero_or_pos i with rfl | hi
  · rw [if_neg (by omega), numC_zero, numC_zero]
  obtain ⟨j, rfl⟩ : ∃ j, i = 1 + j := ⟨i - 1, by omega⟩
  by_cases hj : j < 20
  · rw [numC_at b _ hj, numC_at b _ hj, numC_size]
    by_cases e : k = j
    · subst e; simp [upd]; omega
    · rw [if_neg (by omega)]; simp [upd, Ne.symm e]
  · rw [Array.getElem?_eq_none (by rw [numC_size]; omega), Array.getElem?_eq_none (by rw [numC_size]; omega)]
    by_cases e : 1 + k = 1 + j
    · omega
    · rw [if_neg e]
theorem numC_sign (b c : Bool) (f : Nat → Int) : (numC b f).setIfInBounds 0 (.bool c) = numC c f := by simp [numC]
/-- A number lies in block g. -/
def NumAt (w : World) (g : Nat) (b : Bool) (f : Nat → Int) : Prop := w.heap[g]? = some (.cells (numC b f) 28 (0, 0))
theorem NumAt.cell {w : World} {g : Nat} {b : Bool} {f : Nat → Int} (h : NumAt w g b f) {k : Nat} (hk : k < 20) : w.cell? ⟨g, 1 + k, none⟩ = some (.int .u64 (f k)) := by
  rw [cell_of_row w g _ _ _ _ h, numC_at b f hk]
theorem NumAt.cell0 {w : World} {g : Nat} {b : Bool} {f : Nat → Int} (h : NumAt w g b f) : w.cell? ⟨g, 0, none⟩ = some (.bool b) := by
  rw [cell_of_row w g _ _ _ _ h, numC_zero]
theorem NumAt.free {w : World} {g : Nat} {b : Bool} {f : Nat → Int} (h : NumAt w g b f) (j : Nat) : w.frozen? ⟨g, j, none⟩ = false := frozen_of_row w g j _ _ h
theorem NumAt.new (w : World) (b : Bool) (f : Nat → Int) {g : Nat} (hg : g = w.heap.size) : NumAt (w.alloc (.cells (numC b f) 28)) g b f := by subst hg; exact heap_alloc_new w _
theorem NumAt.lt {w : World} {g : Nat} {b : Bool} {f : Nat → Int} (h : NumAt w g b f) : g < w.heap.size := by
  rcases Nat.lt_or_ge g w.heap.size with h' | h'
  · exact h'
  · unfold NumAt at h; rw [Array.getElem?_eq_none h'] at h; cases h
theorem NumAt.below {w w' : World} {g B : Nat} {b : Bool} {f : Nat → Int} (h : NumAt w g b f) (hb : Below B w w') (hB : g < B) : NumAt w' g b f := (hb.block g hB).trans h
theorem NumAt.on {w w' : World} {g : Nat} {b : Bool} {f : Nat → Int} (h : NumAt w g b f) (hb : Below w.heap.size w w') : NumAt w' g b f := h.below hb h.lt
theorem NumAt.alloc {w : World} {g : Nat} {b : Bool} {f : Nat → Int} (h : NumAt w g b f) (o : Obj) : NumAt (w.alloc o) g b f := (heap_alloc_old _ _ h.lt).trans h
theorem NumAt.drew {w : World} {g : Nat} {b : Bool} {f : Nat → Int} (h : NumAt w g b f) : NumAt w.drew g b f := h
theorem NumAt.put {w : World} {g : Nat} {b : Bool} {f : Nat → Int} (h : NumAt w g b f) {k : Nat} (hk : k < 20) (v : Int) : NumAt (w.setCell ⟨g, 1 + k, none⟩ (.int .u64 v)) g b (upd f k v) :=
  (heap_setCell_same w g (1 + k) _ _ _ h).trans (by rw [numC_set b f hk])
theorem NumAt.other {w : World} {g : Nat} {b : Bool} {f : Nat → Int} (h : NumAt w g b f) (a : Addr) (v : Value) (hn : g ≠ a.block) : NumAt (w.setCell a v) g b f := (heap_setCell_other w a g v hn).trans h
def allZ (f : Nat → Int) : Bool := (List.range 20).all fun i => f i == 0
theorem allZ_true {f : Nat → Int} (h : ∀ i, i < 20 → f i = 0) : allZ f = true := by unfold allZ; rw [List.all_eq_true]; intro i hi; rw [h i (by simpa using hi)]; rfl
theorem allZ_false {f : Nat → Int} {k : Nat} (hk : k < 20) (h : f k ≠ 0) : allZ f = false := by
  cases e : allZ f
  · rfl
  · unfold allZ at e; rw [List.all_eq_true] at e; exact absurd (by simpa using e k (by simpa using hk)) h
set_option maxHeartbeats 1000000 in
theorem zero_any (b : Bool) (f : Nat → Int) (hf : ∀ i, i < 20 → 0 ≤ f i) (w : World) :
    Calls Tryd.prog 31 #[.agg (numC b f)] w fun e w' => e = .returned (.bool (allZ f)) ∧ Below w.heap.size w w' := by
  have Hf := Lib.hid hf
  clear hf
  have N0 : Hid (NumAt (w.alloc (.cells (numC b f) 28)) w.heap.size b f) := Lib.hid (NumAt.new _ b f rfl)
  go_enter Tryd.func31, Tryd.ntmps31
  go_wp2
  go_loop [3] (fun i => ∃ k : Nat, k ≤ 20 ∧ i = .int .i64 k ∧ Hid (∀ j, j < k → f j = 0)) (fun i => 20 - (intOf i).toNat)
  case atStart => exact ⟨0, by omega, rfl, Lib.hid (fun j h => absurd h (by omega))⟩
  case round =>
    obtain ⟨k, hk, rfl, hz⟩ := hrel
    by_cases hlt : k < 20
    · have c := N0.out.cell hlt
      have p := Hf.out k hlt
      by_cases hp : f k = 0
      · have kp : decide (0 < f k) = false := by simp; omega
        have Hp := Lib.hid hp
        clear hp
        go_wp2
        go_round
        case rel => exact ⟨k + 1, by omega, by go_num, Lib.hid (fun j hj => if h : j = k then h ▸ Hp.out else hz.out j (by omega))⟩
        case measure => simp [intOf]; omega
      · have kp : decide (0 < f k) = true := by simp; omega
        have Hp := Lib.hid (allZ_false hlt hp)
        clear hp
        go_wp2
        go_ret
        exact ⟨by rw [Hp.out]; rfl, by (repeat (first | exact Below.refl _ _ | assumption | (refine Below.drew ?_) | (refine Below.alloc ?_ (by first | (simp; done) | (simp; omega) | omega) _) | (refine Below.setCell ?_ (by first | (simp; done) | (simp; omega) | omega) _) | (refine Below.trans ?_ (Below.mono (by assumption) (by first | (simp; done) | (simp; omega) | omega)))))⟩
    · have Hp := Lib.hid (allZ_true (f := f) (fun i hi => hz.out i (by omega)))
      go_wp2
      go_ret
      exact ⟨by rw [Hp.out]; rfl, by (repeat (first | exact Below.refl _ _ | assumption | (refine Below.drew ?_) | (refine Below.alloc ?_ (by first | (simp; done) | (simp; omega) | omega) _) | (refine Below.setCell ?_ (by first | (simp; done) | (simp; omega) | omega) _) | (refine Below.trans ?_ (Below.mono (by assumption) (by first | (simp; done) | (simp; omega) | omega)))))⟩
/-! ### A whole number stored -/
theorem heap_setRow (w : World) (g k : Nat) (cs : Array Value) (h : k ≠ g) : (w.setRow g cs).heap[k]? = w.heap[k]? := by
  simp [World.setRow, Array.getElem?_modify, Ne.symm h]
theorem Below.setRow' {B : Nat} {a w : World} (h : Below B a w) {g : Nat} (hg : B ≤ g) (cs : Array Value) : Below B a (w.setRow g cs) :=
  h.trans ⟨rfl, rfl, rfl, by simp, fun k hk => heap_setRow w g k cs (by omega)⟩
theorem NumAt.whole {w : World} {g : Nat} {b c : Bool} {f e : Nat → Int} (h : NumAt w g b f) : NumAt (w.setRow g (numC c e)) g c e := by
  unfold NumAt at *
  simp [World.setRow, Array.getElem?_modify, h]
theorem NumAt.wholeOther {w : World} {g g' : Nat} {b : Bool} {f : Nat → Int} (h : NumAt w g b f) (cs : Array Value) (hn : g ≠ g') : NumAt (w.setRow g' cs) g b f := (heap_setRow w g' g cs hn).trans h
theorem numC_ok (b : Bool) (f : Nat → Int) : (numC b f).all (·.oneCell') = true := by
  rw [Array.all_eq_true_iff_forall_mem]
  intro v hv
  simp only [numC, List.mem_toArray, List.mem_cons, List.mem_map] at hv
  rcases hv with rfl | ⟨i, _, rfl⟩ <;> rfl
theorem infoN (b : Bool) (f : Nat → Int) : (Tryd.prog.info? 28).map (·.size) = some (numC b f).size := by rw [numC_size]; kernel_rfl
end Go.Proofs.YtednmodeoofbgaaDoor
