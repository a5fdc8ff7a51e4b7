/-
  The calls of package wide in one shape: what each answers, in whatever later world; a wide number that lies in a variable.
-/
import Derived.Test.YthmkfkmcamjnoaaDoorAdd
import Derived.Test.YthmkfkmcamjnoaaDoorSig
import Derived.Test.YthmkfkmcamjnoaaDoorMul
import Derived.Test.YthmkfkmcamjnoaaDoorDiv
import Derived.Lib.QuietBelow
import Derived.Deep.CutRange
import Derived.Deep.CutBlock
namespace Go.Proofs.YthmkfkmcamjnoaaDoor
open Go.RowKit Go.Sort
/-- What a call answers, in whatever later world. -/
def Gives (f : FuncId) (args : Array Value) (v : Value) : Prop := ∀ w, Glob w → Calls Tryd.prog f args w fun e w' => e = .returned v ∧ Below w.heap.size w w'
theorem Gives.as {f : FuncId} {args args' : Array Value} {v v' : Value} (h : Gives f args v) (ha : args = args') (hv : v = v') : Gives f args' v' := by subst ha hv; exact h
theorem Glob.regrown {w : World} (h : Glob w) (d : Nat) (os : Array Obj) : Glob (grow (redrawn w d) os) := h.below (below_regrown w d os)
/-- .. met in a region that draws its order. -/
theorem Gives.quiet {f : FuncId} {args : Array Value} {v : Value} (h : Gives f args v) {w : World} (hg : Glob w) (d : Nat) (os : Array Obj) :
    Calls Tryd.prog f args (grow (redrawn w d) os) fun e w'' => e = .returned v ∧ ∃ p : Regrown, w'' = grow (redrawn w p.d) p.os :=
  Calls.regrown_of (h _ (hg.regrown d os))
theorem g_of (n : Int) (h : -9223372036854775808 ≤ n ∧ n ≤ 9223372036854775807) : Gives 61 #[.int .i64 n] (.agg #[.int .i64 (hiOf n), .int .u64 (loOf n)]) := fun w _ => of_any n h w
theorem g_add (x y : Int) (hx : In x) (hy : In y) : Gives 39 #[.agg #[.int .i64 (hiOf x), .int .u64 (loOf x)], .agg #[.int .i64 (hiOf y), .int .u64 (loOf y)]] (.agg #[.int .i64 (hiOf (sat (x + y))), .int .u64 (loOf (sat (x + y)))]) := fun w hg => add_any x y hx hy w hg
theorem g_sub (x y : Int) (hx : In x) (hy : In y) : Gives 45 #[.agg #[.int .i64 (hiOf x), .int .u64 (loOf x)], .agg #[.int .i64 (hiOf y), .int .u64 (loOf y)]] (.agg #[.int .i64 (hiOf (sat (x - y))), .int .u64 (loOf (sat (x - y)))]) := fun w hg => sub_any x y hx hy w hg
theorem g_neg (x : Int) (hx : In x) : Gives 75 #[.agg #[.int .i64 (hiOf x), .int .u64 (loOf x)]] (.agg #[.int .i64 (hiOf (sat (-x))), .int .u64 (loOf (sat (-x)))]) := fun w hg => neg_any x hx w hg
theorem g_cmp (x y : Int) : Gives 22 #[.agg #[.int .i64 (hiOf x), .int .u64 (loOf x)], .agg #[.int .i64 (hiOf y), .int .u64 (loOf y)]] (.int .i64 (sgn x y)) := fun w _ => cmp_any x y w
theorem g_mul (a b : Int) (ha : -9223372036854775808 ≤ a ∧ a ≤ 9223372036854775807) (hb : -9223372036854775808 ≤ b ∧ b ≤ 9223372036854775807) : Gives 47 #[.int .i64 a, .int .i64 b] (.agg #[.int .i64 (hiOf (sat (a * b))), .int .u64 (loOf (sat (a * b)))]) := fun w hg => wmul_any a b ha hb w hg
theorem g_div (x n : Int) (hx : In x) (hn : Word n) (h0 : 0 < n) : Gives 44 #[.agg #[.int .i64 (hiOf x), .int .u64 (loOf x)], .int .u64 n] (.tuple #[.agg #[.int .i64 (hiOf (x / n)), .int .u64 (loOf (x / n))], .int .u64 (x % n), .bool true]) := fun w _ => wdiv_any x n hx hn h0 w
theorem g_div0 (x : Int) : Gives 44 #[.agg #[.int .i64 (hiOf x), .int .u64 (loOf x)], .int .u64 0] (.tuple #[.agg #[.int .i64 0, .int .u64 0], .int .u64 0, .bool false]) := fun w _ => wdiv_zero x w
/-- A variable that holds the number x, in block b. -/
def At (w : World) (b : Nat) (x : Int) : Prop := w.cell? ⟨b, 0, none⟩ = some (.int .i64 (hiOf x)) ∧ w.cell? ⟨b, 1, none⟩ = some (.int .u64 (loOf x)) ∧ b < w.heap.size
theorem At.below {w w' : World} {b : Nat} {x : Int} (h : At w b x) (hb : Below w.heap.size w w') : At w' b x :=
  ⟨by rw [hb.cell (by exact h.2.2)]; exact h.1, by rw [hb.cell (by exact h.2.2)]; exact h.2.1, by have := hb.size; have := h.2.2; omega⟩
theorem At.alloc {w : World} {b : Nat} {x : Int} (h : At w b x) (o : Obj) : At (w.alloc o) b x := h.below (below_alloc w o)
theorem At.new (w : World) (x : Int) (t : TypeId) {b : Nat} (hb : b = w.heap.size) {v0 v1 : Value} (h0 : v0 = .int .i64 (hiOf x)) (h1 : v1 = .int .u64 (loOf x)) : At (w.alloc (.cells #[v0, v1] t)) b x := by
  subst hb h0 h1
  exact ⟨World.cell?_alloc_at _ _ _ _ rfl, World.cell?_alloc_at _ _ _ _ rfl, by simp⟩
theorem below_quiet {W : World} (d : Nat) (os : Array Obj) : Below W.heap.size W (grow (redrawn W d) os) := below_regrown W d os
theorem At.q {W : World} {b : Nat} {x : Int} (h : At W b x) : (∀ d os, (grow (redrawn W d) os).cell? ⟨b, 0, none⟩ = some (.int .i64 (hiOf x))) ∧ (∀ d os, (grow (redrawn W d) os).cell? ⟨b, 1, none⟩ = some (.int .u64 (loOf x))) :=
  ⟨cell_regrown h.1, cell_regrown h.2.1⟩
def Laid (W : World) (v : Value) (x : Int) : Prop := ∃ p, v = .pointer (some ⟨p, 0, none⟩) ∧ At W p x
theorem Laid.on {W W' : World} {v : Value} {x : Int} (h : Laid W v x) (hb : Below W.heap.size W W') : Laid W' v x := let ⟨p, e, a⟩ := h; ⟨p, e, a.below hb⟩
/-- Two new variables, filled one behind the other. -/
theorem At.drew {W : World} {p : Nat} {u : Int} (h : At W p u) : At W.drew p u := h
theorem At.stored {W : World} {p : Nat} {u X : Int} (h : At W p u) : At ((W.setCell ⟨p, 0, none⟩ (.int .i64 (hiOf X))).setCell ⟨p, 1, none⟩ (.int .u64 (loOf X))) p X := by
  obtain ⟨h0, h1, h2⟩ := h
  refine ⟨?_, ?_, by simpa using h2⟩
  · rw [World.cell?_setCell_other _ _ _ _ (by simp)]
    exact World.cell?_setCell_same _ _ _ h0
  · exact World.cell?_setCell_same _ _ _ (by rw [World.cell?_setCell_other _ _ _ _ (by simp)]; exact h1)
theorem At.other {W : World} {p : Nat} {X : Int} (h : At W p X) {a : Addr} (ha : a.block ≠ p) (v : Value) : At (W.setCell a v) p X := by
  obtain ⟨h0, h1, h2⟩ := h
  exact ⟨by rw [World.cell?_setCell_other _ _ _ _ (fun e => ha (by rw [e]))]; exact h0, by rw [World.cell?_setCell_other _ _ _ _ (fun e => ha (by rw [e]))]; exact h1, by simpa using h2⟩
theorem keep4 {W W' : World} {p q r s : Nat} {x y z u : Int} (hb : Below W.heap.size W W') (h1 : At W p x) (h2 : At W q y) (h3 : At W r z) (h4 : At W s u) :
    W'.cell? ⟨p, 0, none⟩ = some (.int .i64 (hiOf x)) ∧ W'.cell? ⟨p, 1, none⟩ = some (.int .u64 (loOf x)) ∧ W'.cell? ⟨q, 0, none⟩ = some (.int .i64 (hiOf y)) ∧ W'.cell? ⟨q, 1, none⟩ = some (.int .u64 (loOf y)) ∧
    W'.cell? ⟨r, 0, none⟩ = some (.int .i64 (hiOf z)) ∧ W'.cell? ⟨r, 1, none⟩ = some (.int .u64 (loOf z)) ∧ W'.cell? ⟨s, 0, none⟩ = some (.int .i64 (hiOf u)) ∧ W'.cell? ⟨s, 1, none⟩ = some (.int .u64 (loOf u)) :=
  ⟨(h1.below hb).1, (h1.below hb).2.1, (h2.below hb).1, (h2.below hb).2.1, (h3.below hb).1, (h3.below hb).2.1, (h4.below hb).1, (h4.below hb).2.1⟩
theorem keep3 {W W' : World} {p q r : Nat} {x y z : Int} (hb : Below W.heap.size W W') (h1 : At W p x) (h2 : At W q y) (h3 : At W r z) :
    W'.cell? ⟨p, 0, none⟩ = some (.int .i64 (hiOf x)) ∧ W'.cell? ⟨p, 1, none⟩ = some (.int .u64 (loOf x)) ∧ W'.cell? ⟨q, 0, none⟩ = some (.int .i64 (hiOf y)) ∧ W'.cell? ⟨q, 1, none⟩ = some (.int .u64 (loOf y)) ∧
    W'.cell? ⟨r, 0, none⟩ = some (.int .i64 (hiOf z)) ∧ W'.cell? ⟨r, 1, none⟩ = some (.int .u64 (loOf z)) :=
  ⟨(h1.below hb).1, (h1.below hb).2.1, (h2.below hb).1, (h2.below hb).2.1, (h3.below hb).1, (h3.below hb).2.1⟩
theorem keep22 {W W' : World} {p q : Nat} {x y : Int} (hb : Below W.heap.size W W') (h1 : At W p x) (h2 : At W q y) :
    W'.cell? ⟨p, 0, none⟩ = some (.int .i64 (hiOf x)) ∧ W'.cell? ⟨p, 1, none⟩ = some (.int .u64 (loOf x)) ∧ W'.cell? ⟨q, 0, none⟩ = some (.int .i64 (hiOf y)) ∧ W'.cell? ⟨q, 1, none⟩ = some (.int .u64 (loOf y)) :=
  ⟨(h1.below hb).1, (h1.below hb).2.1, (h2.below hb).1, (h2.below hb).2.1⟩
theorem sgn_vals (x y : Int) : (sgn x y = -1 ∧ x < y) ∨ (0 ≤ sgn x y ∧ ¬ x < y) := by unfold sgn; split <;> (try split) <;> omega
theorem div_in' {x n : Int} (hx : In x) (hn : 0 < n) : In (x / n) := by
  by_cases h : 0 ≤ x
  · exact div_in hx h hn
  · have e := div_below (x := x) hn
    have c : In (-1 - x) := by unfold In at *; omega
    have := div_in c (by omega) hn
    unfold In at *; omega
theorem half_in {x : Int} (hx : In x) : In (x / 2) := by unfold In at *; omega
/-- What a division answers. -/
def DivOut (x n q r : Int) (ok : Bool) : Prop := (0 < n ∧ q = x / n ∧ r = x % n ∧ ok = true) ∨ (n = 0 ∧ q = 0 ∧ r = 0 ∧ ok = false)
theorem keep2 {W W' : World} {p : Nat} {x : Int} (hb : Below W.heap.size W W') (h1 : At W p x) : W'.cell? ⟨p, 0, none⟩ = some (.int .i64 (hiOf x)) ∧ W'.cell? ⟨p, 1, none⟩ = some (.int .u64 (loOf x)) :=
  ⟨(h1.below hb).1, (h1.below hb).2.1⟩
end Go.Proofs.YthmkfkmcamjnoaaDoor
