/-
  Steps of a region that only reads: a conversion, a move, a piece of a slice, told for all worlds of the region.
-/
import Derived.Test.YtjdnekkbmanmdaaLow
namespace Go.Proofs.Ytjdnekkbmanmdaa
open Go.RowKit Go.Sort
theorem q_convert {ops : Array Oper} {C : World → Prop} {Q : Act → Prop} {a : Act} {o : Oper} {rest : List Oper} (hw : Region.wanted o (yielded ops a.tmps) = true) (s d : TypeId) (x : Operand) (ho : o.op = .convert s d x)
    (v : Value) (hx : a.eval x = v) (V : Value) (hS : ∀ w, C w → (convert s d v).run Try.prog w = .ok V w) (h : wpQuiet Try.prog ops C Q rest (a.put o.dst V)) : wpQuiet Try.prog ops C Q (o :: rest) a :=
  BigFrame.wpQuiet_want hw fun K hK => ⟨V, fun w hw => by
    have e : (execOp a.eval o).run Try.prog w = .ok (.value V) w := by
      unfold execOp
      simp only [ho, hx, Sem.run_bind, hS w hw, Result.andThen_ok, Sem.run_pure]
    unfold Oper.quietAt
    rw [e]
    exact ⟨rfl, rfl⟩, hK _ h⟩
theorem q_move {ops : Array Oper} {C : World → Prop} {Q : Act → Prop} {a : Act} {o : Oper} {rest : List Oper} (hw : Region.wanted o (yielded ops a.tmps) = true) (x : Operand) (ho : o.op = .move x)
    (v : Value) (hx : a.eval x = v) (h : wpQuiet Try.prog ops C Q rest (a.put o.dst v)) : wpQuiet Try.prog ops C Q (o :: rest) a :=
  BigFrame.wpQuiet_want hw fun K hK => BigFrame.quiet_move x ho (by rw [hx]; exact hK _ h)
/-- Whatever operation, by its run. -/
theorem q_run {ops : Array Oper} {C : World → Prop} {Q : Act → Prop} {a : Act} {o : Oper} {rest : List Oper} (hw : Region.wanted o (yielded ops a.tmps) = true) (V : Value)
    (hS : ∀ w, C w → (execOp a.eval o).run Try.prog w = .ok (.value V) w) (h : wpQuiet Try.prog ops C Q rest (a.put o.dst V)) : wpQuiet Try.prog ops C Q (o :: rest) a :=
  BigFrame.wpQuiet_want hw fun K hK => ⟨V, fun w hw => by
    unfold Oper.quietAt
    rw [hS w hw]
    exact ⟨rfl, rfl⟩, hK _ h⟩
theorem q_slice {ops : Array Oper} {C : World → Prop} {Q : Act → Prop} {a : Act} {o : Oper} {rest : List Oper} (hw : Region.wanted o (yielded ops a.tmps) = true) (t : TypeId) (x lo hi : Operand) (ho : o.op = .slice t x (some lo) (some hi) none)
    (v l h : Value) (hx : a.eval x = v) (hl : a.eval lo = l) (hh : a.eval hi = h) (V : Value) (ht : Try.prog.underlying t = some (.slice (Try.prog.elem t))) (hS : ∀ w, C w → (Instr.slice t v (some l) (some h) none).run Try.prog w = .ok V w) (hk : wpQuiet Try.prog ops C Q rest (a.put o.dst V)) : wpQuiet Try.prog ops C Q (o :: rest) a :=
  q_run hw V (fun w hw => by
    unfold execOp
    simp only [ho, hx, hl, hh, Option.map_some, Option.map_none, Sem.run_bind, run_sliceAt_slice w t v (some l) (some h) none ht, hS w hw, Result.andThen_ok, Sem.run_pure]) hk
end Go.Proofs.Ytjdnekkbmanmdaa
