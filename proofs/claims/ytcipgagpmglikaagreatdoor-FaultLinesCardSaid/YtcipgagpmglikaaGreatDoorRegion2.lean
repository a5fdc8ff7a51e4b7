/-
  More on a region that draws its order: what has not come up yet, since what it waits for has not.
-/
import Derived.Test.YtcipgagpmglikaaGreatDoorRegion
namespace Go.Proofs.YtcipgagpmglikaaGreatDoor
open Go.RowKit Go.Sort
section
variable {P : Program} {l : List Oper} {kd : Nat → Kind} {val : Nat → Nat → Value} {obj : Nat → Obj} {w0 : World} {a0 : Act} {pre : List Nat} {B : Nat}
theorem Come.notYet {D : Nat → Bool} {own : Nat → Nat} {a : Act} {w : World} (h : Come l kd val obj pre B w0 a0 D own a w) {i j : Nat} {o : Oper} (hj : l[j]? = some o) (hb : o.after.any (fun e => Region.binds .any e && e.on == i) = true) (hn : D i = false) : D j = false := by
  cases e : D j with
  | false => rfl
  | true =>
    obtain ⟨x, hx, hb⟩ := Array.any_eq_true'.1 hb
    simp only [Bool.and_eq_true, beq_iff_eq] at hb
    have := h.closed j o hj e x hx hb.1
    rw [hb.2, hn] at this
    cases this
/-- A slot that operation j alone writes, ahead of it. -/
theorem Come.was' {D : Nat → Bool} {own : Nat → Nat} {a : Act} {w : World} (h : Come l kd val obj pre B w0 a0 D own a w) {t j : Nat} (hj : D j = false) (ht : (List.range l.length).all (fun i => i == j || (l[i]?.getD default).dst != some t) = true) : a.eval (.tmp t) = a0.eval (.tmp t) := by
  simp only [Act.eval, Array.getD_eq_getD_getElem?]
  rw [h.rest t fun i o hi hd => by
    have lt : i < l.length := (List.getElem?_eq_some_iff.1 hi).1
    have := List.all_eq_true.1 ht i (List.mem_range.2 lt)
    rw [hi] at this
    simp at this
    rcases this with rfl | h
    · rw [hj] at hd; cases hd
    · exact h]
section
variable {i : Nat} {o : Oper} {own : Nat → Nat} {a : Act} {w : World} {Q : Exit → Act → World → Prop}
/-- A guard, by what the operation that it asks left in its slot. -/
theorem wanted_by {j d : Nat} {b c : Bool} {oj : Oper} (hg : o.guard = some (j, b)) (hj : l[j]? = some oj) (hd : oj.dst = some d) (hs : Nat.ble (d + 1) a.tmps.size = true) (hv : a.eval (.tmp d) = .bool c) : Region.wanted o (yielded l.toArray a.tmps) = (c == b) := by
  have hlt : d < a.tmps.size := Nat.le_of_ble_eq_true hs
  have hv : a.tmps[d]? = some (.bool c) := by
    simp only [Act.eval, Array.getD_eq_getD_getElem?] at hv
    rw [Array.getElem?_eq_getElem hlt] at hv ⊢
    simpa using hv
  unfold Region.wanted
  rw [hg]
  unfold yielded
  simp [hj, hd, hv]
theorem does_skip (hw : Region.wanted o (yielded l.toArray a.tmps) = false) (hk : kd i = .gives) (hv : val i 0 = undef) : Does P l kd val obj Q i o own a w := fun K hK => by
  rw [if_neg (by rw [hw]; simp)]
  have := hK 0 w (by unfold Left; rw [hk]; exact Below.refl _ _)
  rw [hv] at this
  exact this
theorem does_value_if (hw : Region.wanted o (yielded l.toArray a.tmps) = true) (hk : kd i = .gives) (h : (execOp a.eval o).run P w = .ok (.value (val i 0)) w) : Does P l kd val obj Q i o own a w := fun K hK => by
  rw [if_pos hw]
  unfold Oper.wp
  rw [h]
  exact hK 0 w (by unfold Left; rw [hk]; exact Below.refl _ _)
theorem does_go_if (hw : Region.wanted o (yielded l.toArray a.tmps) = true) (hk : kd i = .gives) {x : Operand} {as : Array Operand} {ts : Array TypeId} (ho : o.op = .call ⟨.value x, as, ts⟩) {f : FuncId} {fn : Func} {first cap : Array Value} (hx : a.eval x = .func (.func f) first cap)
    (hf : P.funcs[f]? = some fn) (hn : (fn.name == "runtime.NumGoroutine") = false) (hb : fn.body.isNone = false) (vs : Array Value) (hv : first ++ as.map a.eval ++ cap = vs)
    (hc : Calls P f vs w fun e w' => e = .returned (val i 0) ∧ Below w.heap.size w w') : Does P l kd val obj Q i o own a w := fun K hK => by
  rw [if_pos hw]
  unfold Oper.wp
  have e : (execOp a.eval o).run P w = .ok (.enter f vs) w := hv ▸ run_call_go ho hx hf hn hb
  rw [e]
  refine hc.mono ?_
  rintro e w' ⟨rfl, hb⟩
  exact hK 0 w' (by unfold Left; rw [hk]; exact hb)
theorem does_load_if (hw : Region.wanted o (yielded l.toArray a.tmps) = true) (hk : kd i = .gives) (ty : TypeId) (x : Operand) (ho : o.op = .load ty x) (g : Nat) (hx : a.eval x = .pointer (some ⟨g, 0, none⟩)) (t : TypeId) (cs : Array Value) (fr : Nat × Nat) (d : TypeDesc)
    (hh : w.heap[g]? = some (.cells cs t fr)) (hu : P.underlying ty = some d) (hd : (match d with | .struct _ | .array _ _ => true | _ => false) = true) (hi : (P.info? ty).map (·.size) = some cs.size) (hv : val i 0 = .agg cs) :
    Does P l kd val obj Q i o own a w := fun K hK => by
  rw [if_pos hw]
  exact wp_load_row ty x ho g hx t cs fr d hh hu hd hi (hv ▸ hK 0 w (by unfold Left; rw [hk]; exact Below.refl _ _))
end
end
end Go.Proofs.YtcipgagpmglikaaGreatDoor
