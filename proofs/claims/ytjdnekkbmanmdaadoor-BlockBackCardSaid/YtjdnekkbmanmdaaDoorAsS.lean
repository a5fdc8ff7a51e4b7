/-
  errors.As where a sort is looked for: the model's entries for internal/reflectlite at these types; errors.as; errors.As; fault.Kind.
-/
import Derived.Test.YtjdnekkbmanmdaaDoorUnw
import Derived.Deep.LoopGhost
import Derived.Great.BuildSlice
namespace Go.Proofs.YtjdnekkbmanmdaaDoor
open Go.RowKit Go.Sort Go.Extern
set_option maxRecDepth 8000
namespace AsS
/-! ### The model's entries -/
def xValueOf : Array Value → Sem Value := fun args => ReflectliteValue.unpack (args.getD 0 (.tuple #[]))
def xType : Array Value → Sem Value := ReflectliteValue.methodAny (ReflectliteValue.valueError "reflectlite.Value.Type" 0) fun t _ _ _ => ReflectliteType.toType t
def xIsNil : Array Value → Sem Value := ReflectliteValue.method (ReflectliteValue.valueError "reflectlite.Value.IsNil" 0) ReflectliteValue.isNil
def xElemV : Array Value → Sem Value := ReflectliteValue.method (ReflectliteValue.valueError "reflectlite.Value.Elem" 0) ReflectliteValue.elem
def xSet : Array Value → Sem Value := ReflectliteValue.set
def xTypeOf : Array Value → Sem Value := ReflectliteType.typeOf
def xElem : Array Value → Sem Value := ReflectliteType.method ReflectliteType.elem
def xImpl : Array Value → Sem Value := ReflectliteType.relation "Implements" ReflectliteType.implements_
def xAsg : Array Value → Sem Value := ReflectliteType.relation "AssignableTo" ReflectliteType.assignableTo
def xKind : Array Value → Sem Value := ReflectliteType.abiMethod fun t => do pure (.int .u8 (← Rtype.kind t))
abbrev ty (t : TypeId) : Value := .iface 97 (.agg #[.pointer (some ⟨1, t, none⟩)])
abbrev vl (t : TypeId) (a : Addr) (f : Int) : Value := .agg #[.pointer (some ⟨1, t, none⟩), .pointer (some a), .int .u64 f]
section
variable (w : World)
theorem valP (t : Addr) : (xValueOf #[.iface 67 (.pointer (some t))]).run Tryd.prog w = .ok (vl 67 ⟨w.heap.size, 0, none⟩ 150) (w.alloc (.cells #[.pointer (some t)] 67)) := by kernel_rfl
theorem typP (a : Addr) : (xType #[vl 67 a 150]).run Tryd.prog w = .ok (ty 67) w := by kernel_rfl
theorem kinP : (xKind #[.pointer (some ⟨1, 67, none⟩)]).run Tryd.prog w = .ok (.int .u8 22) w := by kernel_rfl
theorem kinE : (xKind #[.pointer (some ⟨1, 65, none⟩)]).run Tryd.prog w = .ok (.int .u8 2) w := by kernel_rfl
theorem eleP : (xElem #[.agg #[.pointer (some ⟨1, 67, none⟩)]]).run Tryd.prog w = .ok (ty 65) w := by kernel_rfl
theorem impE : (xImpl #[.agg #[.pointer (some ⟨1, 65, none⟩)], ty 32]).run Tryd.prog w = .ok (.bool true) w := by kernel_rfl
theorem valE (k : Int) : (xValueOf #[.iface 65 (.int .i64 k)]).run Tryd.prog w = .ok (vl 65 ⟨w.heap.size, 0, none⟩ 130) (w.alloc (.cells #[.int .i64 k] 65)) := by kernel_rfl
section
variable (v : Value)
theorem tyS : (xTypeOf #[.iface 65 v]).run Tryd.prog w = .ok (ty 65) w := by kernel_rfl
theorem tyF : (xTypeOf #[.iface 69 v]).run Tryd.prog w = .ok (ty 69) w := by kernel_rfl
theorem tyN : (xTypeOf #[.iface 76 v]).run Tryd.prog w = .ok (ty 76) w := by kernel_rfl
end
theorem agS : (xAsg #[.agg #[.pointer (some ⟨1, 65, none⟩)], ty 65]).run Tryd.prog w = .ok (.bool true) w := by kernel_rfl
theorem agF : (xAsg #[.agg #[.pointer (some ⟨1, 69, none⟩)], ty 65]).run Tryd.prog w = .ok (.bool false) w := by kernel_rfl
theorem agN : (xAsg #[.agg #[.pointer (some ⟨1, 76, none⟩)], ty 65]).run Tryd.prog w = .ok (.bool false) w := by kernel_rfl
theorem rlm (z : Sem Value) (f : TypeId → Addr → Nat → Nat → Sem Value) (v : Value) :
    ReflectliteValue.method z f #[v] = (do match ← ReflectliteValue.parts v with | none => z | some (t, a, fl) => f t a fl (fl % 32)) := rfl
theorem parP (a : Addr) : (ReflectliteValue.parts (vl 67 a 150)).run Tryd.prog w = .ok (some (67, a, 150)) w := by kernel_rfl
theorem parE (a : Addr) : (ReflectliteValue.parts (vl 65 a 130)).run Tryd.prog w = .ok (some (65, a, 130)) w := by kernel_rfl
theorem parE2 (a : Addr) : (ReflectliteValue.parts (vl 65 a 386)).run Tryd.prog w = .ok (some (65, a, 386)) w := by kernel_rfl
theorem nilP (a p : Addr) (ha : w.cell? a = some (.pointer (some p))) : (xIsNil #[vl 67 a 150]).run Tryd.prog w = .ok (.bool false) w := by
  rw [xIsNil, rlm]
  simp only [Sem.run_bind, parP, Result.andThen]
  simp [ReflectliteValue.isNil, loadVar, isAgg, underlying, Tryd.underlying67, ha, Result.andThen]
theorem elemOf : (Rtype.elem? 67).run Tryd.prog w = .ok (some 65) w := by kernel_rfl
theorem mkE (p : Addr) : (ReflectliteValue.mk 65 p ReflectliteValue.flagAddr).run Tryd.prog w = .ok (vl 65 p 386) w := by kernel_rfl
theorem eleV (a p : Addr) (ha : w.cell? a = some (.pointer (some p))) : (xElemV #[vl 67 a 150]).run Tryd.prog w = .ok (vl 65 p 386) w := by
  rw [xElemV, rlm]
  simp only [Sem.run_bind, parP, Result.andThen]
  simp [ReflectliteValue.elem, loadVar, isAgg, underlying, Tryd.underlying67, ha, Result.andThen, elemOf, mkE]
theorem rls (v x : Value) : ReflectliteValue.set #[v, x] = (do
    let (some (dst, a, fl), some (src, b, _)) := (← ReflectliteValue.parts v, ← ReflectliteValue.parts x)
      | unsupported (.noEntry "extern/(internal/reflectlite.Value).Set.zeroValue")
    if fl / ReflectliteValue.flagAddr % 2 == 0 then unsupported (.noEntry "extern/(internal/reflectlite.Value).Set.unaddressable")
    let val ← loadVar src b
    if ← Rtype.directlyAssignable dst src then storeVar dst a val
    else if ← Rtype.implements dst src then
      if (← Rtype.kind src) == 20 then
        match val with
        | .nilIface => unsupported (.noEntry "extern/reflectlite: a nil value of one interface type handed on as a value of another")
        | _ => storeVar dst a val
      else storeVar dst a (.iface src val)
    else panicString ("reflectlite.Set: value of type " ++ (← Rtype.spelt src) ++ " is not assignable to type " ++ (← Rtype.spelt dst))
    pure (.tuple #[])) := rfl
theorem dirE : (Rtype.directlyAssignable 65 65).run Tryd.prog w = .ok true w := by kernel_rfl
theorem setE (p b : Nat) (k : Int) (old : Value) (tb tp : TypeId) (hb : Blk w b tb #[.int .i64 k]) (hp : Blk w p tp #[old]) :
    (xSet #[vl 65 ⟨p, 0, none⟩ 386, vl 65 ⟨b, 0, none⟩ 130]).run Tryd.prog w = .ok (.tuple #[]) (w.setRow p #[.int .i64 k]) := by
  have c := hb.cell (j := 0) rfl
  have l : (loadVar 65 ⟨b, 0, none⟩).run Tryd.prog w = .ok (.int .i64 k) w := by simp [loadVar, isAgg, underlying, Tryd.underlying65, c, Result.andThen]
  have s := Go.run_storeVar_one (P := Tryd.prog) w p tp 65 old (.int .i64 k) hp (by kernel_rfl) rfl
  rw [xSet, rls]
  simp only [Sem.run_bind, parE, parE2, Result.andThen]
  simp [ReflectliteValue.flagAddr, l, Result.andThen, dirE, s]
end
end AsS
end Go.Proofs.YtjdnekkbmanmdaaDoor
