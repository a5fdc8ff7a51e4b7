/-
  errors.As where a sort is looked for: the model's entries for internal/reflectlite at these types; errors.as; errors.As; fault.Kind.
-/
import Derived.Test.YtcipgagpmglikaaGreatDoorUnw
import Derived.Deep.LoopGhost
import Derived.Great.BuildSlice
namespace Go.Proofs.YtcipgagpmglikaaGreatDoor
open Go.RowKit Go.Sort Go.Extern
set_option maxRecDepth 8000
namespace AsS
/-! ### The model's entries -/
def xValueOf : Array Value → Sem Value := fun args => ReflectliteValue.unpack (args.getD 0 (.tuple #[]))
def xType : Array Value → Sem Value := ReflectliteValue.methodAny (ReflectliteValue.valueError "reflectlite.Value.Type" 0) fun t _ _ _ => ReflectliteType.toType t
def xIsNil : Array Value → Sem Value := ReflectliteValue.method (ReflectliteValue.valueError "reflectlite.Value.IsNil" 0) ReflectliteValue.isNil
def xElemV : Array Value → Sem Value := ReflectliteValue.method (ReflectliteValue.valueError "reflectlite.Value.Elem" 0) ReflectliteValue.elem
def xSet : Array Value → Sem Value := ReflectliteValue.set
def xTypeOf : Array Value → Sem Value := ReflectliteType.typeOf
def xElem : Array Value → Sem Value := ReflectliteType.method ReflectliteType.elem
def xImpl : Array Value → Sem Value := ReflectliteType.relation "Implements" ReflectliteType.implements_
def xAsg : Array Value → Sem Value := ReflectliteType.relation "AssignableTo" ReflectliteType.assignableTo
def xKind : Array Value → Sem Value := ReflectliteType.abiMethod fun t => do pure (.int .u8 (← Rtype.kind t))
abbrev ty (t : TypeId) : Value := .iface 114 (.agg #[.pointer (some ⟨8, t, none⟩)])
abbrev vl (t : TypeId) (a : Addr) (f : Int) : Value := .agg #[.pointer (some ⟨8, t, none⟩), .pointer (some a), .int .u64 f]
section
variable (w : World)
theorem valP (t : Addr) : (xValueOf #[.iface 59 (.pointer (some t))]).run Tryz.prog w = .ok (vl 59 ⟨w.heap.size, 0, none⟩ 150) (w.alloc (.cells #[.pointer (some t)] 59)) := by kernel_rfl
theorem typP (a : Addr) : (xType #[vl 59 a 150]).run Tryz.prog w = .ok (ty 59) w := by kernel_rfl
theorem kinP : (xKind #[.pointer (some ⟨8, 59, none⟩)]).run Tryz.prog w = .ok (.int .u8 22) w := by kernel_rfl
theorem kinE : (xKind #[.pointer (some ⟨8, 41, none⟩)]).run Tryz.prog w = .ok (.int .u8 2) w := by kernel_rfl
theorem eleP : (xElem #[.agg #[.pointer (some ⟨8, 59, none⟩)]]).run Tryz.prog w = .ok (ty 41) w := by kernel_rfl
theorem impE : (xImpl #[.agg #[.pointer (some ⟨8, 41, none⟩)], ty 27]).run Tryz.prog w = .ok (.bool true) w := by kernel_rfl
theorem valE (k : Int) : (xValueOf #[.iface 41 (.int .i64 k)]).run Tryz.prog w = .ok (vl 41 ⟨w.heap.size, 0, none⟩ 130) (w.alloc (.cells #[.int .i64 k] 41)) := by kernel_rfl
section
variable (v : Value)
theorem tyS : (xTypeOf #[.iface 41 v]).run Tryz.prog w = .ok (ty 41) w := by kernel_rfl
theorem tyF : (xTypeOf #[.iface 63 v]).run Tryz.prog w = .ok (ty 63) w := by kernel_rfl
theorem tyN : (xTypeOf #[.iface 77 v]).run Tryz.prog w = .ok (ty 77) w := by kernel_rfl
theorem tyO : (xTypeOf #[.iface 87 v]).run Tryz.prog w = .ok (ty 87) w := by kernel_rfl
theorem tyA : (xTypeOf #[.iface 54 v]).run Tryz.prog w = .ok (ty 54) w := by kernel_rfl
theorem tyJ : (xTypeOf #[.iface 84 v]).run Tryz.prog w = .ok (ty 84) w := by kernel_rfl
end
theorem agS : (xAsg #[.agg #[.pointer (some ⟨8, 41, none⟩)], ty 41]).run Tryz.prog w = .ok (.bool true) w := by kernel_rfl
theorem agF : (xAsg #[.agg #[.pointer (some ⟨8, 63, none⟩)], ty 41]).run Tryz.prog w = .ok (.bool false) w := by kernel_rfl
theorem agN : (xAsg #[.agg #[.pointer (some ⟨8, 77, none⟩)], ty 41]).run Tryz.prog w = .ok (.bool false) w := by kernel_rfl
theorem agO : (xAsg #[.agg #[.pointer (some ⟨8, 87, none⟩)], ty 41]).run Tryz.prog w = .ok (.bool false) w := by kernel_rfl
theorem agA : (xAsg #[.agg #[.pointer (some ⟨8, 54, none⟩)], ty 41]).run Tryz.prog w = .ok (.bool false) w := by kernel_rfl
theorem agJ : (xAsg #[.agg #[.pointer (some ⟨8, 84, none⟩)], ty 41]).run Tryz.prog w = .ok (.bool false) w := by kernel_rfl
theorem rlm (z : Sem Value) (f : TypeId → Addr → Nat → Nat → Sem Value) (v : Value) :
    ReflectliteValue.method z f #[v] = (do match ← ReflectliteValue.parts v with | none => z | some (t, a, fl) => f t a fl (fl % 32)) := rfl
theorem parP (a : Addr) : (ReflectliteValue.parts (vl 59 a 150)).run Tryz.prog w = .ok (some (59, a, 150)) w := by kernel_rfl
theorem parE (a : Addr) : (ReflectliteValue.parts (vl 41 a 130)).run Tryz.prog w = .ok (some (41, a, 130)) w := by kernel_rfl
theorem parE2 (a : Addr) : (ReflectliteValue.parts (vl 41 a 386)).run Tryz.prog w = .ok (some (41, a, 386)) w := by kernel_rfl
theorem nilP (a p : Addr) (ha : w.cell? a = some (.pointer (some p))) : (xIsNil #[vl 59 a 150]).run Tryz.prog w = .ok (.bool false) w := by
  rw [xIsNil, rlm]
  simp only [Sem.run_bind, parP, Result.andThen]
  simp [ReflectliteValue.isNil, loadVar, isAgg, underlying, Tryz.underlying59, ha, Result.andThen]
theorem elemOf : (Rtype.elem? 59).run Tryz.prog w = .ok (some 41) w := by kernel_rfl
theorem mkE (p : Addr) : (ReflectliteValue.mk 41 p ReflectliteValue.flagAddr).run Tryz.prog w = .ok (vl 41 p 386) w := by kernel_rfl
theorem eleV (a p : Addr) (ha : w.cell? a = some (.pointer (some p))) : (xElemV #[vl 59 a 150]).run Tryz.prog w = .ok (vl 41 p 386) w := by
  rw [xElemV, rlm]
  simp only [Sem.run_bind, parP, Result.andThen]
  simp [ReflectliteValue.elem, loadVar, isAgg, underlying, Tryz.underlying59, ha, Result.andThen, elemOf, mkE]
theorem rls (v x : Value) : ReflectliteValue.set #[v, x] = (do
    let (some (dst, a, fl), some (src, b, _)) := (← ReflectliteValue.parts v, ← ReflectliteValue.parts x)
      | unsupported (.noEntry "extern/(internal/reflectlite.Value).Set.zeroValue")
    if fl / ReflectliteValue.flagAddr % 2 == 0 then unsupported (.noEntry "extern/(internal/reflectlite.Value).Set.unaddressable")
    let val ← loadVar src b
    if ← Rtype.directlyAssignable dst src then storeVar dst a val
    else if ← Rtype.implements dst src then
      if (← Rtype.kind src) == 20 then
        match val with
        | .nilIface => unsupported (.noEntry "extern/reflectlite: a nil value of one interface type handed on as a value of another")
        | _ => storeVar dst a val
      else storeVar dst a (.iface src val)
    else panicString ("reflectlite.Set: value of type " ++ (← Rtype.spelt src) ++ " is not assignable to type " ++ (← Rtype.spelt dst))
    pure (.tuple #[])) := rfl
theorem dirE : (Rtype.directlyAssignable 41 41).run Tryz.prog w = .ok true w := by kernel_rfl
theorem setE (p b : Nat) (k : Int) (old : Value) (tb tp : TypeId) (hb : Blk w b tb #[.int .i64 k]) (hp : Blk w p tp #[old]) :
    (xSet #[vl 41 ⟨p, 0, none⟩ 386, vl 41 ⟨b, 0, none⟩ 130]).run Tryz.prog w = .ok (.tuple #[]) (w.setRow p #[.int .i64 k]) := by
  have c := hb.cell (j := 0) rfl
  have l : (loadVar 41 ⟨b, 0, none⟩).run Tryz.prog w = .ok (.int .i64 k) w := by simp [loadVar, isAgg, underlying, Tryz.underlying41, c, Result.andThen]
  have s := Go.run_storeVar_one (P := Tryz.prog) w p tp 41 old (.int .i64 k) hp (by kernel_rfl) rfl
  rw [xSet, rls]
  simp only [Sem.run_bind, parE, parE2, Result.andThen]
  simp [ReflectliteValue.flagAddr, l, Result.andThen, dirE, s]
end
end AsS
end Go.Proofs.YtcipgagpmglikaaGreatDoor
