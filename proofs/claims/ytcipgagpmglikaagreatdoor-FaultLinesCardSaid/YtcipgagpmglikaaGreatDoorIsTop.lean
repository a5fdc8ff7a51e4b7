/-
  errors.Is, and fault.Is.
-/
import Derived.Test.YtcipgagpmglikaaGreatDoorIs
namespace Go.Proofs.YtcipgagpmglikaaGreatDoor
open Go.RowKit Go.Sort Go.Extern
set_option maxRecDepth 8000
/-- The model's entry for Comparable. -/
def xCmp : Array Value → Sem Value := ReflectliteType.method fun t => do Rtype.noPackHeld "Comparable" t; pure (.bool (← typeInfo t).comparable)
theorem tyS (v : Value) (w : World) : (ReflectliteType.typeOf #[.iface 41 v]).run Tryz.prog w = .ok (.iface 114 (.agg #[.pointer (some ⟨8, 41, none⟩)])) w := by kernel_rfl
theorem tyF (v : Value) (w : World) : (ReflectliteType.typeOf #[.iface 63 v]).run Tryz.prog w = .ok (.iface 114 (.agg #[.pointer (some ⟨8, 63, none⟩)])) w := by kernel_rfl
theorem tyO (v : Value) (w : World) : (ReflectliteType.typeOf #[.iface 87 v]).run Tryz.prog w = .ok (.iface 114 (.agg #[.pointer (some ⟨8, 87, none⟩)])) w := by kernel_rfl
theorem cmS (w : World) : (xCmp #[.agg #[.pointer (some ⟨8, 41, none⟩)]]).run Tryz.prog w = .ok (.bool true) w := by kernel_rfl
theorem cmF (w : World) : (xCmp #[.agg #[.pointer (some ⟨8, 63, none⟩)]]).run Tryz.prog w = .ok (.bool true) w := by kernel_rfl
theorem cmO (w : World) : (xCmp #[.agg #[.pointer (some ⟨8, 87, none⟩)]]).run Tryz.prog w = .ok (.bool true) w := by kernel_rfl
set_option maxHeartbeats 2000000 in
theorem t_is (t e : Er) (v tv : Value) (hl : t.leaf = true) (w : World) (he : IsEr w e v) (ht : IsEr w t tv) :
    Calls Tryz.prog 25 #[v, tv] w fun ex w' => ex = .returned (.bool (e.has t)) ∧ Below w.heap.size w w' := by
  have X := Lib.hid (is_in t tv hl e.size e v w (Nat.le_refl _) he ht)
  have h8 := @run_callFunc_extern Tryz.prog 38 _ ReflectliteType.typeOf Tryz.func38 (by kernel_rfl) (by kernel_rfl) (by kernel_rfl) (by kernel_rfl)
  have h32 := @run_callFunc_extern Tryz.prog 122 _ xCmp Tryz.func122 (by kernel_rfl) (by kernel_rfl) (by kernel_rfl) (by kernel_rfl)
  obtain ⟨et, ex, rfl⟩ := he.iface
  generalize e.has t = r at *
  clear he
  cases t with
  | sort k =>
    cases ht
    have t1 := tyS
    have t2 := cmS
    go_enter Tryz.func25, Tryz.ntmps25
    go_wp2_with (refine X.out.mono ?_; rintro e w2 ⟨rfl, hb⟩)
    go_ret
    exact ⟨rfl, hb⟩
  | fault k o =>
    cases ht
    have t1 := tyF
    have t2 := cmF
    go_enter Tryz.func25, Tryz.ntmps25
    go_wp2_with (refine X.out.mono ?_; rintro e w2 ⟨rfl, hb⟩)
    go_ret
    exact ⟨rfl, hb⟩
  | own a =>
    obtain ⟨rfl, -⟩ := ht
    have t1 := tyO
    have t2 := cmO
    go_enter Tryz.func25, Tryz.ntmps25
    go_wp2_with (refine X.out.mono ?_; rintro e w2 ⟨rfl, hb⟩)
    go_ret
    exact ⟨rfl, hb⟩
  | _ => cases hl
theorem t_faultIs (e : Er) (v : Value) (k : Int) (w : World) (he : IsEr w e v) : Calls Tryz.prog 15 #[v, .int .i64 k] w fun ex w' => ex = .returned (.bool (e.has (.sort k))) ∧ Below w.heap.size w w' := by
  have X := Lib.hid (t_is (.sort k) e v _ rfl w he rfl)
  generalize e.has (.sort k) = r at *
  clear he
  go_enter Tryz.func15, Tryz.ntmps15
  go_wp2_with (refine X.out.mono ?_; rintro e w2 ⟨rfl, hb⟩)
  go_ret
  exact ⟨rfl, hb⟩
end Go.Proofs.YtcipgagpmglikaaGreatDoor
