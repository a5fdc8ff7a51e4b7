/-
  errors.Is, and fault.Is.
-/
import Derived.Test.YtjdnekkbmanmdaaDoorIs
namespace Go.Proofs.YtjdnekkbmanmdaaDoor
open Go.RowKit Go.Sort Go.Extern
set_option maxRecDepth 8000
/-- The model's entry for Comparable. -/
def xCmp : Array Value → Sem Value := ReflectliteType.method fun t => do Rtype.noPackHeld "Comparable" t; pure (.bool (← typeInfo t).comparable)
theorem tyS (v : Value) (w : World) : (ReflectliteType.typeOf #[.iface 65 v]).run Tryd.prog w = .ok (.iface 97 (.agg #[.pointer (some ⟨1, 65, none⟩)])) w := by kernel_rfl
theorem tyF (v : Value) (w : World) : (ReflectliteType.typeOf #[.iface 69 v]).run Tryd.prog w = .ok (.iface 97 (.agg #[.pointer (some ⟨1, 69, none⟩)])) w := by kernel_rfl
theorem cmS (w : World) : (xCmp #[.agg #[.pointer (some ⟨1, 65, none⟩)]]).run Tryd.prog w = .ok (.bool true) w := by kernel_rfl
theorem cmF (w : World) : (xCmp #[.agg #[.pointer (some ⟨1, 69, none⟩)]]).run Tryd.prog w = .ok (.bool true) w := by kernel_rfl
set_option maxHeartbeats 2000000 in
theorem t_is (t e : Er) (v tv : Value) (hl : t.leaf = true) (w : World) (he : IsEr w e v) (ht : IsEr w t tv) :
    Calls Tryd.prog 27 #[v, tv] w fun ex w' => ex = .returned (.bool (e.has t)) ∧ Below w.heap.size w w' := by
  have X := Lib.hid (is_in t tv hl e.size e v w (Nat.le_refl _) he ht)
  have h8 := @run_callFunc_extern Tryd.prog 37 _ ReflectliteType.typeOf Tryd.func37 (by kernel_rfl) (by kernel_rfl) (by kernel_rfl) (by kernel_rfl)
  have h32 := @run_callFunc_extern Tryd.prog 71 _ xCmp Tryd.func71 (by kernel_rfl) (by kernel_rfl) (by kernel_rfl) (by kernel_rfl)
  obtain ⟨et, ex, rfl⟩ := he.iface
  generalize e.has t = r at *
  clear he
  cases t with
  | sort k =>
    cases ht
    have t1 := tyS
    have t2 := cmS
    go_enter Tryd.func27, Tryd.ntmps27
    go_wp2_with (refine X.out.mono ?_; rintro e w2 ⟨rfl, hb⟩)
    go_ret
    exact ⟨rfl, hb⟩
  | fault k o =>
    cases ht
    have t1 := tyF
    have t2 := cmF
    go_enter Tryd.func27, Tryd.ntmps27
    go_wp2_with (refine X.out.mono ?_; rintro e w2 ⟨rfl, hb⟩)
    go_ret
    exact ⟨rfl, hb⟩
  | _ => cases hl
theorem t_faultIs (e : Er) (v : Value) (k : Int) (w : World) (he : IsEr w e v) : Calls Tryd.prog 18 #[v, .int .i64 k] w fun ex w' => ex = .returned (.bool (e.has (.sort k))) ∧ Below w.heap.size w w' := by
  have X := Lib.hid (t_is (.sort k) e v _ rfl w he rfl)
  generalize e.has (.sort k) = r at *
  clear he
  go_enter Tryd.func18, Tryd.ntmps18
  go_wp2_with (refine X.out.mono ?_; rintro e w2 ⟨rfl, hb⟩)
  go_ret
  exact ⟨rfl, hb⟩
end Go.Proofs.YtjdnekkbmanmdaaDoor
