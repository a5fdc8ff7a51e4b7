/-
  What an error is made of: sorts, faults, notes around another error, errors of others; how it lies in the memory.
-/
import Derived.Test.YtjdnekkbmanmdaaDoorBlk
import Derived.Stop.Asserts
import Derived.LaidEql
import Derived.Handy
namespace Go.Proofs.YtjdnekkbmanmdaaDoor
open Go.RowKit Go.Sort
set_option maxRecDepth 8000
/-- An error: a sort, a fault, a note, an error of others that wraps one, one joined behind another of errors.New's make (whose block is a), one of errors.New's make in block a. -/
inductive Er where
  | sort (k : Int)
  | fault (k off : Int)
  | note (s : ByteArray) (e : Er)
/-- How it lies there. -/
def IsEr (w : World) : Er → Value → Prop
  | .sort k, v => v = .iface 65 (.int .i64 k)
  | .fault k o, v => v = .iface 69 (.agg #[.int .i64 k, .int .i64 o])
  | .note s e, v => ∃ b u, v = .iface 76 (.pointer (some ⟨b, 0, none⟩)) ∧ Blk w b 79 #[.string s, u] ∧ IsEr w e u
theorem IsEr.on {w w' : World} (hb : Below w.heap.size w w') : ∀ {e : Er} {v : Value}, IsEr w e v → IsEr w' e v := by
  intro e
  induction e with
  | sort k => intro v h; exact h
  | fault k o => intro v h; exact h
  | note s e ih => rintro v ⟨b, u, h1, h2, h3⟩; exact ⟨b, u, h1, h2.on hb, ih h3⟩
theorem IsEr.iface {w : World} {e : Er} {v : Value} (h : IsEr w e v) : ∃ t x, v = .iface t x := by
  cases e with
  | sort k => exact ⟨_, _, h⟩
  | fault k o => exact ⟨_, _, h⟩
  | note s e => obtain ⟨b, u, h, -⟩ := h; exact ⟨_, _, h⟩
/-- How many steps it has at most. -/
def Er.size : Er → Nat
  | .sort _ => 1
  | .fault _ _ => 2
  | .note _ e => e.size + 1
/-- What it unwraps to. -/
def Er.un : Er → Option Er
  | .fault k _ => some (.sort k)
  | .note _ e => some e
  | _ => none
/-! ### Which methods it has -/
section
variable (v : Value) (xT : TypeId) (w : World)
theorem uwS : (Instr.typeAssert (.iface 65 v) xT 104 true).run Tryd.prog w = .ok (.tuple #[.nilIface, .bool false]) w := run_typeAssert_lacksB Tryd.underlying104 (by kernel_rfl) (by kernel_rfl) v xT w
theorem uwF : (Instr.typeAssert (.iface 69 v) xT 104 true).run Tryd.prog w = .ok (.tuple #[.iface 69 v, .bool true]) w := run_typeAssert_hasB Tryd.underlying104 (by kernel_rfl) v xT w
theorem uwN : (Instr.typeAssert (.iface 76 v) xT 104 true).run Tryd.prog w = .ok (.tuple #[.iface 76 v, .bool true]) w := run_typeAssert_hasB Tryd.underlying104 (by kernel_rfl) v xT w
theorem usS : (Instr.typeAssert (.iface 65 v) xT 106 true).run Tryd.prog w = .ok (.tuple #[.nilIface, .bool false]) w := run_typeAssert_lacksB Tryd.underlying106 (by kernel_rfl) (by kernel_rfl) v xT w
theorem isS : (Instr.typeAssert (.iface 65 v) xT 109 true).run Tryd.prog w = .ok (.tuple #[.nilIface, .bool false]) w := run_typeAssert_lacksB Tryd.underlying109 (by kernel_rfl) (by kernel_rfl) v xT w
theorem isF : (Instr.typeAssert (.iface 69 v) xT 109 true).run Tryd.prog w = .ok (.tuple #[.nilIface, .bool false]) w := run_typeAssert_lacksB Tryd.underlying109 (by kernel_rfl) (by kernel_rfl) v xT w
theorem isN : (Instr.typeAssert (.iface 76 v) xT 109 true).run Tryd.prog w = .ok (.tuple #[.nilIface, .bool false]) w := run_typeAssert_lacksB Tryd.underlying109 (by kernel_rfl) (by kernel_rfl) v xT w
theorem asS : (Instr.typeAssert (.iface 65 v) xT 101 true).run Tryd.prog w = .ok (.tuple #[.nilIface, .bool false]) w := run_typeAssert_lacksB Tryd.underlying101 (by kernel_rfl) (by kernel_rfl) v xT w
theorem asF : (Instr.typeAssert (.iface 69 v) xT 101 true).run Tryd.prog w = .ok (.tuple #[.nilIface, .bool false]) w := run_typeAssert_lacksB Tryd.underlying101 (by kernel_rfl) (by kernel_rfl) v xT w
theorem asN : (Instr.typeAssert (.iface 76 v) xT 101 true).run Tryd.prog w = .ok (.tuple #[.nilIface, .bool false]) w := run_typeAssert_lacksB Tryd.underlying101 (by kernel_rfl) (by kernel_rfl) v xT w
/-- .. to a note, to a fault. -/
theorem ntS : (Instr.typeAssert (.iface 65 v) xT 76 true).run Tryd.prog w = .ok (.tuple #[.pointer none, .bool false]) w := by kernel_rfl
theorem ntF : (Instr.typeAssert (.iface 69 v) xT 76 true).run Tryd.prog w = .ok (.tuple #[.pointer none, .bool false]) w := by kernel_rfl
theorem ntN : (Instr.typeAssert (.iface 76 v) xT 76 true).run Tryd.prog w = .ok (.tuple #[v, .bool true]) w := by kernel_rfl
theorem ntnil : (Instr.typeAssert .nilIface xT 76 true).run Tryd.prog w = .ok (.tuple #[.pointer none, .bool false]) w := by kernel_rfl
theorem ftS : (Instr.typeAssert (.iface 65 v) xT 69 true).run Tryd.prog w = .ok (.tuple #[.agg #[.int .i64 0, .int .i64 0], .bool false]) w := by kernel_rfl
theorem ftF : (Instr.typeAssert (.iface 69 v) xT 69 true).run Tryd.prog w = .ok (.tuple #[v, .bool true]) w := by kernel_rfl
theorem ftnil : (Instr.typeAssert .nilIface xT 69 true).run Tryd.prog w = .ok (.tuple #[.agg #[.int .i64 0, .int .i64 0], .bool false]) w := by kernel_rfl
end
/-! ### errors.New, errors.Unwrap -/
theorem m_sort (k o : Int) (w : World) : Calls Tryd.prog 63 #[.agg #[.int .i64 k, .int .i64 o]] w fun e w' => e = .returned (.iface 65 (.int .i64 k)) ∧ Below w.heap.size w w' := by
  go_enter Tryd.func63, Tryd.ntmps63
  go_wp2
  go_ret
  exact ⟨rfl, below_alloc _ _⟩
theorem m_note (b : Nat) (s : ByteArray) (u : Value) (w : World) (h : Blk w b 79 #[.string s, u]) : Calls Tryd.prog 65 #[.pointer (some ⟨b, 0, none⟩)] w fun e w' => e = .returned u ∧ w' = w := by
  have c1 := h.cell (j := 1) rfl
  clear h
  go_enter Tryd.func65, Tryd.ntmps65
  go_wp2
  go_ret
  exact ⟨rfl, rfl⟩
end Go.Proofs.YtjdnekkbmanmdaaDoor
