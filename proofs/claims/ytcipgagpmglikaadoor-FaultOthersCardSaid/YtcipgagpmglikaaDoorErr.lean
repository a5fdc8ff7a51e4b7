/-
  What an error is made of: sorts, faults, notes around another error, errors of others; how it lies in the memory.
-/
import Derived.Test.YtcipgagpmglikaaDoorBlk
import Derived.Stop.Asserts
import Derived.LaidEql
import Derived.Handy
namespace Go.Proofs.YtcipgagpmglikaaDoor
open Go.RowKit Go.Sort
set_option maxRecDepth 8000
/-- An error: a sort, a fault, a note, an error of others that wraps one, one joined behind another of errors.New's make (whose block is a), one of errors.New's make in block a. -/
inductive Er where
  | sort (k : Int)
  | fault (k off : Int)
  | note (s : ByteArray) (e : Er)
  | own (a : Nat)
/-- How it lies there. -/
def IsEr (w : World) : Er → Value → Prop
  | .sort k, v => v = .iface 44 (.int .i64 k)
  | .fault k o, v => v = .iface 57 (.agg #[.int .i64 k, .int .i64 o])
  | .note s e, v => ∃ b u, v = .iface 50 (.pointer (some ⟨b, 0, none⟩)) ∧ Blk w b 53 #[.string s, u] ∧ IsEr w e u
  | .own a, v => v = .iface 45 (.pointer (some ⟨a, 0, none⟩)) ∧ ∃ s, Blk w a 47 #[.string s]
theorem IsEr.on {w w' : World} (hb : Below w.heap.size w w') : ∀ {e : Er} {v : Value}, IsEr w e v → IsEr w' e v := by
  intro e
  induction e with
  | sort k => intro v h; exact h
  | fault k o => intro v h; exact h
  | note s e ih => rintro v ⟨b, u, h1, h2, h3⟩; exact ⟨b, u, h1, h2.on hb, ih h3⟩
  | own a => rintro v ⟨h1, s, h2⟩; exact ⟨h1, s, h2.on hb⟩
theorem IsEr.iface {w : World} {e : Er} {v : Value} (h : IsEr w e v) : ∃ t x, v = .iface t x := by
  cases e with
  | sort k => exact ⟨_, _, h⟩
  | fault k o => exact ⟨_, _, h⟩
  | note s e => obtain ⟨b, u, h, -⟩ := h; exact ⟨_, _, h⟩
  | own a => exact ⟨_, _, h.1⟩
/-- How many steps it has at most. -/
def Er.size : Er → Nat
  | .sort _ => 1
  | .fault _ _ => 2
  | .note _ e => e.size + 1
  | .own _ => 1
/-- What it unwraps to. -/
def Er.un : Er → Option Er
  | .fault k _ => some (.sort k)
  | .note _ e => some e
  | _ => none
/-! ### Which methods it has -/
section
variable (v : Value) (xT : TypeId) (w : World)
theorem uwS : (Instr.typeAssert (.iface 44 v) xT 87 true).run Tryd.prog w = .ok (.tuple #[.nilIface, .bool false]) w := run_typeAssert_lacksB Tryd.underlying87 (by kernel_rfl) (by kernel_rfl) v xT w
theorem uwF : (Instr.typeAssert (.iface 57 v) xT 87 true).run Tryd.prog w = .ok (.tuple #[.iface 57 v, .bool true]) w := run_typeAssert_hasB Tryd.underlying87 (by kernel_rfl) v xT w
theorem uwN : (Instr.typeAssert (.iface 50 v) xT 87 true).run Tryd.prog w = .ok (.tuple #[.iface 50 v, .bool true]) w := run_typeAssert_hasB Tryd.underlying87 (by kernel_rfl) v xT w
theorem uwO : (Instr.typeAssert (.iface 45 v) xT 87 true).run Tryd.prog w = .ok (.tuple #[.nilIface, .bool false]) w := run_typeAssert_lacksB Tryd.underlying87 (by kernel_rfl) (by kernel_rfl) v xT w
theorem usS : (Instr.typeAssert (.iface 44 v) xT 89 true).run Tryd.prog w = .ok (.tuple #[.nilIface, .bool false]) w := run_typeAssert_lacksB Tryd.underlying89 (by kernel_rfl) (by kernel_rfl) v xT w
theorem usO : (Instr.typeAssert (.iface 45 v) xT 89 true).run Tryd.prog w = .ok (.tuple #[.nilIface, .bool false]) w := run_typeAssert_lacksB Tryd.underlying89 (by kernel_rfl) (by kernel_rfl) v xT w
theorem isS : (Instr.typeAssert (.iface 44 v) xT 85 true).run Tryd.prog w = .ok (.tuple #[.nilIface, .bool false]) w := run_typeAssert_lacksB Tryd.underlying85 (by kernel_rfl) (by kernel_rfl) v xT w
theorem isF : (Instr.typeAssert (.iface 57 v) xT 85 true).run Tryd.prog w = .ok (.tuple #[.nilIface, .bool false]) w := run_typeAssert_lacksB Tryd.underlying85 (by kernel_rfl) (by kernel_rfl) v xT w
theorem isN : (Instr.typeAssert (.iface 50 v) xT 85 true).run Tryd.prog w = .ok (.tuple #[.nilIface, .bool false]) w := run_typeAssert_lacksB Tryd.underlying85 (by kernel_rfl) (by kernel_rfl) v xT w
theorem isO : (Instr.typeAssert (.iface 45 v) xT 85 true).run Tryd.prog w = .ok (.tuple #[.nilIface, .bool false]) w := run_typeAssert_lacksB Tryd.underlying85 (by kernel_rfl) (by kernel_rfl) v xT w
theorem asS : (Instr.typeAssert (.iface 44 v) xT 106 true).run Tryd.prog w = .ok (.tuple #[.nilIface, .bool false]) w := run_typeAssert_lacksB Tryd.underlying106 (by kernel_rfl) (by kernel_rfl) v xT w
theorem asF : (Instr.typeAssert (.iface 57 v) xT 106 true).run Tryd.prog w = .ok (.tuple #[.nilIface, .bool false]) w := run_typeAssert_lacksB Tryd.underlying106 (by kernel_rfl) (by kernel_rfl) v xT w
theorem asN : (Instr.typeAssert (.iface 50 v) xT 106 true).run Tryd.prog w = .ok (.tuple #[.nilIface, .bool false]) w := run_typeAssert_lacksB Tryd.underlying106 (by kernel_rfl) (by kernel_rfl) v xT w
theorem asO : (Instr.typeAssert (.iface 45 v) xT 106 true).run Tryd.prog w = .ok (.tuple #[.nilIface, .bool false]) w := run_typeAssert_lacksB Tryd.underlying106 (by kernel_rfl) (by kernel_rfl) v xT w
/-- .. to a note, to a fault. -/
theorem ntS : (Instr.typeAssert (.iface 44 v) xT 50 true).run Tryd.prog w = .ok (.tuple #[.pointer none, .bool false]) w := by kernel_rfl
theorem ntF : (Instr.typeAssert (.iface 57 v) xT 50 true).run Tryd.prog w = .ok (.tuple #[.pointer none, .bool false]) w := by kernel_rfl
theorem ntN : (Instr.typeAssert (.iface 50 v) xT 50 true).run Tryd.prog w = .ok (.tuple #[v, .bool true]) w := by kernel_rfl
theorem ntO : (Instr.typeAssert (.iface 45 v) xT 50 true).run Tryd.prog w = .ok (.tuple #[.pointer none, .bool false]) w := by kernel_rfl
theorem ntnil : (Instr.typeAssert .nilIface xT 50 true).run Tryd.prog w = .ok (.tuple #[.pointer none, .bool false]) w := by kernel_rfl
theorem ftS : (Instr.typeAssert (.iface 44 v) xT 57 true).run Tryd.prog w = .ok (.tuple #[.agg #[.int .i64 0, .int .i64 0], .bool false]) w := by kernel_rfl
theorem ftF : (Instr.typeAssert (.iface 57 v) xT 57 true).run Tryd.prog w = .ok (.tuple #[v, .bool true]) w := by kernel_rfl
theorem ftO : (Instr.typeAssert (.iface 45 v) xT 57 true).run Tryd.prog w = .ok (.tuple #[.agg #[.int .i64 0, .int .i64 0], .bool false]) w := by kernel_rfl
theorem ftnil : (Instr.typeAssert .nilIface xT 57 true).run Tryd.prog w = .ok (.tuple #[.agg #[.int .i64 0, .int .i64 0], .bool false]) w := by kernel_rfl
end
/-! ### errors.New, errors.Unwrap -/
theorem e_new (s : ByteArray) (w : World) : Calls Tryd.prog 6 #[.string s] w fun e w' => e = .returned (.iface 45 (.pointer (some ⟨w.heap.size, 0, none⟩))) ∧ IsEr w' (.own w.heap.size) (.iface 45 (.pointer (some ⟨w.heap.size, 0, none⟩))) ∧ Below w.heap.size w w' := by
  go_enter Tryd.func6, Tryd.ntmps6
  go_wp2
  go_ret
  exact ⟨rfl, ⟨rfl, s, Blk.new _ _ _ rfl⟩, below_alloc _ _⟩
theorem m_sort (k o : Int) (w : World) : Calls Tryd.prog 101 #[.agg #[.int .i64 k, .int .i64 o]] w fun e w' => e = .returned (.iface 44 (.int .i64 k)) ∧ Below w.heap.size w w' := by
  go_enter Tryd.func101, Tryd.ntmps101
  go_wp2
  go_ret
  exact ⟨rfl, below_alloc _ _⟩
theorem m_note (b : Nat) (s : ByteArray) (u : Value) (w : World) (h : Blk w b 53 #[.string s, u]) : Calls Tryd.prog 99 #[.pointer (some ⟨b, 0, none⟩)] w fun e w' => e = .returned u ∧ w' = w := by
  have c1 := h.cell (j := 1) rfl
  clear h
  go_enter Tryd.func99, Tryd.ntmps99
  go_wp2
  go_ret
  exact ⟨rfl, rfl⟩
end Go.Proofs.YtcipgagpmglikaaDoor
