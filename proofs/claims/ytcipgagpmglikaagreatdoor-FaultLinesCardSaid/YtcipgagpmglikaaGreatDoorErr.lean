/-
  What an error is made of: sorts, faults, notes around another error, errors of others; how it lies in the memory.
-/
import Derived.Test.YtcipgagpmglikaaGreatDoorBlk
import Derived.Stop.Asserts
import Derived.LaidEql
import Derived.Handy
namespace Go.Proofs.YtcipgagpmglikaaGreatDoor
open Go.RowKit Go.Sort
set_option maxRecDepth 8000
/-- An error: a sort, a fault, a note, an error of others that wraps one, one joined behind another of errors.New's make (whose block is a), one of errors.New's make in block a. -/
inductive Er where
  | sort (k : Int)
  | fault (k off : Int)
  | note (s : ByteArray) (e : Er)
  | own (a : Nat)
  | around (e : Er)
  | join (a : Nat) (e : Er)
/-- Two cells at the beginning of block g. -/
def Two (w : World) (g : Nat) (x y : Value) : Prop := g < w.heap.size ∧ w.cell? ⟨g, 0, none⟩ = some x ∧ w.cell? ⟨g, 1, none⟩ = some y
theorem Two.on {w w' : World} {g : Nat} {x y : Value} (h : Two w g x y) (hb : Below w.heap.size w w') : Two w' g x y :=
  ⟨Nat.lt_of_lt_of_le h.1 hb.size, (hb.cell (p := ⟨g, 0, none⟩) h.1).trans h.2.1, (hb.cell (p := ⟨g, 1, none⟩) h.1).trans h.2.2⟩
/-- How it lies there. -/
def IsEr (w : World) : Er → Value → Prop
  | .sort k, v => v = .iface 41 (.int .i64 k)
  | .fault k o, v => v = .iface 63 (.agg #[.int .i64 k, .int .i64 o])
  | .note s e, v => ∃ b u, v = .iface 77 (.pointer (some ⟨b, 0, none⟩)) ∧ Blk w b 79 #[.string s, u] ∧ IsEr w e u
  | .own a, v => v = .iface 87 (.pointer (some ⟨a, 0, none⟩)) ∧ ∃ s, Blk w a 89 #[.string s]
  | .around e, v => ∃ u, v = .iface 54 (.agg #[u]) ∧ IsEr w e u
  | .join a e, v => ∃ b g c u s, v = .iface 84 (.pointer (some ⟨b, 0, none⟩)) ∧ Blk w b 86 #[.slice (some ⟨g, 0, none⟩) 2 c] ∧ Two w g (.iface 87 (.pointer (some ⟨a, 0, none⟩))) u ∧ Blk w a 89 #[.string s] ∧ IsEr w e u
theorem IsEr.on {w w' : World} (hb : Below w.heap.size w w') : ∀ {e : Er} {v : Value}, IsEr w e v → IsEr w' e v := by
  intro e
  induction e with
  | sort k => intro v h; exact h
  | fault k o => intro v h; exact h
  | note s e ih => rintro v ⟨b, u, h1, h2, h3⟩; exact ⟨b, u, h1, h2.on hb, ih h3⟩
  | own a => rintro v ⟨h1, s, h2⟩; exact ⟨h1, s, h2.on hb⟩
  | around e ih => rintro v ⟨u, h1, h2⟩; exact ⟨u, h1, ih h2⟩
  | join a e ih => rintro v ⟨b, g, c, u, s, h1, h2, h3, h4, h5⟩; exact ⟨b, g, c, u, s, h1, h2.on hb, h3.on hb, h4.on hb, ih h5⟩
theorem IsEr.iface {w : World} {e : Er} {v : Value} (h : IsEr w e v) : ∃ t x, v = .iface t x := by
  cases e with
  | sort k => exact ⟨_, _, h⟩
  | fault k o => exact ⟨_, _, h⟩
  | note s e => obtain ⟨b, u, h, -⟩ := h; exact ⟨_, _, h⟩
  | own a => exact ⟨_, _, h.1⟩
  | around e => obtain ⟨u, h, -⟩ := h; exact ⟨_, _, h⟩
  | join a e => obtain ⟨b, g, c, u, s, h, -⟩ := h; exact ⟨_, _, h⟩
/-- How many steps it has at most. -/
def Er.size : Er → Nat
  | .sort _ => 1
  | .fault _ _ => 2
  | .note _ e => e.size + 1
  | .own _ => 1
  | .around e => e.size + 1
  | .join _ e => e.size + 2
/-- What it unwraps to. -/
def Er.un : Er → Option Er
  | .fault k _ => some (.sort k)
  | .note _ e => some e
  | .around e => some e
  | _ => none
/-! ### Which methods it has -/
section
variable (v : Value) (xT : TypeId) (w : World)
theorem uwS : (Instr.typeAssert (.iface 41 v) xT 80 true).run Tryz.prog w = .ok (.tuple #[.nilIface, .bool false]) w := run_typeAssert_lacksB Tryz.underlying80 (by kernel_rfl) (by kernel_rfl) v xT w
theorem uwF : (Instr.typeAssert (.iface 63 v) xT 80 true).run Tryz.prog w = .ok (.tuple #[.iface 63 v, .bool true]) w := run_typeAssert_hasB Tryz.underlying80 (by kernel_rfl) v xT w
theorem uwN : (Instr.typeAssert (.iface 77 v) xT 80 true).run Tryz.prog w = .ok (.tuple #[.iface 77 v, .bool true]) w := run_typeAssert_hasB Tryz.underlying80 (by kernel_rfl) v xT w
theorem uwO : (Instr.typeAssert (.iface 87 v) xT 80 true).run Tryz.prog w = .ok (.tuple #[.nilIface, .bool false]) w := run_typeAssert_lacksB Tryz.underlying80 (by kernel_rfl) (by kernel_rfl) v xT w
theorem uwA : (Instr.typeAssert (.iface 54 v) xT 80 true).run Tryz.prog w = .ok (.tuple #[.iface 54 v, .bool true]) w := run_typeAssert_hasB Tryz.underlying80 (by kernel_rfl) v xT w
theorem uwJ : (Instr.typeAssert (.iface 84 v) xT 80 true).run Tryz.prog w = .ok (.tuple #[.nilIface, .bool false]) w := run_typeAssert_lacksB Tryz.underlying80 (by kernel_rfl) (by kernel_rfl) v xT w
theorem usS : (Instr.typeAssert (.iface 41 v) xT 118 true).run Tryz.prog w = .ok (.tuple #[.nilIface, .bool false]) w := run_typeAssert_lacksB Tryz.underlying118 (by kernel_rfl) (by kernel_rfl) v xT w
theorem usO : (Instr.typeAssert (.iface 87 v) xT 118 true).run Tryz.prog w = .ok (.tuple #[.nilIface, .bool false]) w := run_typeAssert_lacksB Tryz.underlying118 (by kernel_rfl) (by kernel_rfl) v xT w
theorem usJ : (Instr.typeAssert (.iface 84 v) xT 118 true).run Tryz.prog w = .ok (.tuple #[.iface 84 v, .bool true]) w := run_typeAssert_hasB Tryz.underlying118 (by kernel_rfl) v xT w
theorem isS : (Instr.typeAssert (.iface 41 v) xT 116 true).run Tryz.prog w = .ok (.tuple #[.nilIface, .bool false]) w := run_typeAssert_lacksB Tryz.underlying116 (by kernel_rfl) (by kernel_rfl) v xT w
theorem isF : (Instr.typeAssert (.iface 63 v) xT 116 true).run Tryz.prog w = .ok (.tuple #[.nilIface, .bool false]) w := run_typeAssert_lacksB Tryz.underlying116 (by kernel_rfl) (by kernel_rfl) v xT w
theorem isN : (Instr.typeAssert (.iface 77 v) xT 116 true).run Tryz.prog w = .ok (.tuple #[.nilIface, .bool false]) w := run_typeAssert_lacksB Tryz.underlying116 (by kernel_rfl) (by kernel_rfl) v xT w
theorem isO : (Instr.typeAssert (.iface 87 v) xT 116 true).run Tryz.prog w = .ok (.tuple #[.nilIface, .bool false]) w := run_typeAssert_lacksB Tryz.underlying116 (by kernel_rfl) (by kernel_rfl) v xT w
theorem isA : (Instr.typeAssert (.iface 54 v) xT 116 true).run Tryz.prog w = .ok (.tuple #[.nilIface, .bool false]) w := run_typeAssert_lacksB Tryz.underlying116 (by kernel_rfl) (by kernel_rfl) v xT w
theorem isJ : (Instr.typeAssert (.iface 84 v) xT 116 true).run Tryz.prog w = .ok (.tuple #[.nilIface, .bool false]) w := run_typeAssert_lacksB Tryz.underlying116 (by kernel_rfl) (by kernel_rfl) v xT w
theorem asS : (Instr.typeAssert (.iface 41 v) xT 122 true).run Tryz.prog w = .ok (.tuple #[.nilIface, .bool false]) w := run_typeAssert_lacksB Tryz.underlying122 (by kernel_rfl) (by kernel_rfl) v xT w
theorem asF : (Instr.typeAssert (.iface 63 v) xT 122 true).run Tryz.prog w = .ok (.tuple #[.nilIface, .bool false]) w := run_typeAssert_lacksB Tryz.underlying122 (by kernel_rfl) (by kernel_rfl) v xT w
theorem asN : (Instr.typeAssert (.iface 77 v) xT 122 true).run Tryz.prog w = .ok (.tuple #[.nilIface, .bool false]) w := run_typeAssert_lacksB Tryz.underlying122 (by kernel_rfl) (by kernel_rfl) v xT w
theorem asO : (Instr.typeAssert (.iface 87 v) xT 122 true).run Tryz.prog w = .ok (.tuple #[.nilIface, .bool false]) w := run_typeAssert_lacksB Tryz.underlying122 (by kernel_rfl) (by kernel_rfl) v xT w
theorem asA : (Instr.typeAssert (.iface 54 v) xT 122 true).run Tryz.prog w = .ok (.tuple #[.nilIface, .bool false]) w := run_typeAssert_lacksB Tryz.underlying122 (by kernel_rfl) (by kernel_rfl) v xT w
theorem asJ : (Instr.typeAssert (.iface 84 v) xT 122 true).run Tryz.prog w = .ok (.tuple #[.nilIface, .bool false]) w := run_typeAssert_lacksB Tryz.underlying122 (by kernel_rfl) (by kernel_rfl) v xT w
/-- .. to a note, to a fault. -/
theorem ntS : (Instr.typeAssert (.iface 41 v) xT 77 true).run Tryz.prog w = .ok (.tuple #[.pointer none, .bool false]) w := by kernel_rfl
theorem ntF : (Instr.typeAssert (.iface 63 v) xT 77 true).run Tryz.prog w = .ok (.tuple #[.pointer none, .bool false]) w := by kernel_rfl
theorem ntN : (Instr.typeAssert (.iface 77 v) xT 77 true).run Tryz.prog w = .ok (.tuple #[v, .bool true]) w := by kernel_rfl
theorem ntO : (Instr.typeAssert (.iface 87 v) xT 77 true).run Tryz.prog w = .ok (.tuple #[.pointer none, .bool false]) w := by kernel_rfl
theorem ntA : (Instr.typeAssert (.iface 54 v) xT 77 true).run Tryz.prog w = .ok (.tuple #[.pointer none, .bool false]) w := by kernel_rfl
theorem ntJ : (Instr.typeAssert (.iface 84 v) xT 77 true).run Tryz.prog w = .ok (.tuple #[.pointer none, .bool false]) w := by kernel_rfl
theorem ntnil : (Instr.typeAssert .nilIface xT 77 true).run Tryz.prog w = .ok (.tuple #[.pointer none, .bool false]) w := by kernel_rfl
theorem ftS : (Instr.typeAssert (.iface 41 v) xT 63 true).run Tryz.prog w = .ok (.tuple #[.agg #[.int .i64 0, .int .i64 0], .bool false]) w := by kernel_rfl
theorem ftF : (Instr.typeAssert (.iface 63 v) xT 63 true).run Tryz.prog w = .ok (.tuple #[v, .bool true]) w := by kernel_rfl
theorem ftO : (Instr.typeAssert (.iface 87 v) xT 63 true).run Tryz.prog w = .ok (.tuple #[.agg #[.int .i64 0, .int .i64 0], .bool false]) w := by kernel_rfl
theorem ftA : (Instr.typeAssert (.iface 54 v) xT 63 true).run Tryz.prog w = .ok (.tuple #[.agg #[.int .i64 0, .int .i64 0], .bool false]) w := by kernel_rfl
theorem ftJ : (Instr.typeAssert (.iface 84 v) xT 63 true).run Tryz.prog w = .ok (.tuple #[.agg #[.int .i64 0, .int .i64 0], .bool false]) w := by kernel_rfl
theorem ftnil : (Instr.typeAssert .nilIface xT 63 true).run Tryz.prog w = .ok (.tuple #[.agg #[.int .i64 0, .int .i64 0], .bool false]) w := by kernel_rfl
end
/-! ### errors.New, errors.Unwrap -/
theorem e_new (s : ByteArray) (w : World) : Calls Tryz.prog 24 #[.string s] w fun e w' => e = .returned (.iface 87 (.pointer (some ⟨w.heap.size, 0, none⟩))) ∧ IsEr w' (.own w.heap.size) (.iface 87 (.pointer (some ⟨w.heap.size, 0, none⟩))) ∧ Below w.heap.size w w' := by
  go_enter Tryz.func24, Tryz.ntmps24
  go_wp2
  go_ret
  exact ⟨rfl, ⟨rfl, s, Blk.new _ _ _ rfl⟩, below_alloc _ _⟩
theorem m_sort (k o : Int) (w : World) : Calls Tryz.prog 111 #[.agg #[.int .i64 k, .int .i64 o]] w fun e w' => e = .returned (.iface 41 (.int .i64 k)) ∧ Below w.heap.size w w' := by
  go_enter Tryz.func111, Tryz.ntmps111
  go_wp2
  go_ret
  exact ⟨rfl, below_alloc _ _⟩
theorem m_note (b : Nat) (s : ByteArray) (u : Value) (w : World) (h : Blk w b 79 #[.string s, u]) : Calls Tryz.prog 113 #[.pointer (some ⟨b, 0, none⟩)] w fun e w' => e = .returned u ∧ w' = w := by
  have c1 := h.cell (j := 1) rfl
  clear h
  go_enter Tryz.func113, Tryz.ntmps113
  go_wp2
  go_ret
  exact ⟨rfl, rfl⟩
theorem m_around (u : Value) (w : World) : Calls Tryz.prog 109 #[.agg #[u]] w fun e w' => e = .returned u ∧ Below w.heap.size w w' := by
  go_enter Tryz.func109, Tryz.ntmps109
  go_wp2
  go_ret
  exact ⟨rfl, below_alloc _ _⟩
theorem m_join (b : Nat) (u : Value) (w : World) (h : Blk w b 86 #[u]) : Calls Tryz.prog 115 #[.pointer (some ⟨b, 0, none⟩)] w fun e w' => e = .returned u ∧ w' = w := by
  have c0 := h.cell (j := 0) rfl
  clear h
  go_enter Tryz.func115, Tryz.ntmps115
  go_wp2
  go_ret
  exact ⟨rfl, rfl⟩
end Go.Proofs.YtcipgagpmglikaaGreatDoor
