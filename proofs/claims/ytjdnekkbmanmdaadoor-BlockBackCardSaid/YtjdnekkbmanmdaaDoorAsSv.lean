/-
  errors.As where a sort is looked for, whole; fault.Kind.
-/
import Derived.Test.YtjdnekkbmanmdaaDoorAsSw
namespace Go.Proofs.YtjdnekkbmanmdaaDoor
open Go.RowKit Go.Sort Go.Extern
set_option maxRecDepth 8000
namespace AsS
set_option maxHeartbeats 4000000 in
theorem t_as (e : Er) (v : Value) (p : Nat) (w : World) (he : IsEr w e v) (hp : Blk w p 65 C0) (hy : Ty w) :
    Calls Tryd.prog 26 #[v, .iface 67 (.pointer (some ⟨p, 0, none⟩))] w (Out w p e.asS) := by
  have hvo := @run_callFunc_extern Tryd.prog 33 _ xValueOf Tryd.func33 (by kernel_rfl) (by kernel_rfl) (by kernel_rfl) (by kernel_rfl)
  have hty := @run_callFunc_extern Tryd.prog 34 _ xType Tryd.func34 (by kernel_rfl) (by kernel_rfl) (by kernel_rfl) (by kernel_rfl)
  have hni := @run_callFunc_extern Tryd.prog 35 _ xIsNil Tryd.func35 (by kernel_rfl) (by kernel_rfl) (by kernel_rfl) (by kernel_rfl)
  have hki := @run_callFunc_extern Tryd.prog 57 _ xKind Tryd.func57 (by kernel_rfl) (by kernel_rfl) (by kernel_rfl) (by kernel_rfl)
  have hel := @run_callFunc_extern Tryd.prog 72 _ xElem Tryd.func72 (by kernel_rfl) (by kernel_rfl) (by kernel_rfl) (by kernel_rfl)
  have him := @run_callFunc_extern Tryd.prog 73 _ xImpl Tryd.func73 (by kernel_rfl) (by kernel_rfl) (by kernel_rfl) (by kernel_rfl)
  obtain ⟨et, ex, rfl⟩ := he.iface
  have w0 := below_alloc w (.cells #[.pointer (some ⟨p, 0, none⟩)] 67)
  have w1 := below_alloc (w.alloc (.cells #[.pointer (some ⟨p, 0, none⟩)] 67)) (.cells #[.pointer (some ⟨1, 67, none⟩), .pointer (some ⟨w.heap.size, 0, none⟩), .int .u64 150] 83)
  have w2 := w0.trans (w1.mono w0.size)
  have f1 := valP w ⟨p, 0, none⟩
  have f2 := typP
  have f3 := kinP
  have f4 := kinE
  have f5 := eleP
  have f6 := impE
  have f7 := nilP ((w.alloc (.cells #[.pointer (some ⟨p, 0, none⟩)] 67)).alloc (.cells #[.pointer (some ⟨1, 67, none⟩), .pointer (some ⟨w.heap.size, 0, none⟩), .int .u64 150] 83)) ⟨w.heap.size, 0, none⟩ ⟨p, 0, none⟩ (((Blk.new w 67 #[.pointer (some ⟨p, 0, none⟩)] rfl).alloc _).cell (j := 0) rfl)
  have g1 : World.cell? ((w.alloc (.cells #[.pointer (some ⟨p, 0, none⟩)] 67)).alloc (.cells #[.pointer (some ⟨1, 67, none⟩), .pointer (some ⟨w.heap.size, 0, none⟩), .int .u64 150] 83)) ⟨0, 0, none⟩ = some (ty 32) := hy.on w2
  have X := Lib.hid (as_in p w.heap.size e.size e (.iface et ex) _ (Nat.le_refl _) (IsEr.on w2 he) ((Blk.new w 67 #[.pointer (some ⟨p, 0, none⟩)] rfl).alloc _) (hp.on w2))
  have B := Lib.hid w2
  clear w0 w1 w2 he hp hy
  generalize e.asS = r at *
  go_enter Tryd.func26, Tryd.ntmps26
  cases r with
  | none =>
    go_wp2_with fail
    refine X.out.mono ?_
    rintro e w3 ⟨rfl, hb⟩
    go_wp2
    go_ret
    exact ⟨rfl, B.out.trans (hb.mono B.out.size)⟩
  | some cs =>
    go_wp2_with fail
    refine X.out.mono ?_
    rintro e w3 ⟨rfl, W3, hb, hw⟩
    subst hw
    go_wp2
    go_ret
    exact ⟨rfl, W3, B.out.trans (hb.mono B.out.size), rfl⟩
theorem as_nil (t : Value) (w : World) : Calls Tryd.prog 26 #[.nilIface, t] w fun e w' => e = .returned (.bool false) ∧ w' = w := by
  go_enter Tryd.func26, Tryd.ntmps26
  go_wp2
  go_ret
  exact ⟨rfl, rfl⟩
end AsS
open AsS
/-- The kind of the first sort. -/
def Er.kind : Er → Option Int
  | .sort k => some k
  | .fault k _ => some k
  | .note _ e => e.kind
theorem Er.asS_is (e : Er) : e.asS = e.kind.map fun k => #[.int .i64 k] := by
  induction e with
  | sort k => rfl
  | fault k o => rfl
  | note s e ih => exact ih
def kindV : Option Int → Value
  | some k => .tuple #[.int .i64 k, .bool true]
  | none => .tuple #[.int .i64 0, .bool false]
theorem t_kind (e : Er) (v : Value) (w : World) (he : IsEr w e v) (hy : Ty w) : Calls Tryd.prog 16 #[v] w fun ex w' => ex = .returned (kindV e.kind) ∧ Below w.heap.size w w' := by
  have w0 := below_alloc w (.cells #[.int .i64 0] 65)
  have X := Lib.hid (t_as e v w.heap.size _ (IsEr.on w0 he) (Blk.new w 65 #[.int .i64 0] rfl) (hy.on w0))
  have B := Lib.hid w0
  have N := Lib.hid (Blk.new w 65 #[.int .i64 0] rfl)
  rw [e.asS_is] at X
  clear he hy w0
  generalize e.kind = q at X ⊢
  cases q with
  | none =>
    go_enter Tryd.func16, Tryd.ntmps16
    go_wp2_with fail
    refine X.out.mono ?_
    rintro e w3 ⟨rfl, hb⟩
    go_wp2
    go_ret2
    exact ⟨rfl, B.out.trans (hb.mono B.out.size)⟩
  | some k =>
    go_enter Tryd.func16, Tryd.ntmps16
    go_wp2_with fail
    refine X.out.mono ?_
    rintro e w3 ⟨rfl, W3, hb, hw⟩
    have c := ((N.out.on hb).row #[.int .i64 k]).cell (j := 0) rfl
    rw [← hw] at c
    have hb3 := Lib.hid (show Below w.heap.size w w3 by rw [hw]; exact below_setRow (B.out.trans (hb.mono B.out.size)) (Nat.le_refl _) _)
    clear hw
    go_wp2
    go_ret2
    exact ⟨rfl, hb3.out⟩
theorem kind_nil (w : World) : Calls Tryd.prog 16 #[.nilIface] w fun ex w' => ex = .returned (.tuple #[.int .i64 0, .bool false]) ∧ Below w.heap.size w w' := by
  go_enter Tryd.func16, Tryd.ntmps16
  go_wp2_with (refine (as_nil _ _).mono ?_; rintro e w1 ⟨rfl, hw⟩; subst hw)
  go_ret2
  exact ⟨rfl, below_alloc _ _⟩
end Go.Proofs.YtjdnekkbmanmdaaDoor
