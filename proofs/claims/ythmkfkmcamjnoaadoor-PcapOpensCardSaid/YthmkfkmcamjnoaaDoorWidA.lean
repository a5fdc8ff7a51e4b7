/-
  The calls of package wide that add, subtract and compare: what each does, for all numbers of 128 bits.
-/
import Derived.Test.YthmkfkmcamjnoaaDoorLow
import Derived.Test.YthmkfkmcamjnoaaDoorNum
import Derived.WalkKit
import Derived.WalkSpells
import Derived.WalkLawsBesides
import Derived.Laws.Externs
import Derived.BigQuiet
import Derived.Deep.QuietTactic
import Derived.Deep.RegionHeld3
import Derived.Lib.Hide
namespace Go.Proofs.YthmkfkmcamjnoaaDoor
open Go.RowKit

def sub64Entry : Array Value → Sem Value := fun args => do
  let (x, y, b) ← Extern.MathBitsCarry.three "Sub64" args
  pure (Extern.MathBitsCarry.pair ((x + Extern.MathBitsCarry.m64 - y - b) % Extern.MathBitsCarry.m64) (if x < y + b then 1 else 0))
theorem run_sub64 {P : Program} (x y b : Int) (hx : 0 ≤ x) (hy : 0 ≤ y ∧ y ≤ 18446744073709551615) (hb : 0 ≤ b ∧ b ≤ 1) (w : World) :
    (sub64Entry #[.int .u64 x, .int .u64 y, .int .u64 b]).run P w = .ok (.tuple #[.int .u64 (difLo x y b), .int .u64 (difBr x y b)]) w := by
  obtain ⟨X, rfl⟩ := Int.eq_ofNat_of_zero_le hx
  obtain ⟨Y, rfl⟩ := Int.eq_ofNat_of_zero_le hy.1
  have key : ∀ k : Nat, k ≤ 1 → (sub64Entry #[.int .u64 (X : Int), .int .u64 (Y : Int), .int .u64 (k : Int)]).run P w =
      .ok (Extern.MathBitsCarry.pair ((X + Extern.MathBitsCarry.m64 - Y - k) % Extern.MathBitsCarry.m64) (if X < Y + k then 1 else 0)) w := by
    intro k hk
    have : k = 0 ∨ k = 1 := by omega
    rcases this with rfl | rfl <;> rfl
  obtain ⟨k, rfl⟩ := Int.eq_ofNat_of_zero_le hb.1
  rw [key k (by omega)]
  have e1 : (((X + 18446744073709551616 - Y - k) % 18446744073709551616 : Nat) : Int) = difLo X Y k := by unfold difLo; omega
  have e2 : ((if X < Y + k then 1 else 0 : Nat) : Int) = difBr X Y k := by unfold difBr; split <;> split <;> omega
  rw [← e1, ← e2]
  rfl
theorem call_add64 (x y c : Int) (hx : 0 ≤ x ∧ x ≤ 18446744073709551615) (hy : 0 ≤ y ∧ y ≤ 18446744073709551615) (hc : 0 ≤ c ∧ c ≤ 1) (w : World) :
    (callFunc 58 #[.int .u64 x, .int .u64 y, .int .u64 c]).run Tryd.prog w = .ok (.value (.tuple #[.int .u64 (sumLo x y c), .int .u64 (sumCy x y c)])) w := by
  rw [run_callFunc_extern Tryd.func58 (by kernel_rfl) (by kernel_rfl) (by kernel_rfl) (e := add64Entry) (by kernel_rfl), run_add64 x y c hx.1 hy.1 hc.1 hc.2]
  rfl
theorem call_sub64 (x y c : Int) (hx : 0 ≤ x ∧ x ≤ 18446744073709551615) (hy : 0 ≤ y ∧ y ≤ 18446744073709551615) (hc : 0 ≤ c ∧ c ≤ 1) (w : World) :
    (callFunc 66 #[.int .u64 x, .int .u64 y, .int .u64 c]).run Tryd.prog w = .ok (.value (.tuple #[.int .u64 (difLo x y c), .int .u64 (difBr x y c)])) w := by
  rw [run_callFunc_extern Tryd.func66 (by kernel_rfl) (by kernel_rfl) (by kernel_rfl) (e := sub64Entry) (by kernel_rfl), run_sub64 x y c hx.1 hy hc]
  rfl

/-- What the program's two package-level bounds hold, and that they lie there. -/
def Glob (w : World) : Prop :=
  w.cell? ⟨1, 0, none⟩ = some (.int .i64 (hiOf minW)) ∧ w.cell? ⟨1, 1, none⟩ = some (.int .u64 (loOf minW)) ∧
  w.cell? ⟨2, 0, none⟩ = some (.int .i64 (hiOf maxW)) ∧ w.cell? ⟨2, 1, none⟩ = some (.int .u64 (loOf maxW)) ∧
  1 < w.heap.size ∧ 2 < w.heap.size
theorem Glob.below {w w' : World} (h : Glob w) (hb : Below w.heap.size w w') : Glob w' := by
  obtain ⟨a, b, c, d, e, f⟩ := h
  have := hb.size
  exact ⟨by rw [hb.cell (by exact e)]; exact a, by rw [hb.cell (by exact e)]; exact b, by rw [hb.cell (by exact f)]; exact c, by rw [hb.cell (by exact f)]; exact d, by omega, by omega⟩

set_option maxHeartbeats 400000 in
theorem negative_any (x : Int) (w : World) :
    Calls Tryd.prog 59 #[.agg #[.int .i64 (hiOf x), .int .u64 (loOf x)]] w fun e w' => e = .returned (.bool (neg x)) ∧ ∃ cs, w' = w.alloc (.cells cs 52) := by
  go_enter Tryd.func59, Tryd.ntmps59
  have e := hi_neg x
  go_wp2
  go_ret
  exact ⟨rfl, _, rfl⟩
set_option maxHeartbeats 400000 in
theorem bound_any (b : Bool) (w : World) (hg : Glob w) :
    Calls Tryd.prog 60 #[.bool b] w fun e w' => e = .returned (.agg #[.int .i64 (hiOf (bnd b)), .int .u64 (loOf (bnd b))]) ∧ Below w.heap.size w w' := by
  obtain ⟨h1, h2, h3, h4, h5, h6⟩ := hg
  cases b
  all_goals
    go_enter Tryd.func60, Tryd.ntmps60
    go_wp2
    refine bodyPost_ret (v := .agg #[.int .i64 (hiOf (bnd _)), .int .u64 (loOf (bnd _))]) (by simp [results, Tryd.results60, go_sem, bnd]) rfl ⟨rfl, (Below.refl _ _).alloc (Nat.le_refl _) _⟩
set_option maxHeartbeats 400000 in
theorem of_any (n : Int) (h : -9223372036854775808 ≤ n ∧ n ≤ 9223372036854775807) (w : World) :
    Calls Tryd.prog 61 #[.int .i64 n] w fun e w' => e = .returned (.agg #[.int .i64 (hiOf n), .int .u64 (loOf n)]) ∧ Below w.heap.size w w' := by
  have e1 := of_hi n h
  have e2 := of_lo n
  go_enter Tryd.func61, Tryd.ntmps61
  go_wp2
  refine bodyPost_ret (v := .agg #[.int .i64 (hiOf n), .int .u64 (loOf n)]) (by simp [results, Tryd.results61, go_sem]) rfl ⟨rfl, (Below.refl _ _).alloc (Nat.le_refl _) _⟩
theorem negative_at (x : Int) (b : Bool) (h : neg x = b) (w : World) :
    Calls Tryd.prog 59 #[.agg #[.int .i64 (hiOf x), .int .u64 (loOf x)]] w fun e w' => e = .returned (.bool b) ∧ ∃ cs, w' = w.alloc (.cells cs 52) := by
  subst h; exact negative_any x w
end Go.Proofs.YthmkfkmcamjnoaaDoor
