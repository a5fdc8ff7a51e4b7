/-
  The document's numbers: the contracts in one shape, and a whole number loaded in a region that only reads.
  The document's numbers, whole: their values; Zero.
-/
import Derived.Test.YthmkfkmcamjnoaaDoorRefJ
import Derived.Test.YthmkfkmcamjnoaaDoorGives
import Derived.BigQuiet
namespace Go.Proofs.YthmkfkmcamjnoaaDoor
set_option maxRecDepth 8000
open Go.RowKit Go.Sort
theorem vz_pair (x : Int) : vz (pair0 x) (absN x) = x := by unfold vz pair0 absN; by_cases h : x < 0 <;> simp [h]
theorem vz_npair (x : Int) : vz (!pair0 x) (absN x) = -x := by unfold vz pair0 absN; by_cases h : x < 0 <;> simp [h]
theorem sz19 {m : Int} (h : 0 ≤ m ∧ m < 65536 ^ 19) : Sz m := ⟨h.1, Int.lt_of_lt_of_le h.2 (pow_mono65 (by omega))⟩
theorem r_of (n : Int) (h : -9223372036854775808 ≤ n ∧ n ≤ 9223372036854775807) : Gives 70 #[.int .i64 n] (.agg (numC (pair0 n) (dig (absN n)))) := fun w _ => rof_any n h w
theorem r_num (n : Int) (h0 : 0 ≤ n) (h1 : n ≤ 18446744073709551615) : Gives 52 #[.int .u64 n] (.agg (numC false (dig n))) := fun w _ => num64_any n h0 h1 w
theorem r_from (x : Int) (h : In x) : Gives 49 #[.agg #[.int .i64 (hiOf x), .int .u64 (loOf x)]] (.agg (numC (pair0 x) (dig (absN x)))) := fun w _ => rfrom_any x h w
theorem r_wide (b : Bool) (m v : Int) (hm : Sz m) (hv : vz b m = v) : Gives 54 #[.agg (numC b (dig m))] (.agg #[.int .i64 (hiOf (sat v)), .int .u64 (loOf (sat v))]) := fun w _ => hv ▸ rwide_any b m hm w
theorem r_add (b c : Bool) (m n : Int) (hm : 0 ≤ m ∧ m < 65536 ^ 19) (hn : 0 ≤ n ∧ n < 65536 ^ 19) : Gives 48 #[.agg (numC b (dig m)), .agg (numC c (dig n))] (.agg (numC (addS b c m n) (dig (addM b c m n)))) := fun w _ => radd_any b c m n hm hn w
theorem r_neg (b : Bool) (f : Nat → Int) : Gives 50 #[.agg (numC b f)] (.agg (numC (!b) f)) := fun w _ => rneg_any b f w
theorem sgz_sgn (x y : Int) : sgz x y = sgn x y := by unfold sgz sgn; (repeat' split) <;> omega
theorem r_cmp (b c : Bool) (m n x y : Int) (hm : Sz m) (hn : Sz n) (hx : vz b m = x) (hy : vz c n = y) : Gives 72 #[.agg (numC b (dig m)), .agg (numC c (dig n))] (.int .i64 (sgn x y)) := fun w _ => by
  rw [← sgz_sgn, ← hx, ← hy]; exact rcmp_any b c m n hm hn w
theorem r_mul (b c : Bool) (m n : Int) (hm : Sz m) (hn : Sz n) (h : m * n < 65536 ^ 20) : Gives 56 #[.agg (numC b (dig m)), .agg (numC c (dig n))] (.agg (numC (bne b c) (dig (m * n)))) := fun w _ => rmul_any b c m n hm hn h w
theorem absN_wide {x : Int} (h : In x) : 0 ≤ absN x ∧ absN x ≤ 170141183460469231731687303715884105728 := by unfold In at h; unfold absN; split <;> omega
theorem sum_sz {x y : Int} (hx : In x) (hy : In y) (b c : Bool) : Sz (addM b c (absN x) (absN y)) := by
  have h := addM_bd (b := b) (c := c) (absN_wide hx).1 (absN_wide hy).1
  have := absN_wide hx; have := absN_wide hy
  exact ⟨h.1, by omega⟩
theorem quiet_load_num {ops : Array Oper} {C : World → Prop} {Q : Act → Prop} {a : Act} {o : Oper} {rest : List Oper} (x : Operand) (ho : o.op = .load 91 x) (hw : Region.wanted o (yielded ops a.tmps) = true)
    (g : Nat) (hx : a.eval x = .pointer (some ⟨g, 0, none⟩)) (b : Bool) (f : Nat → Int) (hS : ∀ w, C w → NumAt w g b f) (h : wpQuiet Tryd.prog ops C Q rest (a.put o.dst (.agg (numC b f)))) : wpQuiet Tryd.prog ops C Q (o :: rest) a :=
  BigFrame.wpQuiet_want hw fun K hK => ⟨.agg (numC b f), fun w hw => by
    have e : (execOp a.eval o).run Tryd.prog w = .ok (.value (.agg (numC b f))) w := by
      unfold execOp
      simp only [ho, hx, Instr.loadAt, Instr.sureAddr, Sem.run_bind, Sem.run_pure, Result.andThen_ok, run_loadVar_row w g 91 91 (numC b f) (0, 0) _ (hS w hw) Tryd.underlying91 rfl (infoN _ _)]
    unfold Oper.quietAt
    rw [e]
    exact ⟨rfl, rfl⟩, hK _ h⟩
theorem NumAt.regrown {w : World} {g : Nat} {b : Bool} {f : Nat → Int} (h : NumAt w g b f) : ∀ w', (∃ p : Regrown, w' = grow (redrawn w p.d) p.os) → NumAt w' g b f := by
  rintro w' ⟨p, rfl⟩
  exact h.on (below_regrown w p.d p.os)
end Go.Proofs.YthmkfkmcamjnoaaDoor
namespace Go.Proofs.YthmkfkmcamjnoaaDoor
open Go.RowKit Go.Sort
set_option maxRecDepth 8000
def numV (b : Bool) (m : Int) : Value := .agg (numC b (dig m))
def numO (b : Bool) (m : Int) : Obj := .cells (numC b (dig m)) 91 (0, 0)
theorem dig_zero : dig 0 = fun _ => 0 := by funext i; unfold dig; simp
theorem r_zero (b : Bool) (m : Int) (h : Sz m) : Gives 53 #[.agg (numC b (dig m))] (.bool (decide (m = 0))) := fun w _ => rzero_any b m h w
end Go.Proofs.YthmkfkmcamjnoaaDoor
