/-
  The document's numbers: Num64 and Of.
-/
import Derived.Test.YtednmodeoofbgaaDoorRefA
namespace Go.Proofs.YtednmodeoofbgaaDoor
open Go.RowKit
/-- The piece j of a size. -/
def dig (m : Int) (j : Nat) : Int := m / 65536 ^ j % 65536
theorem numC_congr (b : Bool) {f g : Nat → Int} (h : ∀ i, i < 20 → f i = g i) : numC b f = numC b g := by
  unfold numC
  congr 2
  apply List.map_congr_left
  intro i hi
  rw [h i (by simpa using hi)]
theorem dig_bd (m : Int) (j : Nat) : 0 ≤ dig m j ∧ dig m j < 65536 := by unfold dig; omega
theorem pow_succ65 (j : Nat) : (65536 : Int) ^ (j + 1) = 65536 ^ j * 65536 := Int.pow_succ _ _
theorem pow_pos65 (j : Nat) : (0 : Int) < 65536 ^ j := Int.pow_pos (by decide)
theorem pow_mono65 {i j : Nat} (h : i ≤ j) : (65536 : Int) ^ i ≤ 65536 ^ j := by
  induction j with
  | zero => obtain rfl : i = 0 := by omega
            exact Int.le_refl _
  | succ n ih =>
    rcases (show i ≤ n ∨ i = n + 1 by omega) with h' | rfl
    · have := ih h'; have := pow_pos65 n; rw [pow_succ65]; omega
    · exact Int.le_refl _
theorem div_succ65 (m : Int) (j : Nat) : m / 65536 ^ (j + 1) = m / 65536 ^ j / 65536 := by
  rw [pow_succ65, Int.ediv_ediv_of_nonneg (Int.le_of_lt (pow_pos65 j))]
theorem dig_high {m : Int} {k j : Nat} (h0 : 0 ≤ m) (h : m < 65536 ^ k) (hj : k ≤ j) : dig m j = 0 := by
  unfold dig
  rw [Int.ediv_eq_zero_of_lt h0 (Int.lt_of_lt_of_le h (pow_mono65 hj))]
  rfl
theorem low_dig {x : Int} (h0 : 0 ≤ x) (h1 : x ≤ 18446744073709551615) (i : Nat) : (if i < 4 then dig x i else 0) = dig x i := by
  split
  · rfl
  · rw [dig_high (k := 4) h0 (by rw [show (65536 : Int) ^ 4 = 18446744073709551616 by decide]; omega) (by omega)]
/-- 0, as it is laid. -/
theorem numC_nought : numC false (fun _ => 0) = #[.bool false, .int .u64 0, .int .u64 0, .int .u64 0, .int .u64 0, .int .u64 0, .int .u64 0, .int .u64 0, .int .u64 0, .int .u64 0, .int .u64 0, .int .u64 0, .int .u64 0, .int .u64 0, .int .u64 0, .int .u64 0, .int .u64 0, .int .u64 0, .int .u64 0, .int .u64 0, .int .u64 0] := rfl
theorem upd_low (x : Int) (k : Nat) : upd (fun j => if j < k then dig x j else 0) k (x / 65536 ^ k % 65536) = fun j => if j < k + 1 then dig x j else 0 := by
  funext j
  unfold upd
  by_cases h : j = k
  · subst h; simp [dig]
  · by_cases h' : j < k
    · simp [h, h', show j < k + 1 by omega]
    · simp [h, h', show ¬ j < k + 1 by omega]
set_option maxHeartbeats 2000000 in
theorem num64_any (x : Int) (h0 : 0 ≤ x) (h1 : x ≤ 18446744073709551615) (w : World) :
    Calls Tryd.prog 12 #[.int .u64 x] w fun e w' => e = .returned (.agg (numC false (dig x))) ∧ Below w.heap.size w w' := by
  go_enter Tryd.func12, Tryd.ntmps12
  go_wp2_with (first
    | (refine wpList_store_row rfl 28 (.tmp 3) (.tmp 5) rfl (w.heap.size + 1) (numC false fun _ => 0) rfl rfl 28 (numC false fun _ => 0) ((NumAt.new (w.alloc (.cells (numC false fun _ => 0) 28)) false (fun _ => 0) (by simp))) (infoN _ _) rfl (numC_ok _ _) ?_))
  go_loopw [0, 4] (fun u i wr => ∃ k : Nat, k ≤ 4 ∧ i = .int .i64 k ∧ u = .int .u64 (x / 65536 ^ k) ∧ Hid (NumAt wr (w.heap.size + 1) false (fun j => if j < k then dig x j else 0)) ∧ Hid (NumAt wr w.heap.size false (fun _ => 0)) ∧ Hid (Below w.heap.size w wr)) (fun _ i _ => 4 - (intOf i).toNat)
  case atStart => exact ⟨0, by omega, rfl, by simp, Lib.hid ((NumAt.new _ false (fun _ => 0) (by simp)).whole), Lib.hid (((NumAt.new w false (fun _ => 0) rfl).alloc _).wholeOther _ (by omega)), Lib.hid (Below.setRow' (((Below.refl _ _).alloc (Nat.le_refl _) _).alloc (by simp) _) (by omega) _)⟩
  case round =>
    obtain ⟨k, hk, rfl, rfl, A, R, hb⟩ := hrel
    have u0 : 0 ≤ x / 65536 ^ k := Int.ediv_nonneg h0 (Int.le_of_lt (pow_pos65 k))
    have u1 : x / 65536 ^ k ≤ 18446744073709551615 := Int.le_trans (Int.ediv_le_self _ h0) h1
    by_cases hlt : k < 4
    · have c := A.out.cell (k := k) (by omega)
      have fz := A.out.free (1 + k)
      go_wp2
      go_roundw
      case rel => exact ⟨k + 1, by omega, by go_num, by rw [div_succ65], Lib.hid (upd_low x k ▸ A.out.put (by omega) _), Lib.hid (R.out.other _ _ (by simp)), Lib.hid (hb.out.setCell (by simp) _)⟩
      case measure => simp [intOf]; omega
    · obtain rfl : k = 4 := by omega
      have e : numC false (fun j => if j < 4 then dig x j else 0) = numC false (dig x) := numC_congr _ fun i _ => low_dig h0 h1 i
      have A' : Hid (wr.heap[w.heap.size + 1]? = some (.cells (numC false (dig x)) 28 (0, 0))) := Lib.hid (e ▸ A.out)
      clear e A
      go_wp2_with (first
        | (refine wpList_load_row rfl 28 (.tmp 3) rfl (w.heap.size + 1) rfl 28 (numC false (dig x)) (0, 0) _ A'.out Tryd.underlying28 rfl (infoN _ _) ?_)
        | (refine wpList_store_row rfl 28 (.tmp 2) (.tmp 17) rfl w.heap.size (numC false (dig x)) rfl rfl 28 (numC false fun _ => 0) R.out (infoN _ _) (by rw [numC_size, numC_size]) (numC_ok _ _) ?_))
      exact bodyPost_ret (results_cell_row (p := 2) rfl _ _ w.heap.size 28 (numC false (dig x)) (0, 0) _ rfl (R.out.whole) Tryd.underlying28 rfl (infoN _ _)) rfl (And.intro rfl (Below.setRow' hb.out (Nat.le_refl _) _))
/-- The size of a number of 64 bits. -/
def absN (x : Int) : Int := if x < 0 then -x else x
theorem absN_bd {x : Int} (h : -9223372036854775808 ≤ x ∧ x ≤ 9223372036854775807) : 0 ≤ absN x ∧ absN x ≤ 9223372036854775808 := by unfold absN; split <;> omega
/-- A number of the document's: whether below 0, and its size. -/
def pair0 (x : Int) : Bool := decide (x < 0)
set_option maxHeartbeats 2000000 in
theorem rof_any (x : Int) (h : -9223372036854775808 ≤ x ∧ x ≤ 9223372036854775807) (w : World) :
    Calls Tryd.prog 10 #[.int .i64 x] w fun e w' => e = .returned (.agg (numC (pair0 x) (dig (absN x)))) ∧ Below w.heap.size w w' := by
  have hab := absN_bd h
  obtain ⟨h0, h1⟩ := hab
  have e1 : ¬ x < 0 → IntKind.u64.wrap x = absN x := fun hx => by rw [IntKind.wrap_u64]; unfold absN; rw [if_neg hx]; omega
  have e2 : x < 0 → IntKind.u64.wrap (0 - IntKind.u64.wrap x) = absN x := fun hx => by rw [IntKind.wrap_u64, IntKind.wrap_u64]; unfold absN; rw [if_pos hx]; omega
  have e0 : pair0 x = decide (x < 0) := rfl
  rw [e0]
  generalize absN x = m at *
  by_cases hx : x < 0
  · have e3 := Lib.hid (e2 hx)
    rw [Int.zero_sub] at e3
    have k : decide (x < 0) = true := by simpa using hx
    rw [k]
    clear e1 e2 hx e0
    go_enter Tryd.func10, Tryd.ntmps10
    go_wp2_with (first
      | (refine wpList_store_row rfl 28 (.tmp 3) (.tmp 8) rfl (w.heap.size + 1) (numC true fun _ => 0) rfl rfl 28 (numC false fun _ => 0) ((NumAt.new (w.alloc (.cells (numC false fun _ => 0) 28)) false (fun _ => 0) (by simp))) (infoN _ _) rfl (numC_ok _ _) ?_))
    go_loopw [4, 5] (fun u i wr => ∃ k : Nat, k ≤ 4 ∧ i = .int .i64 k ∧ u = .int .u64 (m / 65536 ^ k) ∧ Hid (NumAt wr (w.heap.size + 1) true (fun j => if j < k then dig m j else 0)) ∧ Hid (NumAt wr w.heap.size false (fun _ => 0)) ∧ Hid (Below w.heap.size w wr)) (fun _ i _ => 4 - (intOf i).toNat)
    case atStart => exact ⟨0, by omega, rfl, by have h := e3.out; simp [h], Lib.hid ((NumAt.new _ false (fun _ => 0) (by simp)).whole), Lib.hid (((NumAt.new w false (fun _ => 0) rfl).alloc _).wholeOther _ (by omega)), Lib.hid (Below.setRow' (((Below.refl _ _).alloc (Nat.le_refl _) _).alloc (by simp) _) (by omega) _)⟩
    case round =>
      obtain ⟨k, hk, rfl, rfl, A, R, hb⟩ := hrel
      have u0 : 0 ≤ m / 65536 ^ k := Int.ediv_nonneg h0 (Int.le_of_lt (pow_pos65 k))
      have u1 : m / 65536 ^ k ≤ 9223372036854775808 := Int.le_trans (Int.ediv_le_self _ h0) h1
      by_cases hlt : k < 4
      · have c := A.out.cell (k := k) (by omega)
        have fz := A.out.free (1 + k)
        go_wp2
        go_roundw
        case rel => exact ⟨k + 1, by omega, by go_num, by rw [div_succ65], Lib.hid (upd_low m k ▸ A.out.put (by omega) _), Lib.hid (R.out.other _ _ (by simp)), Lib.hid (hb.out.setCell (by simp) _)⟩
        case measure => simp [intOf]; omega
      · obtain rfl : k = 4 := by omega
        have e : numC true (fun j => if j < 4 then dig m j else 0) = numC true (dig m) := numC_congr _ fun i _ => low_dig h0 (by omega) i
        have A' : Hid (wr.heap[w.heap.size + 1]? = some (.cells (numC true (dig m)) 28 (0, 0))) := Lib.hid (e ▸ A.out)
        clear e A
        go_wp2_with (first
          | (refine wpList_load_row rfl 28 (.tmp 3) rfl (w.heap.size + 1) rfl 28 (numC true (dig m)) (0, 0) _ A'.out Tryd.underlying28 rfl (infoN _ _) ?_)
          | (refine wpList_store_row rfl 28 (.tmp 2) (.tmp 26) rfl w.heap.size (numC true (dig m)) rfl rfl 28 (numC false fun _ => 0) R.out (infoN _ _) (by rw [numC_size, numC_size]) (numC_ok _ _) ?_))
        exact bodyPost_ret (results_cell_row (p := 2) rfl _ _ w.heap.size 28 (numC true (dig m)) (0, 0) _ rfl (R.out.whole) Tryd.underlying28 rfl (infoN _ _)) rfl (And.intro rfl (Below.setRow' hb.out (Nat.le_refl _) _))
  · have e3 := Lib.hid (e1 hx)
    have k : decide (x < 0) = false := by simpa using hx
    rw [k]
    clear e1 e2 hx e0
    go_enter Tryd.func10, Tryd.ntmps10
    go_wp2_with (first
      | (refine wpList_store_row rfl 28 (.tmp 3) (.tmp 8) rfl (w.heap.size + 1) (numC false fun _ => 0) rfl rfl 28 (numC false fun _ => 0) ((NumAt.new (w.alloc (.cells (numC false fun _ => 0) 28)) false (fun _ => 0) (by simp))) (infoN _ _) rfl (numC_ok _ _) ?_))
    go_loopw [4, 5] (fun u i wr => ∃ k : Nat, k ≤ 4 ∧ i = .int .i64 k ∧ u = .int .u64 (m / 65536 ^ k) ∧ Hid (NumAt wr (w.heap.size + 1) false (fun j => if j < k then dig m j else 0)) ∧ Hid (NumAt wr w.heap.size false (fun _ => 0)) ∧ Hid (Below w.heap.size w wr)) (fun _ i _ => 4 - (intOf i).toNat)
    case atStart => exact ⟨0, by omega, rfl, by have h := e3.out; simp [h], Lib.hid ((NumAt.new _ false (fun _ => 0) (by simp)).whole), Lib.hid (((NumAt.new w false (fun _ => 0) rfl).alloc _).wholeOther _ (by omega)), Lib.hid (Below.setRow' (((Below.refl _ _).alloc (Nat.le_refl _) _).alloc (by simp) _) (by omega) _)⟩
    case round =>
      obtain ⟨k, hk, rfl, rfl, A, R, hb⟩ := hrel
      have u0 : 0 ≤ m / 65536 ^ k := Int.ediv_nonneg h0 (Int.le_of_lt (pow_pos65 k))
      have u1 : m / 65536 ^ k ≤ 9223372036854775808 := Int.le_trans (Int.ediv_le_self _ h0) h1
      by_cases hlt : k < 4
      · have c := A.out.cell (k := k) (by omega)
        have fz := A.out.free (1 + k)
        go_wp2
        go_roundw
        case rel => exact ⟨k + 1, by omega, by go_num, by rw [div_succ65], Lib.hid (upd_low m k ▸ A.out.put (by omega) _), Lib.hid (R.out.other _ _ (by simp)), Lib.hid (hb.out.setCell (by simp) _)⟩
        case measure => simp [intOf]; omega
      · obtain rfl : k = 4 := by omega
        have e : numC false (fun j => if j < 4 then dig m j else 0) = numC false (dig m) := numC_congr _ fun i _ => low_dig h0 (by omega) i
        have A' : Hid (wr.heap[w.heap.size + 1]? = some (.cells (numC false (dig m)) 28 (0, 0))) := Lib.hid (e ▸ A.out)
        clear e A
        go_wp2_with (first
          | (refine wpList_load_row rfl 28 (.tmp 3) rfl (w.heap.size + 1) rfl 28 (numC false (dig m)) (0, 0) _ A'.out Tryd.underlying28 rfl (infoN _ _) ?_)
          | (refine wpList_store_row rfl 28 (.tmp 2) (.tmp 26) rfl w.heap.size (numC false (dig m)) rfl rfl 28 (numC false fun _ => 0) R.out (infoN _ _) (by rw [numC_size, numC_size]) (numC_ok _ _) ?_))
        exact bodyPost_ret (results_cell_row (p := 2) rfl _ _ w.heap.size 28 (numC false (dig m)) (0, 0) _ rfl (R.out.whole) Tryd.underlying28 rfl (infoN _ _)) rfl (And.intro rfl (Below.setRow' hb.out (Nat.le_refl _) _))
end Go.Proofs.YtednmodeoofbgaaDoor
