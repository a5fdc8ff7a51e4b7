/-
  The document's numbers: Add.
-/
import Derived.Test.YthmkfkmcamjnoaaDoorRefD
import Derived.StillTailTactics
import Derived.BigRegion
namespace Go.Proofs.YthmkfkmcamjnoaaDoor
open Go.RowKit
/-- What is carried into the piece k. -/
def cy (m n : Int) (k : Nat) : Int := (m % 65536 ^ k + n % 65536 ^ k) / 65536 ^ k
theorem mod_succ65 (m : Int) (k : Nat) : m % 65536 ^ (k + 1) = dig m k * 65536 ^ k + m % 65536 ^ k := by
  have p := pow_pos65 k
  have e1 := Int.ediv_mul_add_emod m (65536 ^ (k + 1))
  have e2 := Int.ediv_mul_add_emod m (65536 ^ k)
  have e3 := step65 m k
  rw [e3, Int.add_mul] at e2
  rw [pow_succ65] at e1 ⊢
  have e4 : m / (65536 ^ k * 65536) * (65536 ^ k * 65536) = m / 65536 ^ (k + 1) * 65536 * 65536 ^ k := by rw [pow_succ65, Int.mul_assoc, Int.mul_comm (65536 ^ k) 65536]
  rw [e4] at e1
  omega
theorem cy_bd (m n : Int) (k : Nat) : 0 ≤ cy m n k ∧ cy m n k ≤ 1 := by
  have p := pow_pos65 k
  have a0 := Int.emod_nonneg m (show (65536 : Int) ^ k ≠ 0 by omega)
  have a1 := Int.emod_lt_of_pos m p
  have b0 := Int.emod_nonneg n (show (65536 : Int) ^ k ≠ 0 by omega)
  have b1 := Int.emod_lt_of_pos n p
  unfold cy
  refine ⟨Int.ediv_nonneg (by omega) (by omega), ?_⟩
  have : (m % 65536 ^ k + n % 65536 ^ k) / 65536 ^ k < 2 := Int.ediv_lt_of_lt_mul p (by omega)
  omega
theorem cy_succ (m n : Int) (k : Nat) : cy m n (k + 1) = (dig m k + dig n k + cy m n k) / 65536 := by
  have p := pow_pos65 k
  unfold cy
  rw [mod_succ65, mod_succ65, pow_succ65, ← Int.ediv_ediv_of_nonneg (by omega)]
  congr 1
  rw [show dig m k * 65536 ^ k + m % 65536 ^ k + (dig n k * 65536 ^ k + n % 65536 ^ k) = (m % 65536 ^ k + n % 65536 ^ k) + 65536 ^ k * (dig m k + dig n k) by rw [Int.mul_add, Int.mul_comm (65536 ^ k) (dig m k), Int.mul_comm (65536 ^ k) (dig n k)]; omega]
  rw [Int.add_mul_ediv_left _ _ (by omega)]
  omega
theorem div_add65 (m n : Int) (k : Nat) : (m + n) / 65536 ^ k = m / 65536 ^ k + n / 65536 ^ k + cy m n k := by
  have p := pow_pos65 k
  have e1 := Int.ediv_mul_add_emod m (65536 ^ k)
  have e2 := Int.ediv_mul_add_emod n (65536 ^ k)
  have e : m + n = (m % 65536 ^ k + n % 65536 ^ k) + 65536 ^ k * (m / 65536 ^ k + n / 65536 ^ k) := by rw [Int.mul_add, Int.mul_comm (65536 ^ k) (m / 65536 ^ k), Int.mul_comm (65536 ^ k) (n / 65536 ^ k)]; omega
  rw [e, Int.add_mul_ediv_left _ _ (by omega)]
  unfold cy
  omega
theorem dig_add (m n : Int) (k : Nat) : dig (m + n) k = (dig m k + dig n k + cy m n k) % 65536 := by
  have := div_add65 m n k
  unfold dig
  omega
/-- The pieces behind k rounds. -/
def addF (m n : Int) (k : Nat) : Nat → Int := fun j => if j < k then dig (m + n) j else if j = k then dig m k + cy m n k else dig m j
theorem addF_zero (m n : Int) : addF m n 0 = dig m := by
  funext j
  unfold addF
  by_cases h : j = 0
  · subst h; simp [cy]
  · simp [h]
theorem addF_step (m n : Int) (k : Nat) :
    upd (upd (upd (addF m n k) k (dig m k + cy m n k + dig n k)) (k + 1) (dig m (k + 1) + (dig m k + cy m n k + dig n k) / 65536)) k ((dig m k + cy m n k + dig n k) % 65536) = addF m n (k + 1) := by
  funext j
  have h1 := dig_add m n k
  have h2 := cy_succ m n k
  rw [show dig m k + dig n k + cy m n k = dig m k + cy m n k + dig n k by omega] at h1 h2
  unfold upd addF
  by_cases a : j = k
  · subst a; simp [h1]
  · by_cases b : j = k + 1
    · subst b; simp [h2]
    · by_cases c : j < k
      · simp [a, b, c, show j < k + 1 by omega]
      · simp [a, b, c, show ¬ j < k + 1 by omega]
theorem addF_end {m n : Int} (hm : 0 ≤ m ∧ m < 65536 ^ 19) (hn : 0 ≤ n ∧ n < 65536 ^ 19) : ∀ i, i < 20 → addF m n 19 i = dig (m + n) i := by
  intro i hi
  unfold addF
  by_cases h : i < 19
  · rw [if_pos h]
  · obtain rfl : i = 19 := by omega
    rw [if_neg (by omega), if_pos rfl, dig_add, dig_high hm.1 hm.2 (Nat.le_refl _), dig_high hn.1 hn.2 (Nat.le_refl _)]
    have := cy_bd m n 19
    omega
set_option maxHeartbeats 4000000 in
theorem radd_same (b : Bool) (m n : Int) (hm : 0 ≤ m ∧ m < 65536 ^ 19) (hn : 0 ≤ n ∧ n < 65536 ^ 19) (w : World) :
    Calls Tryd.prog 48 #[.agg (numC b (dig m)), .agg (numC b (dig n))] w fun e w' => e = .returned (.agg (numC b (dig (m + n)))) ∧ Below w.heap.size w w' := by
  have E := Lib.hid (numC_congr b (addF_end hm hn))
  have A : Hid (NumAt (((w.alloc (.cells (numC b (dig m)) 91)).alloc (.cells (numC b (dig n)) 91)).alloc (.cells (numC false fun _ => 0) 91)) w.heap.size b (addF m n 0)) := Lib.hid (addF_zero m n ▸ (((NumAt.new w b (dig m) rfl).alloc _).alloc _))
  have B : Hid (NumAt (((w.alloc (.cells (numC b (dig m)) 91)).alloc (.cells (numC b (dig n)) 91)).alloc (.cells (numC false fun _ => 0) 91)) (w.heap.size + 1) b (dig n)) := Lib.hid ((NumAt.new _ b (dig n) (by simp)).alloc _)
  have R : Hid (NumAt (((w.alloc (.cells (numC b (dig m)) 91)).alloc (.cells (numC b (dig n)) 91)).alloc (.cells (numC false fun _ => 0) 91)) (w.heap.size + 1 + 1) false fun _ => 0) := Lib.hid (NumAt.new _ false _ (by simp))
  have W : Hid (Below w.heap.size w (((w.alloc (.cells (numC b (dig m)) 91)).alloc (.cells (numC b (dig n)) 91)).alloc (.cells (numC false fun _ => 0) 91))) := Lib.hid (by (repeat (first | (with_reducible exact Below.refl _ _) | (with_reducible assumption) | (with_reducible refine Below.drew ?_) | (with_reducible refine below_drewN ?_ _) | ((with_reducible refine Below.alloc ?_ ?_ _); rotate_left; (focus (first | (simp; done) | (simp; omega) | omega))) | ((with_reducible refine Below.setCell ?_ ?_ _); rotate_left; (focus (first | (simp; done) | (simp; omega) | omega))) | ((with_reducible refine Below.trans ?_ (Below.mono (by assumption) ?_)); rotate_left; (focus (first | (simp; done) | (simp; omega) | omega))))))
  clear hm hn
  go_enter Tryd.func48, Tryd.ntmps48
  go_upto_region 1 with fail
  rw [← numC_nought]
  generalize ((w.alloc (.cells (numC b (dig m)) 91)).alloc (.cells (numC b (dig n)) 91)).alloc (.cells (numC false fun _ => 0) 91) = w0 at *
  have a0 := A.out.cell0
  have b0 := B.out.cell0
  go_wp2
  go_loopw [5] (fun i wr => ∃ k : Nat, k ≤ 19 ∧ i = .int .i64 k ∧ Hid (NumAt wr w.heap.size b (addF m n k)) ∧ Hid (NumAt wr (w.heap.size + 1) b (dig n)) ∧ Hid (NumAt wr (w.heap.size + 1 + 1) false fun _ => 0) ∧ Hid (Below w.heap.size w wr)) (fun i _ => 19 - (intOf i).toNat)
  case atStart => exact ⟨0, by omega, rfl, A, B, R, W⟩
  case round =>
    obtain ⟨k, hk, rfl, A1, B1, R1, W1⟩ := hrel
    by_cases hlt : k < 19
    · have c1 := A1.out.cell (k := k) (by omega)
      have c2 := A1.out.cell (k := k + 1) (by omega)
      have c3 := B1.out.cell (k := k) (by omega)
      have f1 := A1.out.free (1 + k)
      have f2 := A1.out.free (1 + (k + 1))
      have d1 := dig_bd m k
      have d2 := dig_bd n k
      have d3 := dig_bd m (k + 1)
      have d4 := cy_bd m n k
      rw [show addF m n k k = dig m k + cy m n k by unfold addF; simp] at c1
      rw [show addF m n k (k + 1) = dig m (k + 1) by unfold addF; rw [if_neg (by omega), if_neg (by omega)]] at c2
      go_wp2
      go_region
      all_goals go_wp2
      all_goals go_region
      all_goals go_wp2
      have A2 := Lib.hid (addF_step m n k ▸ ((A1.out.put (k := k) (by omega) (dig m k + cy m n k + dig n k)).put (k := k + 1) (by omega) (dig m (k + 1) + (dig m k + cy m n k + dig n k) / 65536)).put (k := k) (by omega) ((dig m k + cy m n k + dig n k) % 65536))
      go_roundw
      case rel => exact ⟨k + 1, by omega, by go_num, Lib.hid A2.out, Lib.hid (((B1.out.other _ _ (by simp)).other _ _ (by simp)).other _ _ (by simp)), Lib.hid (((R1.out.other _ _ (by simp; omega)).other _ _ (by simp; omega)).other _ _ (by simp; omega)), Lib.hid (((W1.out.setCell (by simp) _).setCell (by simp) _).setCell (by simp) _).drew.drew⟩
      case measure => simp [intOf]; omega
    · obtain rfl : k = 19 := by omega
      go_wp2_with (first
        | (refine load_num rfl (.tmp 2) rfl w.heap.size rfl _ _ A1.out ?_)
        | (refine store_num rfl (.tmp 4) (.tmp 53) rfl (w.heap.size + 1 + 1) rfl _ _ rfl _ _ R1.out ?_))
      exact bodyPost_ret (results_cell_row (p := 4) rfl _ _ (w.heap.size + 1 + 1) 91 (numC b (addF m n 19)) (0, 0) _ rfl (R1.out.whole) Tryd.underlying91 rfl (infoN _ _)) rfl (And.intro (by rw [E.out]) (Below.setRow' W1.out (by omega) _))
end Go.Proofs.YthmkfkmcamjnoaaDoor
