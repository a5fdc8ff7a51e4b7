/-
  The document's numbers: Add, of two signs.
-/
import Derived.Test.YthmkfkmcamjnoaaDoorRefE
import Derived.Deep.Cut
import Derived.Deep.CutRange
namespace Go.Proofs.YthmkfkmcamjnoaaDoor
open Go.RowKit
/-- What is borrowed by the piece k. -/
def bo (p q : Int) (k : Nat) : Int := if p % 65536 ^ k < q % 65536 ^ k then 1 else 0
theorem bo_bd (p q : Int) (k : Nat) : 0 ≤ bo p q k ∧ bo p q k ≤ 1 := by unfold bo; split <;> omega
theorem bo_succ (p q : Int) (k : Nat) : bo p q (k + 1) = 1 - (dig p k + 65536 - dig q k - bo p q k) / 65536 := by
  have p0 := pow_pos65 k
  have a0 := Int.emod_nonneg p (show (65536 : Int) ^ k ≠ 0 by omega)
  have a1 := Int.emod_lt_of_pos p p0
  have b0 := Int.emod_nonneg q (show (65536 : Int) ^ k ≠ 0 by omega)
  have b1 := Int.emod_lt_of_pos q p0
  have d1 := dig_bd p k
  have d2 := dig_bd q k
  unfold bo
  rw [mod_succ65, mod_succ65]
  generalize dig p k = x at *
  generalize dig q k = y at *
  generalize p % 65536 ^ k = u at *
  generalize q % 65536 ^ k = v at *
  generalize (65536 : Int) ^ k = B at *
  rcases Int.lt_trichotomy x y with h | h | h
  · have h1 : (x + 1) * B ≤ y * B := Int.mul_le_mul_of_nonneg_right (by omega) (by omega)
    rw [Int.add_mul] at h1
    rw [if_pos (by omega)]
    split <;> omega
  · subst h
    by_cases hv : u < v
    · rw [if_pos (by omega), if_pos hv]; omega
    · rw [if_neg (by omega), if_neg hv]; omega
  · have h1 : (y + 1) * B ≤ x * B := Int.mul_le_mul_of_nonneg_right (by omega) (by omega)
    rw [Int.add_mul] at h1
    rw [if_neg (by omega)]
    split <;> omega
theorem div_sub65 (p q : Int) (k : Nat) : (p - q) / 65536 ^ k = p / 65536 ^ k - q / 65536 ^ k - bo p q k := by
  have p0 := pow_pos65 k
  have a0 := Int.emod_nonneg p (show (65536 : Int) ^ k ≠ 0 by omega)
  have a1 := Int.emod_lt_of_pos p p0
  have b0 := Int.emod_nonneg q (show (65536 : Int) ^ k ≠ 0 by omega)
  have b1 := Int.emod_lt_of_pos q p0
  have e1 := Int.ediv_mul_add_emod p (65536 ^ k)
  have e2 := Int.ediv_mul_add_emod q (65536 ^ k)
  have e : p - q = (p % 65536 ^ k - q % 65536 ^ k) + 65536 ^ k * (p / 65536 ^ k - q / 65536 ^ k) := by rw [Int.mul_sub, Int.mul_comm (65536 ^ k) (p / 65536 ^ k), Int.mul_comm (65536 ^ k) (q / 65536 ^ k)]; omega
  rw [e, Int.add_mul_ediv_left _ _ (by omega)]
  unfold bo
  by_cases hv : p % 65536 ^ k < q % 65536 ^ k
  · rw [if_pos hv]
    have : (p % 65536 ^ k - q % 65536 ^ k) / 65536 ^ k = -1 := by
      have h1 : (p % 65536 ^ k - q % 65536 ^ k) / 65536 ^ k < 0 := Int.ediv_lt_of_lt_mul p0 (by omega)
      have h2 : -1 ≤ (p % 65536 ^ k - q % 65536 ^ k) / 65536 ^ k := Int.le_ediv_of_mul_le p0 (by omega)
      omega
    omega
  · rw [if_neg hv, Int.ediv_eq_zero_of_lt (by omega) (by omega)]
    omega
theorem dig_sub (p q : Int) (k : Nat) : dig (p - q) k = (dig p k + 65536 - dig q k - bo p q k) % 65536 := by
  have := div_sub65 p q k
  unfold dig
  omega
def subF (p q : Int) (k : Nat) : Nat → Int := fun j => if j < k then dig (p - q) j else dig p j
theorem subF_zero (p q : Int) : subF p q 0 = dig p := by funext j; simp [subF]
theorem subF_step (p q : Int) (k : Nat) : upd (subF p q k) k ((dig p k + 65536 - dig q k - bo p q k) % 65536) = subF p q (k + 1) := by
  funext j
  have h1 := dig_sub p q k
  unfold upd subF
  by_cases a : j = k
  · subst a; simp [h1]
  · by_cases c : j < k
    · simp [a, c, show j < k + 1 by omega]
    · simp [a, c, show ¬ j < k + 1 by omega]
theorem subF_end (p q : Int) : ∀ i, i < 20 → subF p q 20 i = dig (p - q) i := by
  intro i hi; unfold subF; rw [if_pos hi]
def dS (b : Bool) (m n : Int) : Bool := if m < n then !b else b
def hiS (m n : Int) : Int := if m < n then n else m
def loS (m n : Int) : Int := if m < n then m else n
set_option maxHeartbeats 4000000 in
set_option maxRecDepth 4000 in
theorem radd_diff (b : Bool) (m n : Int) (hm : Sz m) (hn : Sz n) (w : World) :
    Calls Tryd.prog 48 #[.agg (numC b (dig m)), .agg (numC (!b) (dig n))] w fun e w' => e = .returned (.agg (numC (dS b m n) (dig (hiS m n - loS m n)))) ∧ Below w.heap.size w w' := by
  have S0 := Lib.hid (fun w => size_any b (!b) m n hm hn w)
  have A : Hid (NumAt (((w.alloc (.cells (numC b (dig m)) 91)).alloc (.cells (numC (!b) (dig n)) 91)).alloc (.cells (numC false fun _ => 0) 91)) w.heap.size b (dig m)) := Lib.hid ((((NumAt.new w b (dig m) rfl).alloc _).alloc _))
  have B : Hid (NumAt (((w.alloc (.cells (numC b (dig m)) 91)).alloc (.cells (numC (!b) (dig n)) 91)).alloc (.cells (numC false fun _ => 0) 91)) (w.heap.size + 1) (!b) (dig n)) := Lib.hid ((NumAt.new _ (!b) (dig n) (by simp)).alloc _)
  have R : Hid (NumAt (((w.alloc (.cells (numC b (dig m)) 91)).alloc (.cells (numC (!b) (dig n)) 91)).alloc (.cells (numC false fun _ => 0) 91)) (w.heap.size + 1 + 1) false fun _ => 0) := Lib.hid (NumAt.new _ false _ (by simp))
  have W : Hid (Below w.heap.size w (((w.alloc (.cells (numC b (dig m)) 91)).alloc (.cells (numC (!b) (dig n)) 91)).alloc (.cells (numC false fun _ => 0) 91))) := Lib.hid (by (repeat (first | (with_reducible exact Below.refl _ _) | (with_reducible assumption) | (with_reducible refine Below.drew ?_) | (with_reducible refine below_drewN ?_ _) | ((with_reducible refine Below.alloc ?_ ?_ _); rotate_left; (focus (first | (simp; done) | (simp; omega) | omega))) | ((with_reducible refine Below.setCell ?_ ?_ _); rotate_left; (focus (first | (simp; done) | (simp; omega) | omega))) | ((with_reducible refine Below.trans ?_ (Below.mono (by assumption) ?_)); rotate_left; (focus (first | (simp; done) | (simp; omega) | omega))))))
  have C : Hid (m < n ∧ dS b m n = !b ∧ hiS m n = n ∧ loS m n = m ∧ (∀ w, Calls Tryd.prog 57 #[.agg (numC b (dig m)), .agg (numC (!b) (dig n))] w fun e w' => e = .returned (.int .i64 (-1)) ∧ Below w.heap.size w w')
      ∨ ¬ m < n ∧ dS b m n = b ∧ hiS m n = m ∧ loS m n = n ∧ ∃ z : Int, decide (z < 0) = false ∧ (∀ w, Calls Tryd.prog 57 #[.agg (numC b (dig m)), .agg (numC (!b) (dig n))] w fun e w' => e = .returned (.int .i64 z) ∧ Below w.heap.size w w')) := by
    apply Lib.hid
    have S1 := S0.out
    unfold dS hiS loS
    by_cases h : m < n
    · refine .inl ⟨h, if_pos h, if_pos h, if_pos h, ?_⟩
      rw [show sgz m n = -1 from if_pos h] at S1
      exact S1
    · refine .inr ⟨h, if_neg h, if_neg h, if_neg h, sgz m n, ?_, S1⟩
      unfold sgz; rw [if_neg h]; simp; split <;> omega
  clear S0 hm hn
  rcases C.out with ⟨-, e1, e2, e3, S0⟩ | ⟨-, e1, e2, e3, z, kz, S0⟩
  all_goals
    rw [e1, e2, e3]
    clear e1 e2 e3 C
    have S1 := Lib.hid S0
    clear S0
    cases b
    all_goals
      go_enter Tryd.func48, Tryd.ntmps48
      simp only [Bool.not_true, Bool.not_false] at A B R W S1 ⊢
      go_upto_region 1 with fail
      rw [← numC_nought]
      generalize hw0 : World.alloc _ (.cells (numC false fun _ => 0) 91) = w0 at *
      clear hw0
      have a0 := A.out.cell0
      have b0 := B.out.cell0
      go_upto_region 11 with (first
        | (refine load_num rfl (.tmp 2) rfl w.heap.size rfl _ _ A.out ?_)
        | (refine load_num rfl (.tmp 3) rfl (w.heap.size + 1) rfl _ _ B.out ?_)
        | (go_at_call 57; refine (S1.out _).mono ?_; rintro e w1 ⟨rfl, hb⟩; have A1 := Lib.hid (A.out.on hb); have B1 := Lib.hid (B.out.on hb); have R1 := Lib.hid (R.out.on hb); have W1 := Lib.hid (W.out.trans (hb.mono W.out.size)); clear hb A B R W)
        | (refine load_num rfl (.tmp 3) rfl (w.heap.size + 1) rfl _ _ B1.out ?_)
        | (refine load_num rfl (.tmp 2) rfl w.heap.size rfl _ _ A1.out ?_)
        | (refine store_num rfl (.tmp 2) (.tmp 58) rfl w.heap.size rfl _ _ rfl _ _ A1.out ?_)
        | (refine store_num rfl (.tmp 3) (.tmp 59) rfl (w.heap.size + 1) rfl _ _ rfl _ _ (B1.out.wholeOther _ (by omega)) ?_))
  · -- tails
    have A2 : Hid (NumAt ((w1.setRow w.heap.size (numC true (dig n))).setRow (w.heap.size + 1) (numC false (dig m))) w.heap.size true (subF n m 0)) := Lib.hid (subF_zero n m ▸ A1.out.whole.wholeOther _ (by omega))
    have B2 : Hid (NumAt ((w1.setRow w.heap.size (numC true (dig n))).setRow (w.heap.size + 1) (numC false (dig m))) (w.heap.size + 1) false (dig m)) := Lib.hid (B1.out.wholeOther _ (by omega)).whole
    have R2 : Hid (NumAt ((w1.setRow w.heap.size (numC true (dig n))).setRow (w.heap.size + 1) (numC false (dig m))) (w.heap.size + 1 + 1) false fun _ => 0) := Lib.hid ((R1.out.wholeOther _ (by omega)).wholeOther _ (by omega))
    have W2 : Hid (Below w.heap.size w ((w1.setRow w.heap.size (numC true (dig n))).setRow (w.heap.size + 1) (numC false (dig m)))) := Lib.hid (Below.setRow' (Below.setRow' W1.out (by omega) _) (by omega) _)
    generalize ((w1.setRow w.heap.size (numC true (dig n))).setRow (w.heap.size + 1) (numC false (dig m))) = w2 at *
    clear A1 B1 R1 W1
    have Z : Hid (bo n m 0 = 0) := Lib.hid (by unfold bo; rw [if_neg (by simp)])
    have E := Lib.hid (numC_congr true (subF_end n m))
    go_wp2
    go_loopw [6, 7] (fun o i wr => ∃ k : Nat, k ≤ 20 ∧ o = .int .u64 (bo n m k) ∧ i = .int .i64 k ∧ Hid (NumAt wr w.heap.size true (subF n m k)) ∧ Hid (NumAt wr (w.heap.size + 1) false (dig m)) ∧ Hid (NumAt wr (w.heap.size + 1 + 1) false fun _ => 0) ∧ Hid (Below w.heap.size w wr)) (fun _ i _ => 20 - (intOf i).toNat)
    case atStart => exact ⟨0, by omega, by rw [Z.out], rfl, A2, B2, R2, W2⟩
    case round =>
      obtain ⟨k, hk, rfl, rfl, A3, B3, R3, W3⟩ := hrel
      by_cases hlt : k < 20
      · have c1 := A3.out.cell (k := k) (by omega)
        have c3 := B3.out.cell (k := k) (by omega)
        have f1 := A3.out.free (1 + k)
        have d1 := dig_bd n k
        have d2 := dig_bd m k
        have d4 := bo_bd n m k
        have bs := Lib.hid (bo_succ n m k)
        rw [show subF n m k k = dig n k by unfold subF; simp] at c1
        have A4 := Lib.hid (subF_step n m k ▸ A3.out.put (k := k) (by omega) ((dig n k + 65536 - dig m k - bo n m k) % 65536))
        go_wp2
        go_quiet (fail)
        go_wp2
        go_roundw
        case rel => exact ⟨k + 1, by omega, by rw [bs.out], by go_num, Lib.hid A4.out, Lib.hid (B3.out.other _ _ (by simp)), Lib.hid (R3.out.other _ _ (by simp; omega)), Lib.hid ((below_drewN W3.out _).setCell (Nat.le_refl _) _)⟩
        case measure => simp [intOf]; omega
      · obtain rfl : k = 20 := by omega
        go_wp2_with (first
          | (refine load_num rfl (.tmp 2) rfl w.heap.size rfl _ _ A3.out ?_)
          | (refine store_num rfl (.tmp 4) (.tmp 84) rfl (w.heap.size + 1 + 1) rfl _ _ rfl _ _ R3.out ?_))
        exact bodyPost_ret (results_cell_row (p := 4) rfl _ _ (w.heap.size + 1 + 1) 91 (numC true (subF n m 20)) (0, 0) _ rfl (R3.out.whole) Tryd.underlying91 rfl (infoN _ _)) rfl (And.intro (by rw [E.out]) (Below.setRow' W3.out (by omega) _))
  · have A2 : Hid (NumAt ((w1.setRow w.heap.size (numC false (dig n))).setRow (w.heap.size + 1) (numC true (dig m))) w.heap.size false (subF n m 0)) := Lib.hid (subF_zero n m ▸ A1.out.whole.wholeOther _ (by omega))
    have B2 : Hid (NumAt ((w1.setRow w.heap.size (numC false (dig n))).setRow (w.heap.size + 1) (numC true (dig m))) (w.heap.size + 1) true (dig m)) := Lib.hid (B1.out.wholeOther _ (by omega)).whole
    have R2 : Hid (NumAt ((w1.setRow w.heap.size (numC false (dig n))).setRow (w.heap.size + 1) (numC true (dig m))) (w.heap.size + 1 + 1) false fun _ => 0) := Lib.hid ((R1.out.wholeOther _ (by omega)).wholeOther _ (by omega))
    have W2 : Hid (Below w.heap.size w ((w1.setRow w.heap.size (numC false (dig n))).setRow (w.heap.size + 1) (numC true (dig m)))) := Lib.hid (Below.setRow' (Below.setRow' W1.out (by omega) _) (by omega) _)
    generalize ((w1.setRow w.heap.size (numC false (dig n))).setRow (w.heap.size + 1) (numC true (dig m))) = w2 at *
    clear A1 B1 R1 W1
    have Z : Hid (bo n m 0 = 0) := Lib.hid (by unfold bo; rw [if_neg (by simp)])
    have E := Lib.hid (numC_congr false (subF_end n m))
    go_wp2
    go_loopw [6, 7] (fun o i wr => ∃ k : Nat, k ≤ 20 ∧ o = .int .u64 (bo n m k) ∧ i = .int .i64 k ∧ Hid (NumAt wr w.heap.size false (subF n m k)) ∧ Hid (NumAt wr (w.heap.size + 1) true (dig m)) ∧ Hid (NumAt wr (w.heap.size + 1 + 1) false fun _ => 0) ∧ Hid (Below w.heap.size w wr)) (fun _ i _ => 20 - (intOf i).toNat)
    case atStart => exact ⟨0, by omega, by rw [Z.out], rfl, A2, B2, R2, W2⟩
    case round =>
      obtain ⟨k, hk, rfl, rfl, A3, B3, R3, W3⟩ := hrel
      by_cases hlt : k < 20
      · have c1 := A3.out.cell (k := k) (by omega)
        have c3 := B3.out.cell (k := k) (by omega)
        have f1 := A3.out.free (1 + k)
        have d1 := dig_bd n k
        have d2 := dig_bd m k
        have d4 := bo_bd n m k
        have bs := Lib.hid (bo_succ n m k)
        rw [show subF n m k k = dig n k by unfold subF; simp] at c1
        have A4 := Lib.hid (subF_step n m k ▸ A3.out.put (k := k) (by omega) ((dig n k + 65536 - dig m k - bo n m k) % 65536))
        go_wp2
        go_quiet (fail)
        go_wp2
        go_roundw
        case rel => exact ⟨k + 1, by omega, by rw [bs.out], by go_num, Lib.hid A4.out, Lib.hid (B3.out.other _ _ (by simp)), Lib.hid (R3.out.other _ _ (by simp; omega)), Lib.hid ((below_drewN W3.out _).setCell (Nat.le_refl _) _)⟩
        case measure => simp [intOf]; omega
      · obtain rfl : k = 20 := by omega
        go_wp2_with (first
          | (refine load_num rfl (.tmp 2) rfl w.heap.size rfl _ _ A3.out ?_)
          | (refine store_num rfl (.tmp 4) (.tmp 84) rfl (w.heap.size + 1 + 1) rfl _ _ rfl _ _ R3.out ?_))
        exact bodyPost_ret (results_cell_row (p := 4) rfl _ _ (w.heap.size + 1 + 1) 91 (numC false (subF n m 20)) (0, 0) _ rfl (R3.out.whole) Tryd.underlying91 rfl (infoN _ _)) rfl (And.intro (by rw [E.out]) (Below.setRow' W3.out (by omega) _))
  · have A2 : Hid (NumAt w1 w.heap.size false (subF m n 0)) := Lib.hid (subF_zero m n ▸ A1.out)
    have B2 := B1
    have R2 := R1
    have W2 := W1
    have Z : Hid (bo m n 0 = 0) := Lib.hid (by unfold bo; rw [if_neg (by simp)])
    have E := Lib.hid (numC_congr false (subF_end m n))
    go_wp2
    go_loopw [6, 7] (fun o i wr => ∃ k : Nat, k ≤ 20 ∧ o = .int .u64 (bo m n k) ∧ i = .int .i64 k ∧ Hid (NumAt wr w.heap.size false (subF m n k)) ∧ Hid (NumAt wr (w.heap.size + 1) true (dig n)) ∧ Hid (NumAt wr (w.heap.size + 1 + 1) false fun _ => 0) ∧ Hid (Below w.heap.size w wr)) (fun _ i _ => 20 - (intOf i).toNat)
    case atStart => exact ⟨0, by omega, by rw [Z.out], rfl, A2, B2, R2, W2⟩
    case round =>
      obtain ⟨k, hk, rfl, rfl, A3, B3, R3, W3⟩ := hrel
      by_cases hlt : k < 20
      · have c1 := A3.out.cell (k := k) (by omega)
        have c3 := B3.out.cell (k := k) (by omega)
        have f1 := A3.out.free (1 + k)
        have d1 := dig_bd m k
        have d2 := dig_bd n k
        have d4 := bo_bd m n k
        have bs := Lib.hid (bo_succ m n k)
        rw [show subF m n k k = dig m k by unfold subF; simp] at c1
        have A4 := Lib.hid (subF_step m n k ▸ A3.out.put (k := k) (by omega) ((dig m k + 65536 - dig n k - bo m n k) % 65536))
        go_wp2
        go_quiet (fail)
        go_wp2
        go_roundw
        case rel => exact ⟨k + 1, by omega, by rw [bs.out], by go_num, Lib.hid A4.out, Lib.hid (B3.out.other _ _ (by simp)), Lib.hid (R3.out.other _ _ (by simp; omega)), Lib.hid ((below_drewN W3.out _).setCell (Nat.le_refl _) _)⟩
        case measure => simp [intOf]; omega
      · obtain rfl : k = 20 := by omega
        go_wp2_with (first
          | (refine load_num rfl (.tmp 2) rfl w.heap.size rfl _ _ A3.out ?_)
          | (refine store_num rfl (.tmp 4) (.tmp 84) rfl (w.heap.size + 1 + 1) rfl _ _ rfl _ _ R3.out ?_))
        exact bodyPost_ret (results_cell_row (p := 4) rfl _ _ (w.heap.size + 1 + 1) 91 (numC false (subF m n 20)) (0, 0) _ rfl (R3.out.whole) Tryd.underlying91 rfl (infoN _ _)) rfl (And.intro (by rw [E.out]) (Below.setRow' W3.out (by omega) _))
  · have A2 : Hid (NumAt w1 w.heap.size true (subF m n 0)) := Lib.hid (subF_zero m n ▸ A1.out)
    have B2 := B1
    have R2 := R1
    have W2 := W1
    have Z : Hid (bo m n 0 = 0) := Lib.hid (by unfold bo; rw [if_neg (by simp)])
    have E := Lib.hid (numC_congr true (subF_end m n))
    go_wp2
    go_loopw [6, 7] (fun o i wr => ∃ k : Nat, k ≤ 20 ∧ o = .int .u64 (bo m n k) ∧ i = .int .i64 k ∧ Hid (NumAt wr w.heap.size true (subF m n k)) ∧ Hid (NumAt wr (w.heap.size + 1) false (dig n)) ∧ Hid (NumAt wr (w.heap.size + 1 + 1) false fun _ => 0) ∧ Hid (Below w.heap.size w wr)) (fun _ i _ => 20 - (intOf i).toNat)
    case atStart => exact ⟨0, by omega, by rw [Z.out], rfl, A2, B2, R2, W2⟩
    case round =>
      obtain ⟨k, hk, rfl, rfl, A3, B3, R3, W3⟩ := hrel
      by_cases hlt : k < 20
      · have c1 := A3.out.cell (k := k) (by omega)
        have c3 := B3.out.cell (k := k) (by omega)
        have f1 := A3.out.free (1 + k)
        have d1 := dig_bd m k
        have d2 := dig_bd n k
        have d4 := bo_bd m n k
        have bs := Lib.hid (bo_succ m n k)
        rw [show subF m n k k = dig m k by unfold subF; simp] at c1
        have A4 := Lib.hid (subF_step m n k ▸ A3.out.put (k := k) (by omega) ((dig m k + 65536 - dig n k - bo m n k) % 65536))
        go_wp2
        go_quiet (fail)
        go_wp2
        go_roundw
        case rel => exact ⟨k + 1, by omega, by rw [bs.out], by go_num, Lib.hid A4.out, Lib.hid (B3.out.other _ _ (by simp)), Lib.hid (R3.out.other _ _ (by simp; omega)), Lib.hid ((below_drewN W3.out _).setCell (Nat.le_refl _) _)⟩
        case measure => simp [intOf]; omega
      · obtain rfl : k = 20 := by omega
        go_wp2_with (first
          | (refine load_num rfl (.tmp 2) rfl w.heap.size rfl _ _ A3.out ?_)
          | (refine store_num rfl (.tmp 4) (.tmp 84) rfl (w.heap.size + 1 + 1) rfl _ _ rfl _ _ R3.out ?_))
        exact bodyPost_ret (results_cell_row (p := 4) rfl _ _ (w.heap.size + 1 + 1) 91 (numC true (subF m n 20)) (0, 0) _ rfl (R3.out.whole) Tryd.underlying91 rfl (infoN _ _)) rfl (And.intro (by rw [E.out]) (Below.setRow' W3.out (by omega) _))
end Go.Proofs.YthmkfkmcamjnoaaDoor
