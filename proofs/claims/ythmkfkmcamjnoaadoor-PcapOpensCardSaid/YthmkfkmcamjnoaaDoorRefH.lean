/-
  The document's numbers: Mul.
  The document's numbers: Mul, walked.
-/
import Derived.Test.YthmkfkmcamjnoaaDoorRefE
import Derived.Deep.Cut
import Derived.Deep.CutRange
namespace Go.Proofs.YthmkfkmcamjnoaaDoor
open Go.RowKit
/-- What the first k pieces are worth. -/
def val (f : Nat → Int) : Nat → Int
  | 0 => 0
  | k + 1 => val f k + f k * 65536 ^ k
def cr (f : Nat → Int) (k : Nat) : Int := val f k / 65536 ^ k
theorem val_add (f g : Nat → Int) (k : Nat) : val (fun l => f l + g l) k = val f k + val g k := by
  induction k with
  | zero => rfl
  | succ k ih => unfold val; rw [ih, Int.add_mul]; omega
theorem val_dig (m : Int) (k : Nat) : val (dig m) k = m % 65536 ^ k := by
  induction k with
  | zero => simp [val]
  | succ k ih => unfold val; rw [ih, mod_succ65]; omega
theorem cr_succ (f : Nat → Int) (k : Nat) : cr f (k + 1) = (f k + cr f k) / 65536 := by
  have p := pow_pos65 k
  unfold cr
  rw [pow_succ65, ← Int.ediv_ediv_of_nonneg (by omega)]
  congr 1
  show (val f k + f k * 65536 ^ k) / 65536 ^ k = _
  rw [Int.add_mul_ediv_right _ _ (by omega)]
  omega
theorem val_more (f : Nat → Int) (k d : Nat) : ∃ x, val f (k + d) = val f k + 65536 ^ k * x := by
  induction d with
  | zero => exact ⟨0, by simp⟩
  | succ d ih =>
    obtain ⟨x, hx⟩ := ih
    refine ⟨x + f (k + d) * 65536 ^ d, ?_⟩
    show val f (k + d) + f (k + d) * 65536 ^ (k + d) = _
    rw [hx, Int.pow_add, Int.mul_add, ← Int.mul_assoc, Int.mul_comm (f (k + d)) (65536 ^ k), ← Int.mul_assoc]
    omega
theorem dig_val (f : Nat → Int) {j : Nat} (hj : j < 20) : dig (val f 20) j = (f j + cr f j) % 65536 := by
  have p := pow_pos65 j
  obtain ⟨x, hx⟩ := val_more f (j + 1) (20 - (j + 1))
  rw [show j + 1 + (20 - (j + 1)) = 20 by omega] at hx
  have e : val f 20 = val f j + 65536 ^ j * (f j + 65536 * x) := by
    rw [hx]
    show val f j + f j * 65536 ^ j + _ = _
    rw [pow_succ65, Int.mul_add, Int.mul_comm (f j), Int.mul_assoc]
    omega
  unfold dig
  rw [e, Int.add_mul_ediv_left _ _ (by omega)]
  show (cr f j + _) % _ = _
  omega
theorem top_val (f : Nat → Int) : val f 20 / 65536 ^ 19 = f 19 + cr f 19 := by
  show (val f 19 + f 19 * 65536 ^ 19) / 65536 ^ 19 = _
  rw [Int.add_mul_ediv_right _ _ (by decide)]
  unfold cr; omega
theorem cr_bd {f : Nat → Int} (hf : ∀ l, 0 ≤ f l ∧ f l ≤ 4294901760) (k : Nat) : 0 ≤ cr f k ∧ cr f k ≤ 65535 := by
  induction k with
  | zero => simp [cr, val]
  | succ k ih => rw [cr_succ]; have := hf k; omega
/-- The pieces behind k rounds of the carry. -/
def carF (f : Nat → Int) (k : Nat) : Nat → Int := fun j => if j < k then dig (val f 20) j else if j = k then f k + cr f k else f j
theorem carF_zero (f : Nat → Int) : carF f 0 = f := by
  funext j
  unfold carF
  by_cases h : j = 0
  · subst h; simp [cr, val]
  · simp [h]
theorem carF_step (f : Nat → Int) {k : Nat} (hk : k < 20) :
    upd (upd (carF f k) (k + 1) (f (k + 1) + (f k + cr f k) / 65536)) k ((f k + cr f k) % 65536) = carF f (k + 1) := by
  funext j
  have h1 := dig_val f hk
  have h2 := cr_succ f k
  unfold upd carF
  by_cases a : j = k
  · subst a; simp [h1]
  · by_cases b : j = k + 1
    · subst b; simp [h2]
    · by_cases c : j < k
      · simp [a, b, c, show j < k + 1 by omega]
      · simp [a, b, c, show ¬ j < k + 1 by omega]
theorem carF_end {f : Nat → Int} (h : Sz (val f 20)) : ∀ i, i < 20 → carF f 19 i = dig (val f 20) i := by
  intro i hi
  unfold carF
  by_cases h' : i < 19
  · rw [if_pos h']
  · obtain rfl : i = 19 := by omega
    rw [if_neg (by omega), if_pos rfl, ← top_val]
    have e : val f 20 / 65536 ^ 19 / 65536 = 0 := by rw [← div_succ65]; exact Int.ediv_eq_zero_of_lt h.1 h.2
    have e2 : 0 ≤ val f 20 / 65536 ^ 19 := Int.ediv_nonneg h.1 (by decide)
    unfold dig
    omega
/-- A row's pieces. -/
def rowF (a : Int) (n : Int) (i : Nat) : Nat → Int := fun l => if i ≤ l then a * dig n (l - i) else 0
theorem val_row (a n : Int) (i d : Nat) : val (rowF a n i) (i + d) = a * 65536 ^ i * (n % 65536 ^ d) := by
  induction d with
  | zero =>
    have : ∀ k, k ≤ i → val (rowF a n i) k = 0 := by
      intro k
      induction k with
      | zero => intro _; rfl
      | succ k ih => intro hk; show val _ k + rowF a n i k * _ = 0; rw [ih (by omega), show rowF a n i k = 0 by unfold rowF; rw [if_neg (by omega)]]; simp
    rw [show i + 0 = i from rfl, this i (Nat.le_refl _)]; simp
  | succ d ih =>
    show val (rowF a n i) (i + d) + rowF a n i (i + d) * 65536 ^ (i + d) = _
    rw [ih, show rowF a n i (i + d) = a * dig n d by unfold rowF; rw [if_pos (by omega), show i + d - i = d by omega], mod_succ65, Int.pow_add, Int.mul_add]
    rw [show a * dig n d * (65536 ^ i * 65536 ^ d) = a * 65536 ^ i * (dig n d * 65536 ^ d) by
      rw [Int.mul_assoc, Int.mul_assoc, Int.mul_left_comm (dig n d)]]
    omega
/-- What the rows above i come to. -/
def low (m n : Int) (i : Nat) : Int := m % 65536 ^ i * n
theorem low_sz {m n : Int} (hm : 0 ≤ m) (hn : 0 ≤ n) (h : m * n < 65536 ^ 20) (i : Nat) : Sz (low m n i) := by
  have p := pow_pos65 i
  have a0 := Int.emod_nonneg m (show (65536 : Int) ^ i ≠ 0 by omega)
  have a1 : m % 65536 ^ i ≤ m := by
    have e := Int.ediv_mul_add_emod m (65536 ^ i)
    have := Int.mul_nonneg (Int.ediv_nonneg hm (Int.le_of_lt p)) (Int.le_of_lt p)
    omega
  refine ⟨Int.mul_nonneg a0 hn, ?_⟩
  have := Int.mul_le_mul_of_nonneg_right a1 hn
  unfold low
  omega
theorem low_all {m n : Int} (hm : Sz m) : low m n 20 = m * n := by unfold low; rw [Int.emod_eq_of_lt hm.1 hm.2]
theorem low_succ (m n : Int) (i : Nat) : low m n (i + 1) = low m n i + dig m i * 65536 ^ i * n := by
  unfold low; rw [mod_succ65, Int.add_mul]; omega
def sumF (m n : Int) (i : Nat) : Nat → Int := fun l => dig (low m n i) l + rowF (dig m i) n i l
theorem sum_val {m n : Int} (hm : 0 ≤ m) (hn : 0 ≤ n) (h : m * n < 65536 ^ 20) {i : Nat} (hi : i < 20) : val (sumF m n i) 20 = low m n (i + 1) := by
  have l0 := low_sz hm hn h i
  have l1 := low_sz hm hn h (i + 1)
  unfold sumF
  rw [val_add, val_dig, Int.emod_eq_of_lt l0.1 l0.2, low_succ]
  have e := val_row (dig m i) n i (20 - i)
  rw [show i + (20 - i) = 20 by omega] at e
  rw [e]
  congr 1
  have d := dig_bd m i
  rcases Int.lt_or_eq_of_le d.1 with hd | hd
  · have p := pow_pos65 i
    have q := pow_pos65 (20 - i)
    have hx : 65536 ^ i * n < (65536 : Int) ^ 20 := by
      have h1 : 65536 ^ i * n ≤ dig m i * (65536 ^ i * n) := by
        have := Int.mul_le_mul_of_nonneg_right (show 1 ≤ dig m i by omega) (Int.mul_nonneg (Int.le_of_lt p) hn)
        omega
      have h2 := l1.2
      rw [low_succ, Int.mul_assoc] at h2
      have h3 := l0.1
      omega
    rw [show (20 : Nat) = i + (20 - i) by omega, Int.pow_add] at hx
    rw [Int.emod_eq_of_lt hn (Int.lt_of_mul_lt_mul_left hx (Int.le_of_lt p))]
  · rw [← hd]; simp
theorem prod_bd {x y : Int} (hx : 0 ≤ x ∧ x < 65536) (hy : 0 ≤ y ∧ y < 65536) : 0 ≤ x * y ∧ x * y ≤ 4294836225 := by
  refine ⟨Int.mul_nonneg hx.1 hy.1, ?_⟩
  have := Int.mul_le_mul (show x ≤ 65535 by omega) (show y ≤ 65535 by omega) hy.1 (by omega)
  omega
theorem sum_bd (m n : Int) (i l : Nat) : 0 ≤ sumF m n i l ∧ sumF m n i l ≤ 4294901760 := by
  have := dig_bd (low m n i) l
  have := prod_bd (dig_bd m i) (dig_bd n (l - i))
  unfold sumF rowF
  split <;> omega
/-- The pieces behind j products of the row i. -/
def rowG (m n : Int) (i j : Nat) : Nat → Int := fun l => if l < i + j then sumF m n i l else dig (low m n i) l
theorem rowG_zero (m n : Int) (i : Nat) : rowG m n i 0 = dig (low m n i) := by
  funext l
  unfold rowG sumF rowF
  by_cases h : l < i + 0
  · rw [if_pos h, if_neg (by omega)]; omega
  · rw [if_neg h]
theorem rowG_step (m n : Int) (i j : Nat) : upd (rowG m n i j) (i + j) (dig (low m n i) (i + j) + dig m i * dig n j) = rowG m n i (j + 1) := by
  funext l
  unfold upd rowG
  by_cases a : l = i + j
  · subst a
    rw [if_pos rfl, if_pos (by omega)]
    unfold sumF rowF
    rw [if_pos (by omega), show i + j - i = j by omega]
  · rw [if_neg a]
    by_cases c : l < i + j
    · rw [if_pos c, if_pos (by omega)]
    · rw [if_neg c, if_neg (by omega)]
theorem rowG_end {m n : Int} {i j : Nat} (h : 20 ≤ i + j) (b : Bool) : numC b (rowG m n i j) = numC b (sumF m n i) := by
  apply numC_congr
  intro l hl
  unfold rowG
  rw [if_pos (by omega)]
end Go.Proofs.YthmkfkmcamjnoaaDoor
namespace Go.Proofs.YthmkfkmcamjnoaaDoor
open Go.RowKit
theorem numC_noughtT : numC true (fun _ => 0) = #[.bool true, .int .u64 0, .int .u64 0, .int .u64 0, .int .u64 0, .int .u64 0, .int .u64 0, .int .u64 0, .int .u64 0, .int .u64 0, .int .u64 0, .int .u64 0, .int .u64 0, .int .u64 0, .int .u64 0, .int .u64 0, .int .u64 0, .int .u64 0, .int .u64 0, .int .u64 0, .int .u64 0] := rfl
theorem NumAt.congr {w : World} {g : Nat} {b : Bool} {f e : Nat → Int} (h : NumAt w g b f) (he : numC b f = numC b e) : NumAt w g b e := by
  unfold NumAt at *
  rw [← he]; exact h
set_option maxHeartbeats 4000000 in
theorem rmul_any (b c : Bool) (m n : Int) (hm : Sz m) (hn : Sz n) (hmn : m * n < 65536 ^ 20) (w : World) :
    Calls Tryd.prog 56 #[.agg (numC b (dig m)), .agg (numC c (dig n))] w fun e w' => e = .returned (.agg (numC (bne b c) (dig (m * n)))) ∧ Below w.heap.size w w' := by
  have V : Hid (∀ i, i < 20 → val (sumF m n i) 20 = low m n (i + 1) ∧ Sz (low m n (i + 1))) := Lib.hid (fun i hi => ⟨sum_val hm.1 hn.1 hmn hi, low_sz hm.1 hn.1 hmn _⟩)
  have L := Lib.hid (low_all (n := n) hm)
  have Z0 : Hid ((fun _ => 0) = dig (low m n 0)) := Lib.hid (by funext j; unfold low dig; simp)
  have A : Hid (NumAt (((w.alloc (.cells (numC b (dig m)) 91)).alloc (.cells (numC c (dig n)) 91)).alloc (.cells (numC false fun _ => 0) 91)) w.heap.size b (dig m)) := Lib.hid ((((NumAt.new w b (dig m) rfl).alloc _).alloc _))
  have B : Hid (NumAt (((w.alloc (.cells (numC b (dig m)) 91)).alloc (.cells (numC c (dig n)) 91)).alloc (.cells (numC false fun _ => 0) 91)) (w.heap.size + 1) c (dig n)) := Lib.hid ((NumAt.new _ c (dig n) (by simp)).alloc _)
  have R : Hid (NumAt (((w.alloc (.cells (numC b (dig m)) 91)).alloc (.cells (numC c (dig n)) 91)).alloc (.cells (numC false fun _ => 0) 91)) (w.heap.size + 1 + 1) false fun _ => 0) := Lib.hid (NumAt.new _ false _ (by simp))
  have W : Hid (Below w.heap.size w (((w.alloc (.cells (numC b (dig m)) 91)).alloc (.cells (numC c (dig n)) 91)).alloc (.cells (numC false fun _ => 0) 91))) := Lib.hid (by (repeat (first | (with_reducible exact Below.refl _ _) | (with_reducible assumption) | (with_reducible refine Below.drew ?_) | (with_reducible refine below_drewN ?_ _) | ((with_reducible refine Below.alloc ?_ ?_ _); rotate_left; (focus (first | (simp; done) | (simp; omega) | omega))) | ((with_reducible refine Below.setCell ?_ ?_ _); rotate_left; (focus (first | (simp; done) | (simp; omega) | omega))) | ((with_reducible refine Below.trans ?_ (Below.mono (by assumption) ?_)); rotate_left; (focus (first | (simp; done) | (simp; omega) | omega))))))
  have SZ : (((w.alloc (.cells (numC b (dig m)) 91)).alloc (.cells (numC c (dig n)) 91)).alloc (.cells (numC false fun _ => 0) 91)).heap.size = w.heap.size + 1 + 1 + 1 := by simp
  clear hm hn hmn
  go_enter Tryd.func56, Tryd.ntmps56
  go_upto_region 1 with fail
  rw [← numC_nought]
  generalize ((w.alloc (.cells (numC b (dig m)) 91)).alloc (.cells (numC c (dig n)) 91)).alloc (.cells (numC false fun _ => 0) 91) = w0 at *
  have SZ' := Lib.hid SZ
  have a0 := A.out.cell0
  have b0 := B.out.cell0
  clear SZ
  go_cut [5] from 9 to 15 (fun v wr => v = .pointer (some ⟨w.heap.size + 1 + 1 + 1, 0, none⟩) ∧ NumAt wr w.heap.size b (dig m) ∧ NumAt wr (w.heap.size + 1) c (dig n) ∧ NumAt wr (w.heap.size + 1 + 1) false (fun _ => 0) ∧ NumAt wr (w.heap.size + 1 + 1 + 1) (bne b c) (fun _ => 0) ∧ Below w.heap.size w wr)
  case first =>
    cases b <;> cases c
    all_goals
      go_wp2_with (first
        | (refine store_num rfl (.tmp 5) (.tmp 14) rfl w0.heap.size rfl true (fun _ => 0) rfl false (fun _ => 0) (NumAt.new w0 false (fun _ => 0) rfl) ?_)
        | (refine store_num rfl (.tmp 5) (.tmp 14) rfl w0.heap.size rfl false (fun _ => 0) rfl false (fun _ => 0) (NumAt.new w0 false (fun _ => 0) rfl) ?_))
      go_meet
      rw [← SZ'.out]
      exact ⟨rfl, (A.out.alloc _).wholeOther _ (by have := SZ'.out; omega), (B.out.alloc _).wholeOther _ (by have := SZ'.out; omega), (R.out.alloc _).wholeOther _ (by have := SZ'.out; omega), (NumAt.new w0 false (fun _ => 0) rfl).whole, Below.setRow' (W.out.alloc (by have := SZ'.out; omega) _) (by have := SZ'.out; omega) _⟩
  case rest =>
  obtain ⟨rfl, hA, hB, hR, hO, hW⟩ := hcut
  obtain ⟨w2, rfl⟩ : ∃ v : World, v = wc := ⟨_, rfl⟩
  have O2 : Hid (NumAt w2 (w.heap.size + 1 + 1 + 1) (bne b c) (dig (low m n 0))) := Lib.hid (Z0.out ▸ hO)
  have A2 := Lib.hid hA
  have B2 := Lib.hid hB
  have R2 := Lib.hid hR
  have W2 := Lib.hid hW
  clear A B R W hA hB hR hO hW Z0 SZ' a0 b0
  generalize hs : bne b c = s at *
  have Hs := Lib.hid hs
  clear hs
  go_wp2
  go_loopw [6] (fun i wr => ∃ k : Nat, k ≤ 20 ∧ i = .int .i64 k ∧ Hid (NumAt wr w.heap.size b (dig m)) ∧ Hid (NumAt wr (w.heap.size + 1) c (dig n)) ∧ Hid (NumAt wr (w.heap.size + 1 + 1) false fun _ => 0) ∧ Hid (NumAt wr (w.heap.size + 1 + 1 + 1) s (dig (low m n k))) ∧ Hid (Below w.heap.size w wr)) (fun i _ => 20 - (intOf i).toNat)
  case atStart => exact ⟨0, by omega, rfl, A2, B2, R2, O2, W2⟩
  case round =>
    obtain ⟨i, hi, rfl, A3, B3, R3, O3, W3⟩ := hrel
    by_cases hlt : i < 20
    · have O4 := Lib.hid (rowG_zero m n i ▸ O3.out)
      clear O3
      go_wp2
      go_loopw [7] (fun j wr => ∃ k : Nat, i + k ≤ 20 ∧ j = .int .i64 k ∧ Hid (NumAt wr w.heap.size b (dig m)) ∧ Hid (NumAt wr (w.heap.size + 1) c (dig n)) ∧ Hid (NumAt wr (w.heap.size + 1 + 1) false fun _ => 0) ∧ Hid (NumAt wr (w.heap.size + 1 + 1 + 1) s (rowG m n i k)) ∧ Hid (Below w.heap.size w wr)) (fun j _ => 20 - (intOf j).toNat)
      case atStart => exact ⟨0, by omega, rfl, A3, B3, R3, O4, W3⟩
      case round =>
        clear A3 B3 R3 O4 W3
        obtain ⟨j, hj, rfl, A3, B3, R3, O3, W3⟩ := hrel
        by_cases hl2 : i + j < 20
        · have c1 := O3.out.cell (k := i + j) (by omega)
          have c2 := A3.out.cell (k := i) (by omega)
          have c3 := B3.out.cell (k := j) (by omega)
          have f1 := O3.out.free (1 + (i + j))
          rw [show rowG m n i j (i + j) = dig (low m n i) (i + j) by unfold rowG; rw [if_neg (by omega)]] at c1
          have d1 := dig_bd (low m n i) (i + j)
          have d2 := prod_bd (dig_bd m i) (dig_bd n j)
          have O5 := Lib.hid (rowG_step m n i j ▸ O3.out.put (k := i + j) (by omega) (dig (low m n i) (i + j) + dig m i * dig n j))
          go_wp2
          go_region
          all_goals go_wp2
          go_roundw
          case rel => exact ⟨j + 1, by omega, by go_num, Lib.hid (A3.out.other _ _ (by dsimp only; omega)), Lib.hid (B3.out.other _ _ (by dsimp only; omega)), Lib.hid (R3.out.other _ _ (by dsimp only; omega)), Lib.hid O5.out, Lib.hid (W3.out.setCell (by dsimp only; omega) _).drew⟩
          case measure => simp [intOf]; omega
        · have O4 : Hid (NumAt wr (w.heap.size + 1 + 1 + 1) s (carF (sumF m n i) 0)) := Lib.hid ((carF_zero (sumF m n i)).symm ▸ O3.out.congr (rowG_end (by omega) s))
          have Vi := Lib.hid (V.out i hlt)
          clear O3
          go_wp2
          go_loopw [8] (fun j wr => ∃ k : Nat, k ≤ 19 ∧ j = .int .i64 k ∧ Hid (NumAt wr w.heap.size b (dig m)) ∧ Hid (NumAt wr (w.heap.size + 1) c (dig n)) ∧ Hid (NumAt wr (w.heap.size + 1 + 1) false fun _ => 0) ∧ Hid (NumAt wr (w.heap.size + 1 + 1 + 1) s (carF (sumF m n i) k)) ∧ Hid (Below w.heap.size w wr)) (fun j _ => 19 - (intOf j).toNat)
          case atStart => exact ⟨0, by omega, rfl, A3, B3, R3, O4, W3⟩
          case round =>
            clear A3 B3 R3 O4 W3
            obtain ⟨k, hk, rfl, A3, B3, R3, O3, W3⟩ := hrel
            by_cases hl3 : k < 19
            · have c1 := O3.out.cell (k := k) (by omega)
              have c2 := O3.out.cell (k := k + 1) (by omega)
              have f1 := O3.out.free (1 + k)
              have f2 := O3.out.free (1 + (k + 1))
              have d1 := sum_bd m n i k
              have d2 := sum_bd m n i (k + 1)
              have d3 := cr_bd (sum_bd m n i) k
              rw [show carF (sumF m n i) k k = sumF m n i k + cr (sumF m n i) k by unfold carF; simp] at c1
              rw [show carF (sumF m n i) k (k + 1) = sumF m n i (k + 1) by unfold carF; rw [if_neg (by omega), if_neg (by omega)]] at c2
              have O5 := Lib.hid (carF_step (sumF m n i) (k := k) (by omega) ▸ (O3.out.put (k := k + 1) (by omega) (sumF m n i (k + 1) + (sumF m n i k + cr (sumF m n i) k) / 65536)).put (k := k) (by omega) ((sumF m n i k + cr (sumF m n i) k) % 65536))
              go_wp2
              go_region
              all_goals go_wp2
              go_roundw
              case rel => exact ⟨k + 1, by omega, by go_num, Lib.hid ((A3.out.other _ _ (by dsimp only; omega)).other _ _ (by dsimp only; omega)), Lib.hid ((B3.out.other _ _ (by dsimp only; omega)).other _ _ (by dsimp only; omega)), Lib.hid ((R3.out.other _ _ (by dsimp only; omega)).other _ _ (by dsimp only; omega)), Lib.hid O5.out, Lib.hid ((W3.out.setCell (by dsimp only; omega) _).setCell (by dsimp only; omega) _).drew⟩
              case measure => simp [intOf]; omega
            · obtain rfl : k = 19 := by omega
              have O4 : Hid (NumAt wr (w.heap.size + 1 + 1 + 1) s (dig (low m n (i + 1)))) := Lib.hid (Vi.out.1 ▸ O3.out.congr (numC_congr s (carF_end (Vi.out.1.symm ▸ Vi.out.2))))
              go_wp2
              go_roundw
              case rel => exact ⟨i + 1, by omega, by go_num, A3, B3, R3, O4, W3⟩
              case measure => simp [intOf]; omega
    · obtain rfl : i = 20 := by omega
      go_wp2_with (first
        | (refine load_num rfl (.tmp 5) rfl (w.heap.size + 1 + 1 + 1) rfl _ _ O3.out ?_)
        | (refine store_num rfl (.tmp 4) (.tmp 73) rfl (w.heap.size + 1 + 1) rfl _ _ rfl _ _ R3.out ?_))
      exact bodyPost_ret (results_cell_row (p := 4) rfl _ _ (w.heap.size + 1 + 1) 91 (numC s (dig (low m n 20))) (0, 0) _ rfl (R3.out.whole) Tryd.underlying91 rfl (infoN _ _)) rfl (And.intro (by rw [L.out, Hs.out]) (Below.setRow' W3.out (by omega) _))
end Go.Proofs.YthmkfkmcamjnoaaDoor
