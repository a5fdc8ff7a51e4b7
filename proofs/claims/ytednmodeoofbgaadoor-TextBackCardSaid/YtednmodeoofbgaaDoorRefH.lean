/-
  The document's numbers: Mul, walked.
-/
import Derived.Test.YtednmodeoofbgaaDoorRefG
namespace Go.Proofs.YtednmodeoofbgaaDoor
open Go.RowKit
theorem numC_noughtT : numC true (fun _ => 0) = #[.bool true, .int .u64 0, .int .u64 0, .int .u64 0, .int .u64 0, .int .u64 0, .int .u64 0, .int .u64 0, .int .u64 0, .int .u64 0, .int .u64 0, .int .u64 0, .int .u64 0, .int .u64 0, .int .u64 0, .int .u64 0, .int .u64 0, .int .u64 0, .int .u64 0, .int .u64 0, .int .u64 0] := rfl
theorem NumAt.congr {w : World} {g : Nat} {b : Bool} {f e : Nat → Int} (h : NumAt w g b f) (he : numC b f = numC b e) : NumAt w g b e := by
  unfold NumAt at *
  rw [← he]; exact h
set_option maxHeartbeats 4000000 in
theorem rmul_any (b c : Bool) (m n : Int) (hm : Sz m) (hn : Sz n) (hmn : m * n < 65536 ^ 20) (w : World) :
    Calls Tryd.prog 36 #[.agg (numC b (dig m)), .agg (numC c (dig n))] w fun e w' => e = .returned (.agg (numC (bne b c) (dig (m * n)))) ∧ Below w.heap.size w w' := by
  have V : Hid (∀ i, i < 20 → val (sumF m n i) 20 = low m n (i + 1) ∧ Sz (low m n (i + 1))) := Lib.hid (fun i hi => ⟨sum_val hm.1 hn.1 hmn hi, low_sz hm.1 hn.1 hmn _⟩)
  have L := Lib.hid (low_all (n := n) hm)
  have Z0 : Hid ((fun _ => 0) = dig (low m n 0)) := Lib.hid (by funext j; unfold low dig; simp)
  have A : Hid (NumAt (((w.alloc (.cells (numC b (dig m)) 28)).alloc (.cells (numC c (dig n)) 28)).alloc (.cells (numC false fun _ => 0) 28)) w.heap.size b (dig m)) := Lib.hid ((((NumAt.new w b (dig m) rfl).alloc _).alloc _))
  have B : Hid (NumAt (((w.alloc (.cells (numC b (dig m)) 28)).alloc (.cells (numC c (dig n)) 28)).alloc (.cells (numC false fun _ => 0) 28)) (w.heap.size + 1) c (dig n)) := Lib.hid ((NumAt.new _ c (dig n) (by simp)).alloc _)
  have R : Hid (NumAt (((w.alloc (.cells (numC b (dig m)) 28)).alloc (.cells (numC c (dig n)) 28)).alloc (.cells (numC false fun _ => 0) 28)) (w.heap.size + 1 + 1) false fun _ => 0) := Lib.hid (NumAt.new _ false _ (by simp))
  have W : Hid (Below w.heap.size w (((w.alloc (.cells (numC b (dig m)) 28)).alloc (.cells (numC c (dig n)) 28)).alloc (.cells (numC false fun _ => 0) 28))) := Lib.hid (by (repeat (first | (with_reducible exact Below.refl _ _) | (with_reducible assumption) | (with_reducible refine Below.drew ?_) | (with_reducible refine below_drewN ?_ _) | ((with_reducible refine Below.alloc ?_ ?_ _); rotate_left; (focus (first | (simp; done) | (simp; omega) | omega))) | ((with_reducible refine Below.setCell ?_ ?_ _); rotate_left; (focus (first | (simp; done) | (simp; omega) | omega))) | ((with_reducible refine Below.trans ?_ (Below.mono (by assumption) ?_)); rotate_left; (focus (first | (simp; done) | (simp; omega) | omega))))))
  have SZ : (((w.alloc (.cells (numC b (dig m)) 28)).alloc (.cells (numC c (dig n)) 28)).alloc (.cells (numC false fun _ => 0) 28)).heap.size = w.heap.size + 1 + 1 + 1 := by simp
  clear hm hn hmn
  go_enter Tryd.func36, Tryd.ntmps36
  go_upto_region 1 with fail
  rw [← numC_nought]
  generalize ((w.alloc (.cells (numC b (dig m)) 28)).alloc (.cells (numC c (dig n)) 28)).alloc (.cells (numC false fun _ => 0) 28) = w0 at *
  have SZ' := Lib.hid SZ
  have a0 := A.out.cell0
  have b0 := B.out.cell0
  clear SZ
  go_cut [5] from 9 to 15 (fun v wr => v = .pointer (some ⟨w.heap.size + 1 + 1 + 1, 0, none⟩) ∧ NumAt wr w.heap.size b (dig m) ∧ NumAt wr (w.heap.size + 1) c (dig n) ∧ NumAt wr (w.heap.size + 1 + 1) false (fun _ => 0) ∧ NumAt wr (w.heap.size + 1 + 1 + 1) (bne b c) (fun _ => 0) ∧ Below w.heap.size w wr)
  case first =>
    cases b <;> cases c
    all_goals
      go_wp2_with (first
        | (refine store_num rfl (.tmp 5) (.tmp 14) rfl w0.heap.size rfl true (fun _ => 0) rfl false (fun _ => 0) (NumAt.new w0 false (fun _ => 0) rfl) ?_)
        | (refine store_num rfl (.tmp 5) (.tmp 14) rfl w0.heap.size rfl false (fun _ => 0) rfl false (fun _ => 0) (NumAt.new w0 false (fun _ => 0) rfl) ?_))
      go_meet
      rw [← SZ'.out]
      exact ⟨rfl, (A.out.alloc _).wholeOther _ (by have := SZ'.out; omega), (B.out.alloc _).wholeOther _ (by have := SZ'.out; omega), (R.out.alloc _).wholeOther _ (by have := SZ'.out; omega), (NumAt.new w0 false (fun _ => 0) rfl).whole, Below.setRow' (W.out.alloc (by have := SZ'.out; omega) _) (by have := SZ'.out; omega) _⟩
  case rest =>
  obtain ⟨rfl, hA, hB, hR, hO, hW⟩ := hcut
  obtain ⟨w2, rfl⟩ : ∃ v : World, v = wc := ⟨_, rfl⟩
  have O2 : Hid (NumAt w2 (w.heap.size + 1 + 1 + 1) (bne b c) (dig (low m n 0))) := Lib.hid (Z0.out ▸ hO)
  have A2 := Lib.hid hA
  have B2 := Lib.hid hB
  have R2 := Lib.hid hR
  have W2 := Lib.hid hW
  clear A B R W hA hB hR hO hW Z0 SZ' a0 b0
  generalize hs : bne b c = s at *
  have Hs := Lib.hid hs
  clear hs
  go_wp2
  go_loopw [6] (fun i wr => ∃ k : Nat, k ≤ 20 ∧ i = .int .i64 k ∧ Hid (NumAt wr w.heap.size b (dig m)) ∧ Hid (NumAt wr (w.heap.size + 1) c (dig n)) ∧ Hid (NumAt wr (w.heap.size + 1 + 1) false fun _ => 0) ∧ Hid (NumAt wr (w.heap.size + 1 + 1 + 1) s (dig (low m n k))) ∧ Hid (Below w.heap.size w wr)) (fun i _ => 20 - (intOf i).toNat)
  case atStart => exact ⟨0, by omega, rfl, A2, B2, R2, O2, W2⟩
  case round =>
    obtain ⟨i, hi, rfl, A3, B3, R3, O3, W3⟩ := hrel
    by_cases hlt : i < 20
    · have O4 := Lib.hid (rowG_zero m n i ▸ O3.out)
      clear O3
      go_wp2
      go_loopw [7] (fun j wr => ∃ k : Nat, i + k ≤ 20 ∧ j = .int .i64 k ∧ Hid (NumAt wr w.heap.size b (dig m)) ∧ Hid (NumAt wr (w.heap.size + 1) c (dig n)) ∧ Hid (NumAt wr (w.heap.size + 1 + 1) false fun _ => 0) ∧ Hid (NumAt wr (w.heap.size + 1 + 1 + 1) s (rowG m n i k)) ∧ Hid (Below w.heap.size w wr)) (fun j _ => 20 - (intOf j).toNat)
      case atStart => exact ⟨0, by omega, rfl, A3, B3, R3, O4, W3⟩
      case round =>
        clear A3 B3 R3 O4 W3
        obtain ⟨j, hj, rfl, A3, B3, R3, O3, W3⟩ := hrel
        by_cases hl2 : i + j < 20
        · have c1 := O3.out.cell (k := i + j) (by omega)
          have c2 := A3.out.cell (k := i) (by omega)
          have c3 := B3.out.cell (k := j) (by omega)
          have f1 := O3.out.free (1 + (i + j))
          rw [show rowG m n i j (i + j) = dig (low m n i) (i + j) by unfold rowG; rw [if_neg (by omega)]] at c1
          have d1 := dig_bd (low m n i) (i + j)
          have d2 := prod_bd (dig_bd m i) (dig_bd n j)
          have O5 := Lib.hid (rowG_step m n i j ▸ O3.out.put (k := i + j) (by omega) (dig (low m n i) (i + j) + dig m i * dig n j))
          go_wp2
          go_region
          all_goals go_wp2
          go_roundw
          case rel => exact ⟨j + 1, by omega, by go_num, Lib.hid (A3.out.other _ _ (by dsimp only; omega)), Lib.hid (B3.out.other _ _ (by dsimp only; omega)), Lib.hid (R3.out.other _ _ (by dsimp only; omega)), Lib.hid O5.out, Lib.hid (W3.out.setCell (by dsimp only; omega) _).drew⟩
          case measure => simp [intOf]; omega
        · have O4 : Hid (NumAt wr (w.heap.size + 1 + 1 + 1) s (carF (sumF m n i) 0)) := Lib.hid ((carF_zero (sumF m n i)).symm ▸ O3.out.congr (rowG_end (by omega) s))
          have Vi := Lib.hid (V.out i hlt)
          clear O3
          go_wp2
          go_loopw [8] (fun j wr => ∃ k : Nat, k ≤ 19 ∧ j = .int .i64 k ∧ Hid (NumAt wr w.heap.size b (dig m)) ∧ Hid (NumAt wr (w.heap.size + 1) c (dig n)) ∧ Hid (NumAt wr (w.heap.size + 1 + 1) false fun _ => 0) ∧ Hid (NumAt wr (w.heap.size + 1 + 1 + 1) s (carF (sumF m n i) k)) ∧ Hid (Below w.heap.size w wr)) (fun j _ => 19 - (intOf j).toNat)
          case atStart => exact ⟨0, by omega, rfl, A3, B3, R3, O4, W3⟩
          case round =>
            clear A3 B3 R3 O4 W3
            obtain ⟨k, hk, rfl, A3, B3, R3, O3, W3⟩ := hrel
            by_cases hl3 : k < 19
            · have c1 := O3.out.cell (k := k) (by omega)
              have c2 := O3.out.cell (k := k + 1) (by omega)
              have f1 := O3.out.free (1 + k)
              have f2 := O3.out.free (1 + (k + 1))
              have d1 := sum_bd m n i k
              have d2 := sum_bd m n i (k + 1)
              have d3 := cr_bd (sum_bd m n i) k
              rw [show carF (sumF m n i) k k = sumF m n i k + cr (sumF m n i) k by unfold carF; simp] at c1
              rw [show carF (sumF m n i) k (k + 1) = sumF m n i (k + 1) by unfold carF; rw [if_neg (by omega), if_neg (by omega)]] at c2
              have O5 := Lib.hid (carF_step (sumF m n i) (k := k) (by omega) ▸ (O3.out.put (k := k + 1) (by omega) (sumF m n i (k + 1) + (sumF m n i k + cr (sumF m n i) k) / 65536)).put (k := k) (by omega) ((sumF m n i k + cr (sumF m n i) k) % 65536))
              go_wp2
              go_region
              all_goals go_wp2
              go_roundw
              case rel => exact ⟨k + 1, by omega, by go_num, Lib.hid ((A3.out.other _ _ (by dsimp only; omega)).other _ _ (by dsimp only; omega)), Lib.hid ((B3.out.other _ _ (by dsimp only; omega)).other _ _ (by dsimp only; omega)), Lib.hid ((R3.out.other _ _ (by dsimp only; omega)).other _ _ (by dsimp only; omega)), Lib.hid O5.out, Lib.hid ((W3.out.setCell (by dsimp only; omega) _).setCell (by dsimp only; omega) _).drew⟩
              case measure => simp [intOf]; omega
            · obtain rfl : k = 19 := by omega
              have O4 : Hid (NumAt wr (w.heap.size + 1 + 1 + 1) s (dig (low m n (i + 1)))) := Lib.hid (Vi.out.1 ▸ O3.out.congr (numC_congr s (carF_end (Vi.out.1.symm ▸ Vi.out.2))))
              go_wp2
              go_roundw
              case rel => exact ⟨i + 1, by omega, by go_num, A3, B3, R3, O4, W3⟩
              case measure => simp [intOf]; omega
    · obtain rfl : i = 20 := by omega
      go_wp2_with (first
        | (refine load_num rfl (.tmp 5) rfl (w.heap.size + 1 + 1 + 1) rfl _ _ O3.out ?_)
        | (refine store_num rfl (.tmp 4) (.tmp 73) rfl (w.heap.size + 1 + 1) rfl _ _ rfl _ _ R3.out ?_))
      exact bodyPost_ret (results_cell_row (p := 4) rfl _ _ (w.heap.size + 1 + 1) 28 (numC s (dig (low m n 20))) (0, 0) _ rfl (R3.out.whole) Tryd.underlying28 rfl (infoN _ _)) rfl (And.intro (by rw [L.out, Hs.out]) (Below.setRow' W3.out (by omega) _))
end Go.Proofs.YtednmodeoofbgaaDoor
