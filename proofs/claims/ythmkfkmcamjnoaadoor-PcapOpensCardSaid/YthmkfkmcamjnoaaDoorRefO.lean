/-
  The document's numbers: Floor from below 0; Floor.
  The document's numbers: Floor, of any.
-/
import Derived.Test.YthmkfkmcamjnoaaDoorRefM
namespace Go.Proofs.YthmkfkmcamjnoaaDoor
set_option maxRecDepth 8000
open Go.RowKit Go.Sort
/-- Bit by bit, from below. -/
def InvN (m d q : Int) (k : Nat) : Prop := (∃ t, q + 1 = 2 ^ k * t) ∧ q < 2 ^ 130 ∧ 2 ^ k ≤ q + 1 ∧ m ≤ q * d ∧ (q - 2 ^ k) * d < m
theorem InvN.start {m d : Int} (hm : 0 ≤ m ∧ m < 2 ^ 130) (hd : 0 < d) : InvN m d (ones 130) 130 := by
  unfold ones
  refine ⟨⟨1, by omega⟩, by omega, by omega, ?_, ?_⟩
  · have := Int.mul_le_mul_of_nonneg_left (show 1 ≤ d by omega) (show (0 : Int) ≤ 2 ^ 130 - 1 by decide)
    omega
  · rw [show (2 : Int) ^ 130 - 1 - 2 ^ 130 = -1 by omega]; omega
theorem InvN.yes {m d q : Int} {k : Nat} (h : InvN m d q (k + 1)) (hy : m ≤ (q - 2 ^ k) * d) : InvN m d (q - 2 ^ k) k := by
  obtain ⟨⟨t, ht⟩, h1, h4, h2, h3⟩ := h
  have p : (0 : Int) < 2 ^ k := Int.pow_pos (by decide)
  have e : (2 : Int) ^ (k + 1) = 2 ^ k * 2 := Int.pow_succ _ _
  rw [e] at ht h3 h4
  refine ⟨⟨2 * t - 1, ?_⟩, by omega, by omega, hy, ?_⟩
  · rw [Int.mul_sub, ← Int.mul_assoc, ← ht]; omega
  · rw [show q - 2 ^ k - 2 ^ k = q - 2 ^ k * 2 by omega]; exact h3
theorem InvN.no {m d q : Int} {k : Nat} (h : InvN m d q (k + 1)) (hy : ¬ m ≤ (q - 2 ^ k) * d) : InvN m d q k := by
  obtain ⟨⟨t, ht⟩, h1, h4, h2, h3⟩ := h
  have p : (0 : Int) < 2 ^ k := Int.pow_pos (by decide)
  have e : (2 : Int) ^ (k + 1) = 2 ^ k * 2 := Int.pow_succ _ _
  rw [e] at ht h4
  exact ⟨⟨2 * t, by rw [ht, Int.mul_assoc]⟩, h1, by omega, h2, by omega⟩
theorem InvN.done {m d q : Int} (hd : 0 < d) (h : InvN m d q 0) : q = -(-m / d) := by
  obtain ⟨-, -, -, h2, h3⟩ := h
  have e : (2 : Int) ^ 0 = 1 := rfl
  rw [e] at h3
  have a : -q ≤ -m / d := Int.le_ediv_of_mul_le hd (by rw [Int.neg_mul]; omega)
  have b : -m / d < -q + 1 := Int.ediv_lt_of_lt_mul hd (by rw [show -q + 1 = -(q - 1) by omega, Int.neg_mul]; omega)
  omega
theorem InvN.piece {m d q : Int} {k j r : Nat} (h : InvN m d q (k + 1)) (hr : r < 16) (hk : k = 16 * j + r) :
    upd (dig q) j (dig q j - 2 ^ r) = dig (q - 2 ^ k) ∧ 0 ≤ dig q j - 2 ^ r ∧ dig q j < 65536 := by
  obtain ⟨⟨t, ht⟩, -⟩ := h
  have p := piece_high (t := t) (j := j) hr
  rw [← hk, ← ht, show q + 1 - 1 = q by omega] at p
  have p2 : (0 : Int) < 2 ^ r := Int.pow_pos (by decide)
  refine ⟨?_, by omega, p.2⟩
  rw [Int.sub_eq_add_neg, dig_put q (-(2 ^ r)) j (by omega) (by omega), Int.neg_mul, ← pow_bit, ← hk, ← Int.sub_eq_add_neg]
theorem InvN.sz {m d q : Int} {k : Nat} (hd : 0 < d ∧ d ≤ 18446744073709551616) (h : InvN m d q (k + 1)) : Sz (q - 2 ^ k) ∧ 0 ≤ (q - 2 ^ k) * d ∧ (q - 2 ^ k) * d < 65536 ^ 20 := by
  obtain ⟨-, h1, h4, -⟩ := h
  have p : (0 : Int) < 2 ^ k := Int.pow_pos (by decide)
  have e : (2 : Int) ^ (k + 1) = 2 ^ k * 2 := Int.pow_succ _ _
  rw [e] at h4
  have := Int.mul_le_mul (show q - 2 ^ k ≤ 2 ^ 130 by omega) hd.2 (by omega) (by decide)
  exact ⟨⟨by omega, by omega⟩, Int.mul_nonneg (by omega) (by omega), by omega⟩
set_option maxHeartbeats 8000000 in
set_option maxRecDepth 100000 in
theorem rfloor_neg (m d : Int) (hm : 0 ≤ m ∧ m < 2 ^ 130) (hd : 0 < d ∧ d ≤ 18446744073709551616) (w : World) (b : Bool) (hb : Hid (b = true)) :
    Calls Tryd.prog 51 #[.agg (numC b (dig m)), .agg (numC false (dig d))] w fun e w' => e = .returned (.agg (numC true (dig (-(-m / d))))) ∧ Below w.heap.size w w' := by
  have I0 := Lib.hid (InvN.start hm hd.1)
  have Hd := Lib.hid hd
  have Hm := Lib.hid hm
  clear hm hd
  have A : Hid (NumAt (((w.alloc (.cells (numC b (dig m)) 91)).alloc (.cells (numC false (dig d)) 91)).alloc (.cells (numC false fun _ => 0) 91)) w.heap.size b (dig m)) := Lib.hid ((((NumAt.new w b (dig m) rfl).alloc _).alloc _))
  have B : Hid (NumAt (((w.alloc (.cells (numC b (dig m)) 91)).alloc (.cells (numC false (dig d)) 91)).alloc (.cells (numC false fun _ => 0) 91)) (w.heap.size + 1) false (dig d)) := Lib.hid ((NumAt.new _ false (dig d) (by simp)).alloc _)
  have R : Hid (NumAt (((w.alloc (.cells (numC b (dig m)) 91)).alloc (.cells (numC false (dig d)) 91)).alloc (.cells (numC false fun _ => 0) 91)) (w.heap.size + 1 + 1) false fun _ => 0) := Lib.hid (NumAt.new _ false _ (by simp))
  have W : Hid (Below w.heap.size w (((w.alloc (.cells (numC b (dig m)) 91)).alloc (.cells (numC false (dig d)) 91)).alloc (.cells (numC false fun _ => 0) 91))) := Lib.hid (by (repeat (first | (with_reducible exact Below.refl _ _) | (with_reducible assumption) | (with_reducible refine Below.drew ?_) | (with_reducible refine below_drewN ?_ _) | ((with_reducible refine Below.alloc ?_ ?_ _); rotate_left; (focus (first | (simp; done) | (simp; omega) | omega))) | ((with_reducible refine Below.setCell ?_ ?_ _); rotate_left; (focus (first | (simp; done) | (simp; omega) | omega))) | ((with_reducible refine Below.trans ?_ (Below.mono (by assumption) ?_)); rotate_left; (focus (first | (simp; done) | (simp; omega) | omega))))))
  have SZ : Hid ((((w.alloc (.cells (numC b (dig m)) 91)).alloc (.cells (numC false (dig d)) 91)).alloc (.cells (numC false fun _ => 0) 91)).heap.size = w.heap.size + 1 + 1 + 1) := Lib.hid (by simp)
  go_enter Tryd.func51, Tryd.ntmps51
  go_upto_region 1 with fail
  rw [← numC_nought]
  generalize ((w.alloc (.cells (numC b (dig m)) 91)).alloc (.cells (numC false (dig d)) 91)).alloc (.cells (numC false fun _ => 0) 91) = w0 at *
  have a0 := A.out.cell0
  go_cut [5] from 11 to 12 (fun v wr => v = .pointer (some ⟨w.heap.size + 1 + 1 + 1, 0, none⟩) ∧ NumAt wr w.heap.size b (dig m) ∧ NumAt wr (w.heap.size + 1) false (dig d) ∧ NumAt wr (w.heap.size + 1 + 1) false (fun _ => 0) ∧ NumAt wr (w.heap.size + 1 + 1 + 1) false (dig 0) ∧ Below w.heap.size w wr)
  case first =>
    go_wp2_with (first
      | (refine store_num rfl (.tmp 5) (.tmp 11) rfl w0.heap.size rfl false (fun _ => 0) rfl false (fun _ => 0) (NumAt.new w0 false (fun _ => 0) rfl) ?_))
    go_meet
    have zz : (fun _ => 0 : Nat → Int) = dig 0 := by funext i; simp [dig]
    rw [← SZ.out]
    exact ⟨rfl, (A.out.alloc _).wholeOther _ (by have := SZ.out; omega), (B.out.alloc _).wholeOther _ (by have := SZ.out; omega), (R.out.alloc _).wholeOther _ (by have := SZ.out; omega), zz ▸ (NumAt.new w0 false (fun _ => 0) rfl).whole, Below.setRow' (W.out.alloc (by have := SZ.out; omega) _) (by have := SZ.out; omega) _⟩
  case rest =>
  obtain ⟨rfl, hA, hB, hR, hQ, hW⟩ := hcut
  obtain ⟨w1, rfl⟩ : ∃ v : World, v = wc := ⟨_, rfl⟩
  clear A B R W SZ a0
  have a0 := hA.cell0
  have q0 := hQ.cell0
  have fq := hQ.free 0
  have F1 : Hid (Flo w b m d 0 (w1.setCell ⟨w.heap.size + 1 + 1 + 1, 0, none⟩ (.bool b))) := Lib.hid ⟨hA.other _ _ (by dsimp only; omega), hB.other _ _ (by dsimp only; omega), hR.other _ _ (by dsimp only; omega), hQ.sign b, hW.setCell (by dsimp only; omega) _⟩
  clear hA hB hR hQ hW
  go_upto_region 3 with fail
  generalize w1.setCell ⟨w.heap.size + 1 + 1 + 1, 0, none⟩ (.bool b) = w2 at *
  clear a0 q0 fq
  obtain rfl := hb.out
  have a0 := F1.out.a.cell0
  go_wp2
  go_loopw [6] (fun i wr => ∃ k : Nat, k ≤ 130 ∧ i = .int .i64 k ∧ Hid (Flo w true m d (ones k) wr)) (fun i _ => 130 - (intOf i).toNat)
  case atStart => exact ⟨0, by omega, rfl, F1⟩
  case round =>
    clear F1 a0
    obtain ⟨k, hk, rfl, F1⟩ := hrel
    by_cases hlt : k < 130
    · obtain ⟨j, r, hr, ek⟩ := bit_of k
      have c1 := F1.out.q.cell (k := j) (by omega)
      have f1 := F1.out.q.free (1 + j)
      obtain ⟨o1, o2, o3⟩ := ones_put hr ek
      have O := Lib.hid o1
      clear o1
      have p2 : (0 : Int) < 2 ^ r := Int.pow_pos (by decide)
      have j0 : (0 : Int) ≤ j := by omega
      have j1 : (j : Int) < 20 := by omega
      have j2 : j < 20 := by omega
      have P1 := Lib.hid (fun w => rpower_any r hr w)
      have e1 : (k : Int) / 16 = j := by omega
      have e2 : (k : Int) % 16 = r := by omega
      have e5 : (k : Int).tmod 16 = r := by rw [Int.tmod_eq_emod_of_nonneg (by omega)]; omega
      have e3 : IntKind.i64.wrap (j : Int) = j := by rw [IntKind.wrap_i64]; omega
      have e4 : IntKind.i64.wrap (r : Int) = r := by rw [IntKind.wrap_i64]; omega
      have e6 : IntKind.u64.wrap (dig (ones k) j + 2 ^ r) = dig (ones k) j + 2 ^ r := by rw [IntKind.wrap_u64]; omega
      clear ek hk
      go_wp2
      refine wp_region_any (by kernel_rfl) ?_
      refine wpAny_take (i := 0) (v := .int .i64 k) rfl (by kernel_rfl) (by kernel_rfl) (by kernel_rfl) (fun _ _ _ h => h) (Or.inl ⟨by rfl, ?_⟩) ?_
      · intro w; go_simp
      (try simp only [Act.put])
      refine wpAny_take (i := 1) (v := .int .i64 j) rfl (by kernel_rfl) (by kernel_rfl) (by kernel_rfl) (fun _ _ _ h => h) (Or.inl ⟨by rfl, ?_⟩) ?_
      · intro w; go_simp
      (try simp only [Act.put])
      refine wpAny_take (i := 2) (v := .int .i64 k) rfl (by kernel_rfl) (by kernel_rfl) (by kernel_rfl) (fun _ _ _ h => h) (Or.inl ⟨by rfl, ?_⟩) ?_
      · intro w; go_simp
      (try simp only [Act.put])
      refine wpAny_take (i := 3) (v := .int .i64 j) rfl (by kernel_rfl) (by kernel_rfl) (by kernel_rfl) (fun _ _ _ h => h) (Or.inl ⟨by rfl, ?_⟩) ?_
      · intro w; go_simp
      (try simp only [Act.put])
      refine wpAny_take (i := 4) (v := .pointer (some ⟨w.heap.size + 1 + 1 + 1, 1, none⟩)) rfl (by kernel_rfl) (by kernel_rfl) (by kernel_rfl) (fun _ _ _ h => h) (Or.inl ⟨by rfl, ?_⟩) ?_
      · intro w; go_simp
      (try simp only [Act.put])
      refine wpAny_take (i := 5) (v := .pointer (some ⟨w.heap.size + 1 + 1 + 1, 1 + j, none⟩)) rfl (by kernel_rfl) (by kernel_rfl) (by kernel_rfl) (fun _ _ _ h => h) (Or.inl ⟨by rfl, ?_⟩) ?_
      · intro w; go_simp
      (try simp only [Act.put])
      refine wpAny_take (i := 7) (v := .int .i64 k) rfl (by kernel_rfl) (by kernel_rfl) (by kernel_rfl) (fun _ _ _ h => h) (Or.inl ⟨by rfl, ?_⟩) ?_
      · intro w; go_simp
      (try simp only [Act.put])
      refine wpAny_take (i := 8) (v := .int .i64 r) rfl (by kernel_rfl) (by kernel_rfl) (by kernel_rfl) (fun _ _ _ h => h) (Or.inl ⟨by rfl, ?_⟩) ?_
      · intro w; go_simp
      (try simp only [Act.put])
      refine wpAny_take (i := 11) (v := .pointer (some ⟨w.heap.size + 1 + 1 + 1, 1, none⟩)) rfl (by kernel_rfl) (by kernel_rfl) (by kernel_rfl) (fun _ _ _ h => h) (Or.inl ⟨by rfl, ?_⟩) ?_
      · intro w; go_simp
      (try simp only [Act.put])
      refine wpAny_ready (rs := [6, 9]) (by kernel_rfl) (by simp) ?_
      refine AllReady.cons rfl (fun K hK => ?_) ?_
      · go_simp
        refine hK _ _ ?_
        clear hK K
        (try simp only [Act.put])
        refine wpAny_ready (rs := [9]) (by kernel_rfl) (by simp) ?_
        refine AllReady.cons rfl (fun K hK => ?_) AllReady.nil
        go_simp
        go_at_call 71
        refine (P1.out _).mono ?_
        rintro e w3 ⟨rfl, hb⟩
        have F2 := Lib.hid ((F1.out.on (Below.refl _ _).drew).on hb)
        have c2 := F2.out.q.cell (k := j) (by omega)
        have f2 := F2.out.q.free (1 + j)
        refine hK _ _ ?_
        clear hK K
        (try simp only [Act.put])
        refine wpAny_take (i := 10) (v := .int .u64 (dig (ones k) j + 2 ^ r)) rfl (by kernel_rfl) (by kernel_rfl) (by kernel_rfl) (fun _ _ _ h => h) (Or.inl ⟨by rfl, ?_⟩) ?_
        · intro w; go_simp
        (try simp only [Act.put])
        refine wpAny_take (i := 12) (v := .pointer (some ⟨w.heap.size + 1 + 1 + 1, 1 + j, none⟩)) rfl (by kernel_rfl) (by kernel_rfl) (by kernel_rfl) (fun _ _ _ h => h) (Or.inl ⟨by rfl, ?_⟩) ?_
        · intro w; go_simp
        (try simp only [Act.put])
        refine wpAny_ready (rs := [13]) (by kernel_rfl) (by simp) ?_
        refine AllReady.cons rfl (fun K hK => ?_) AllReady.nil
        go_simp
        refine hK _ _ ?_
        clear hK K
        (try simp only [Act.put])
        refine wpAny_done (by kernel_rfl) ?_ _
        have F3 := Lib.hid (F2.out.put j2 O.out)
        go_wp2_with fail
        go_roundw
        case rel => exact ⟨k + 1, by omega, by go_num, F3⟩
        case measure => simp [intOf]; omega
      refine AllReady.cons rfl (fun K hK => ?_) ?_
      · go_simp
        go_at_call 71
        refine (P1.out _).mono ?_
        rintro e w3 ⟨rfl, hb⟩
        have F2 := Lib.hid ((F1.out.on (Below.refl _ _).drew).on hb)
        have c2 := F2.out.q.cell (k := j) (by omega)
        have f2 := F2.out.q.free (1 + j)
        refine hK _ _ ?_
        clear hK K
        (try simp only [Act.put])
        refine wpAny_ready (rs := [6]) (by kernel_rfl) (by simp) ?_
        refine AllReady.cons rfl (fun K hK => ?_) AllReady.nil
        go_simp
        refine hK _ _ ?_
        clear hK K
        (try simp only [Act.put])
        refine wpAny_take (i := 10) (v := .int .u64 (dig (ones k) j + 2 ^ r)) rfl (by kernel_rfl) (by kernel_rfl) (by kernel_rfl) (fun _ _ _ h => h) (Or.inl ⟨by rfl, ?_⟩) ?_
        · intro w; go_simp
        (try simp only [Act.put])
        refine wpAny_take (i := 12) (v := .pointer (some ⟨w.heap.size + 1 + 1 + 1, 1 + j, none⟩)) rfl (by kernel_rfl) (by kernel_rfl) (by kernel_rfl) (fun _ _ _ h => h) (Or.inl ⟨by rfl, ?_⟩) ?_
        · intro w; go_simp
        (try simp only [Act.put])
        refine wpAny_ready (rs := [13]) (by kernel_rfl) (by simp) ?_
        refine AllReady.cons rfl (fun K hK => ?_) AllReady.nil
        go_simp
        refine hK _ _ ?_
        clear hK K
        (try simp only [Act.put])
        refine wpAny_done (by kernel_rfl) ?_ _
        have F3 := Lib.hid (F2.out.put j2 O.out)
        go_wp2_with fail
        go_roundw
        case rel => exact ⟨k + 1, by omega, by go_num, F3⟩
        case measure => simp [intOf]; omega
      exact AllReady.nil
    · obtain rfl : k = 130 := by omega
      clear hlt hk
      go_wp2
      go_loopw [7] (fun i wr => (∃ k : Nat, k < 130 ∧ i = .int .i64 k ∧ ∃ q, Hid (InvN m d q (k + 1)) ∧ Hid (Flo w true m d q wr)) ∨ (i = .int .i64 (-1) ∧ ∃ q, Hid (InvN m d q 0) ∧ Hid (Flo w true m d q wr))) (fun i _ => (intOf i + 1).toNat)
      case atStart => exact .inl ⟨129, by omega, rfl, _, I0, F1⟩
      case round =>
        clear F1 I0
        rcases hrel with ⟨k, hk, rfl, q, I1, F1⟩ | ⟨rfl, q, I1, F1⟩
        · go_upto_region 11 with fail
          go_cut [8] from 38 to 39 (fun v wr => ∃ g, w.heap.size + 1 + 1 + 1 < g ∧ v = .pointer (some ⟨g, 0, none⟩) ∧ NumAt wr g true (dig q) ∧ Flo w true m d q wr)
          case first =>
            go_wp2_with (first
              | (refine load_num rfl (.tmp 5) rfl (w.heap.size + 1 + 1 + 1) rfl _ _ F1.out.q ?_)
              | (refine store_num rfl (.tmp 8) (.tmp 38) rfl wr.heap.size rfl _ _ rfl false (fun _ => 0) (NumAt.new wr false (fun _ => 0) rfl) ?_))
            go_meet
            have l1 := F1.out.q.lt
            exact ⟨wr.heap.size, by omega, rfl, (NumAt.new wr false (fun _ => 0) rfl).whole, (F1.out.on (below_alloc _ _)).row (by omega) _⟩
          case rest =>
          obtain ⟨g, hg, rfl, hC, hF⟩ := hcut
          obtain ⟨w3, rfl⟩ : ∃ v : World, v = wc := ⟨_, rfl⟩
          have C1 := Lib.hid hC
          clear F1 hC
          have F1 := Lib.hid hF
          clear hF
          go_upto_region 12 with fail
          go_cut [8] from 39 to 52 (fun v wr => v = .pointer (some ⟨g, 0, none⟩) ∧ NumAt wr g true (dig (q - 2 ^ k)) ∧ Flo w true m d q wr)
          case first =>
              obtain ⟨j, r, hr, ek⟩ := bit_of k
              have c1 := C1.out.cell (k := j) (by omega)
              have f1 := C1.out.free (1 + j)
              obtain ⟨o1, o2, o3⟩ := I1.out.piece hr ek
              have O := Lib.hid o1
              clear o1
              have p2 : (0 : Int) < 2 ^ r := Int.pow_pos (by decide)
              have j0 : (0 : Int) ≤ j := by omega
              have j1 : (j : Int) < 20 := by omega
              have j2 : j < 20 := by omega
              have P1 := Lib.hid (fun w => rpower_any r hr w)
              have e1 : (k : Int) / 16 = j := by omega
              have e2 : (k : Int) % 16 = r := by omega
              have e5 : (k : Int).tmod 16 = r := by rw [Int.tmod_eq_emod_of_nonneg (by omega)]; omega
              have e3 : IntKind.i64.wrap (j : Int) = j := by rw [IntKind.wrap_i64]; omega
              have e4 : IntKind.i64.wrap (r : Int) = r := by rw [IntKind.wrap_i64]; omega
              have e6 : IntKind.u64.wrap (dig q j - 2 ^ r) = dig q j - 2 ^ r := by rw [IntKind.wrap_u64]; omega
              clear ek
              refine wp_region_any (by kernel_rfl) ?_
              refine wpAny_take (i := 0) (v := .int .i64 k) rfl (by kernel_rfl) (by kernel_rfl) (by kernel_rfl) (fun _ _ _ h => h) (Or.inl ⟨by rfl, ?_⟩) ?_
              · intro w; go_simp
              (try simp only [Act.put])
              refine wpAny_take (i := 1) (v := .int .i64 j) rfl (by kernel_rfl) (by kernel_rfl) (by kernel_rfl) (fun _ _ _ h => h) (Or.inl ⟨by rfl, ?_⟩) ?_
              · intro w; go_simp
              (try simp only [Act.put])
              refine wpAny_take (i := 2) (v := .int .i64 k) rfl (by kernel_rfl) (by kernel_rfl) (by kernel_rfl) (fun _ _ _ h => h) (Or.inl ⟨by rfl, ?_⟩) ?_
              · intro w; go_simp
              (try simp only [Act.put])
              refine wpAny_take (i := 3) (v := .int .i64 j) rfl (by kernel_rfl) (by kernel_rfl) (by kernel_rfl) (fun _ _ _ h => h) (Or.inl ⟨by rfl, ?_⟩) ?_
              · intro w; go_simp
              (try simp only [Act.put])
              refine wpAny_take (i := 4) (v := .pointer (some ⟨g, 1, none⟩)) rfl (by kernel_rfl) (by kernel_rfl) (by kernel_rfl) (fun _ _ _ h => h) (Or.inl ⟨by rfl, ?_⟩) ?_
              · intro w; go_simp
              (try simp only [Act.put])
              refine wpAny_take (i := 5) (v := .pointer (some ⟨g, 1 + j, none⟩)) rfl (by kernel_rfl) (by kernel_rfl) (by kernel_rfl) (fun _ _ _ h => h) (Or.inl ⟨by rfl, ?_⟩) ?_
              · intro w; go_simp
              (try simp only [Act.put])
              refine wpAny_take (i := 7) (v := .int .i64 k) rfl (by kernel_rfl) (by kernel_rfl) (by kernel_rfl) (fun _ _ _ h => h) (Or.inl ⟨by rfl, ?_⟩) ?_
              · intro w; go_simp
              (try simp only [Act.put])
              refine wpAny_take (i := 8) (v := .int .i64 r) rfl (by kernel_rfl) (by kernel_rfl) (by kernel_rfl) (fun _ _ _ h => h) (Or.inl ⟨by rfl, ?_⟩) ?_
              · intro w; go_simp
              (try simp only [Act.put])
              refine wpAny_take (i := 11) (v := .pointer (some ⟨g, 1, none⟩)) rfl (by kernel_rfl) (by kernel_rfl) (by kernel_rfl) (fun _ _ _ h => h) (Or.inl ⟨by rfl, ?_⟩) ?_
              · intro w; go_simp
              (try simp only [Act.put])
              refine wpAny_ready (rs := [6, 9]) (by kernel_rfl) (by simp) ?_
              refine AllReady.cons rfl (fun K hK => ?_) ?_
              · go_simp
                refine hK _ _ ?_
                clear hK K
                (try simp only [Act.put])
                refine wpAny_ready (rs := [9]) (by kernel_rfl) (by simp) ?_
                refine AllReady.cons rfl (fun K hK => ?_) AllReady.nil
                go_simp
                go_at_call 71
                refine (P1.out _).mono ?_
                rintro e w3 ⟨rfl, hb⟩
                have F2 := Lib.hid ((F1.out.on (Below.refl _ _).drew).on hb)
                have C2 := Lib.hid ((C1.out.on (Below.refl _ _).drew).on hb)
                have c2 := C2.out.cell (k := j) (by omega)
                have f2 := C2.out.free (1 + j)
                refine hK _ _ ?_
                clear hK K
                (try simp only [Act.put])
                refine wpAny_take (i := 10) (v := .int .u64 (dig q j - 2 ^ r)) rfl (by kernel_rfl) (by kernel_rfl) (by kernel_rfl) (fun _ _ _ h => h) (Or.inl ⟨by rfl, ?_⟩) ?_
                · intro w; go_simp
                (try simp only [Act.put])
                refine wpAny_take (i := 12) (v := .pointer (some ⟨g, 1 + j, none⟩)) rfl (by kernel_rfl) (by kernel_rfl) (by kernel_rfl) (fun _ _ _ h => h) (Or.inl ⟨by rfl, ?_⟩) ?_
                · intro w; go_simp
                (try simp only [Act.put])
                refine wpAny_ready (rs := [13]) (by kernel_rfl) (by simp) ?_
                refine AllReady.cons rfl (fun K hK => ?_) AllReady.nil
                go_simp
                refine hK _ _ ?_
                clear hK K
                (try simp only [Act.put])
                refine wpAny_done (by kernel_rfl) ?_ _
                go_wp2_with fail
                go_meet
                exact ⟨rfl, O.out ▸ (C2.out.put (k := j) (by omega) (dig q j - 2 ^ r)), F2.out.far (by dsimp only; omega) _⟩
              refine AllReady.cons rfl (fun K hK => ?_) ?_
              · go_simp
                go_at_call 71
                refine (P1.out _).mono ?_
                rintro e w3 ⟨rfl, hb⟩
                have F2 := Lib.hid ((F1.out.on (Below.refl _ _).drew).on hb)
                have C2 := Lib.hid ((C1.out.on (Below.refl _ _).drew).on hb)
                have c2 := C2.out.cell (k := j) (by omega)
                have f2 := C2.out.free (1 + j)
                refine hK _ _ ?_
                clear hK K
                (try simp only [Act.put])
                refine wpAny_ready (rs := [6]) (by kernel_rfl) (by simp) ?_
                refine AllReady.cons rfl (fun K hK => ?_) AllReady.nil
                go_simp
                refine hK _ _ ?_
                clear hK K
                (try simp only [Act.put])
                refine wpAny_take (i := 10) (v := .int .u64 (dig q j - 2 ^ r)) rfl (by kernel_rfl) (by kernel_rfl) (by kernel_rfl) (fun _ _ _ h => h) (Or.inl ⟨by rfl, ?_⟩) ?_
                · intro w; go_simp
                (try simp only [Act.put])
                refine wpAny_take (i := 12) (v := .pointer (some ⟨g, 1 + j, none⟩)) rfl (by kernel_rfl) (by kernel_rfl) (by kernel_rfl) (fun _ _ _ h => h) (Or.inl ⟨by rfl, ?_⟩) ?_
                · intro w; go_simp
                (try simp only [Act.put])
                refine wpAny_ready (rs := [13]) (by kernel_rfl) (by simp) ?_
                refine AllReady.cons rfl (fun K hK => ?_) AllReady.nil
                go_simp
                refine hK _ _ ?_
                clear hK K
                (try simp only [Act.put])
                refine wpAny_done (by kernel_rfl) ?_ _
                go_wp2_with fail
                go_meet
                exact ⟨rfl, O.out ▸ (C2.out.put (k := j) (by omega) (dig q j - 2 ^ r)), F2.out.far (by dsimp only; omega) _⟩
              exact AllReady.nil
          case rest =>
          obtain ⟨rfl, hC, hF⟩ := hcut
          obtain ⟨w4, rfl⟩ : ∃ v : World, v = wc := ⟨_, rfl⟩
          clear C1 F1
          have C1 := Lib.hid hC
          have F1 := Lib.hid hF
          clear hF hC
          have S1 := I1.out.sz Hd.out
          have M1 := Lib.hid (fun w => rmul_any true false (q - 2 ^ k) d S1.1 ⟨by have := Hd.out; omega, by have := Hd.out; omega⟩ S1.2.2 w)
          have D1 := Lib.hid (fun w => rcmp_any true true ((q - 2 ^ k) * d) m ⟨S1.2.1, S1.2.2⟩ ⟨Hm.out.1, by have := Hm.out.2; omega⟩ w)
          rw [show (true != false) = true from rfl] at M1
          rw [show vz true ((q - 2 ^ k) * d) = -((q - 2 ^ k) * d) from rfl, show vz true m = -m from rfl] at D1
          clear S1
          go_upto_region 13 with fail
          by_cases hy : m ≤ (q - 2 ^ k) * d
          · have I2 := Lib.hid (I1.out.yes hy)
            obtain ⟨z, hz, kz⟩ : ∃ z, sgz (-((q - 2 ^ k) * d)) (-m) = z ∧ decide (z ≤ 0) = true := ⟨_, rfl, by unfold sgz; (repeat' split) <;> simp <;> omega⟩
            rw [hz] at D1
            clear hy hz I1
            refine wp_region_quiet_below (by kernel_rfl) (by kernel_rfl) ?_
            repeat (first
              | ((first | refine quiet_load_num (.tmp 8) rfl rfl g rfl _ _ C1.out.regrown ?_ | refine quiet_load_num (.tmp 3) rfl rfl (w.heap.size + 1) rfl _ _ F1.out.n.regrown ?_ | refine quiet_load_num (.tmp 2) rfl rfl w.heap.size rfl _ _ F1.out.a.regrown ?_); (try simp only [Act.put, List.setIfInBounds_toArray, List.set_cons_zero, List.set_cons_succ]))
              | (go_big_quiet_step (first | (with_reducible exact (Calls.regrown_of (M1.out _))) | (with_reducible exact (Calls.regrown_of (D1.out _))))))
            (refine wpQuiet_nil ?_; intro _ hw'; obtain ⟨⟨dq, osq⟩, hw''⟩ := hw'; subst hw'')
            have C2 := Lib.hid (C1.out.on (below_regrown w4 dq osq))
            have F2 := Lib.hid (F1.out.on (below_regrown w4 dq osq))
            generalize grow (redrawn w4 dq) osq = w5 at *
            go_wp2_with (first
              | ((refine load_num rfl (.tmp 8) rfl g rfl _ _ C2.out ?_); (try simp only [Act.put, List.setIfInBounds_toArray, List.set_cons_zero, List.set_cons_succ]))
              | ((refine store_num rfl (.tmp 5) (.tmp 58) rfl (w.heap.size + 1 + 1 + 1) rfl _ _ rfl _ _ F2.out.q ?_); (try simp only [Act.put])))
            go_roundw
            case rel =>
              rcases Nat.eq_zero_or_pos k with rfl | hp
              · exact .inr ⟨rfl, _, I2, Lib.hid F2.out.turn⟩
              · exact .inl ⟨k - 1, by omega, by rw [show ((k - 1 : Nat) : Int) = (k : Int) - 1 by omega], _, Lib.hid (by rw [show k - 1 + 1 = k by omega]; exact I2.out), Lib.hid F2.out.turn⟩
            case measure => simp [intOf]
          · have I2 := Lib.hid (I1.out.no hy)
            obtain ⟨z, hz, kz⟩ : ∃ z, sgz (-((q - 2 ^ k) * d)) (-m) = z ∧ decide (z ≤ 0) = false := ⟨_, rfl, by unfold sgz; rw [if_neg (by omega), if_pos (by omega)]; rfl⟩
            rw [hz] at D1
            clear hy hz I1
            refine wp_region_quiet_below (by kernel_rfl) (by kernel_rfl) ?_
            repeat (first
              | ((first | refine quiet_load_num (.tmp 8) rfl rfl g rfl _ _ C1.out.regrown ?_ | refine quiet_load_num (.tmp 3) rfl rfl (w.heap.size + 1) rfl _ _ F1.out.n.regrown ?_ | refine quiet_load_num (.tmp 2) rfl rfl w.heap.size rfl _ _ F1.out.a.regrown ?_); (try simp only [Act.put, List.setIfInBounds_toArray, List.set_cons_zero, List.set_cons_succ]))
              | (go_big_quiet_step (first | (with_reducible exact (Calls.regrown_of (M1.out _))) | (with_reducible exact (Calls.regrown_of (D1.out _))))))
            (refine wpQuiet_nil ?_; intro _ hw'; obtain ⟨⟨dq, osq⟩, hw''⟩ := hw'; subst hw'')
            have F2 := Lib.hid (F1.out.on (below_regrown w4 dq osq))
            generalize grow (redrawn w4 dq) osq = w5 at *
            go_wp2_with fail
            go_roundw
            case rel =>
              rcases Nat.eq_zero_or_pos k with rfl | hp
              · exact .inr ⟨rfl, _, I2, Lib.hid F2.out⟩
              · exact .inl ⟨k - 1, by omega, by rw [show ((k - 1 : Nat) : Int) = (k : Int) - 1 by omega], _, Lib.hid (by rw [show k - 1 + 1 = k by omega]; exact I2.out), Lib.hid F2.out⟩
            case measure => simp [intOf]
        · have E := Lib.hid (I1.out.done Hd.out.1)
          go_wp2_with (first
            | (refine load_num rfl (.tmp 5) rfl (w.heap.size + 1 + 1 + 1) rfl _ _ F1.out.q ?_)
            | (refine store_num rfl (.tmp 4) (.tmp 59) rfl (w.heap.size + 1 + 1) rfl _ _ rfl _ _ F1.out.r ?_))
          exact bodyPost_ret (results_cell_row (p := 4) rfl _ _ (w.heap.size + 1 + 1) 91 (numC true (dig q)) (0, 0) _ rfl (F1.out.r.whole) Tryd.underlying91 rfl (infoN _ _)) rfl (And.intro (by rw [E.out]) (Below.setRow' F1.out.b (by omega) _))
end Go.Proofs.YthmkfkmcamjnoaaDoor
namespace Go.Proofs.YthmkfkmcamjnoaaDoor
set_option maxRecDepth 8000
open Go.RowKit Go.Sort
/-- The quotient's size. -/
def fl (x d : Int) : Int := if x < 0 then -(x / d) else x / d
theorem fl_bd {x d : Int} (hx : In x) (hd : 0 < d) : 0 ≤ fl x d ∧ fl x d ≤ 170141183460469231731687303715884105728 ∧ vz (pair0 x) (fl x d) = x / d := by
  unfold In at hx
  unfold fl vz pair0
  by_cases h : x < 0
  · have a : x / d < 0 := Int.ediv_lt_of_lt_mul hd (by omega)
    have b : x ≤ x / d := Int.le_ediv_of_mul_le hd (by
      have := Int.mul_le_mul_of_nonneg_left (show 1 ≤ d by omega) (show 0 ≤ -x by omega)
      simp only [Int.neg_mul] at this
      omega)
    simp only [h, if_true, decide_true]
    generalize x / d = y at *
    omega
  · have a : 0 ≤ x / d := Int.ediv_nonneg (by omega) (by omega)
    have b : x / d ≤ x := Int.ediv_le_self _ (by omega)
    simp only [h, if_false, decide_false, Bool.false_eq_true]
    generalize x / d = y at *
    exact ⟨a, by omega, trivial⟩
theorem r_floor (x d : Int) (hx : In x) (hd : 0 < d ∧ d ≤ 18446744073709551616) : Gives 51 #[.agg (numC (pair0 x) (dig (absN x))), .agg (numC false (dig d))] (.agg (numC (pair0 x) (dig (fl x d)))) := fun w _ => by
  have h0 := absN_wide hx
  by_cases h : x < 0
  · have e : pair0 x = true := by unfold pair0; simpa using h
    have r := rfloor_neg (absN x) d ⟨h0.1, by omega⟩ hd w (pair0 x) (Lib.hid e)
    rw [show -absN x = x by unfold absN; rw [if_pos h]; omega] at r
    rw [show fl x d = -(x / d) from if_pos h]
    rw [e] at r ⊢
    exact r
  · have e : pair0 x = false := by unfold pair0; simpa using h
    have r := rfloor_pos (absN x) d ⟨h0.1, by omega⟩ hd w (pair0 x) (Lib.hid e)
    rw [show absN x = x from if_neg h] at r ⊢
    rw [show fl x d = x / d from if_neg h]
    rw [e] at r ⊢
    exact r
end Go.Proofs.YthmkfkmcamjnoaaDoor
