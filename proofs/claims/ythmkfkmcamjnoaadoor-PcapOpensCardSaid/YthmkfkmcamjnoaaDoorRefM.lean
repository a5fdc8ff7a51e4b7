/-
  The document's numbers: Floor.
-/
import Derived.Test.YthmkfkmcamjnoaaDoorRefL
namespace Go.Proofs.YthmkfkmcamjnoaaDoor
set_option maxRecDepth 8000
open Go.RowKit Go.Sort
theorem bit_of (k : Nat) : ∃ j r : Nat, r < 16 ∧ k = 16 * j + r := ⟨k / 16, k % 16, by omega, by omega⟩
/-- All bits below k. -/
def ones (k : Nat) : Int := 2 ^ k - 1
theorem ones_put {k j r : Nat} (hr : r < 16) (hk : k = 16 * j + r) : upd (dig (ones k)) j (dig (ones k) j + 2 ^ r) = dig (ones (k + 1)) ∧ 0 ≤ dig (ones k) j ∧ dig (ones k) j + 2 ^ r < 65536 := by
  have h := piece_low (t := 0) (j := j) hr
  have e : dig (ones k) j = 2 ^ r - 1 := by
    have p := pow_pos65 j
    have p2 : (0 : Int) < 2 ^ r := Int.pow_pos (by decide)
    have p3 : (2 : Int) ^ r ≤ 32768 := by
      have h : (2 : Nat) ^ r ≤ 2 ^ 15 := Nat.pow_le_pow_right (by omega) (by omega)
      have : ((2 ^ r : Nat) : Int) ≤ ((2 ^ 15 : Nat) : Int) := by omega
      simpa using this
    unfold dig ones
    rw [hk, pow_bit, show 2 ^ r * 65536 ^ j - 1 = -1 + 2 ^ r * 65536 ^ j by omega, Int.add_mul_ediv_right _ _ (by omega)]
    have : (-1 : Int) / 65536 ^ j = -1 := by
      have h1 : (-1 : Int) / 65536 ^ j < 0 := Int.ediv_lt_of_lt_mul p (by omega)
      have h2 : -1 ≤ (-1 : Int) / 65536 ^ j := Int.le_ediv_of_mul_le p (by omega)
      omega
    omega
  have p2 : (0 : Int) < 2 ^ r := Int.pow_pos (by decide)
  have p3 : (2 : Int) ^ r ≤ 32768 := by
    have h : (2 : Nat) ^ r ≤ 2 ^ 15 := Nat.pow_le_pow_right (by omega) (by omega)
    have : ((2 ^ r : Nat) : Int) ≤ ((2 ^ 15 : Nat) : Int) := by omega
    simpa using this
  refine ⟨?_, by omega, by omega⟩
  rw [dig_put (ones k) (2 ^ r) j (by omega) (by omega)]
  congr 1
  unfold ones
  rw [← pow_bit, ← hk, Int.pow_succ]; omega
/-- What stands in Floor. -/
structure Flo (w : World) (b : Bool) (m d : Int) (q : Int) (W' : World) : Prop where
  a : NumAt W' w.heap.size b (dig m)
  n : NumAt W' (w.heap.size + 1) false (dig d)
  r : NumAt W' (w.heap.size + 1 + 1) false fun _ => 0
  q : NumAt W' (w.heap.size + 1 + 1 + 1) b (dig q)
  b : Below w.heap.size w W'
theorem Flo.on {w W W' : World} {b : Bool} {m d q : Int} (h : Flo w b m d q W) (hb : Below W.heap.size W W') : Flo w b m d q W' :=
  ⟨h.a.on hb, h.n.on hb, h.r.on hb, h.q.on hb, h.b.trans (hb.mono h.b.size)⟩
theorem Flo.put {w W : World} {b : Bool} {m d q q' : Int} (h : Flo w b m d q W) {j : Nat} (hj : j < 20) {v : Int} (e : upd (dig q) j v = dig q') : Flo w b m d q' (W.setCell ⟨w.heap.size + 1 + 1 + 1, 1 + j, none⟩ (.int .u64 v)) :=
  ⟨h.a.other _ _ (by dsimp only; omega), h.n.other _ _ (by dsimp only; omega), h.r.other _ _ (by dsimp only; omega), e ▸ h.q.put hj v, h.b.setCell (by dsimp only; omega) _⟩
theorem Flo.row {w W : World} {b : Bool} {m d q : Int} (h : Flo w b m d q W) {g : Nat} (hg : w.heap.size + 1 + 1 + 1 < g) (cs : Array Value) : Flo w b m d q (W.setRow g cs) :=
  ⟨h.a.wholeOther _ (by omega), h.n.wholeOther _ (by omega), h.r.wholeOther _ (by omega), h.q.wholeOther _ (by omega), Below.setRow' h.b (by omega) _⟩
theorem Flo.far {w W : World} {b : Bool} {m d q : Int} (h : Flo w b m d q W) {a : Addr} (hg : w.heap.size + 1 + 1 + 1 < a.block) (v : Value) : Flo w b m d q (W.setCell a v) :=
  ⟨h.a.other _ _ (by omega), h.n.other _ _ (by omega), h.r.other _ _ (by omega), h.q.other _ _ (by omega), h.b.setCell (by omega) _⟩
theorem Flo.turn {w W : World} {b : Bool} {m d q q' : Int} (h : Flo w b m d q W) : Flo w b m d q' (W.setRow (w.heap.size + 1 + 1 + 1) (numC b (dig q'))) :=
  ⟨h.a.wholeOther _ (by omega), h.n.wholeOther _ (by omega), h.r.wholeOther _ (by omega), h.q.whole, Below.setRow' h.b (by omega) _⟩
/-- Bit by bit, from above: behind the bits from k on. -/
def InvP (m d q : Int) (k : Nat) : Prop := (∃ t, q = 2 ^ k * t) ∧ 0 ≤ q ∧ q + 2 ^ k ≤ 2 ^ 130 ∧ q * d ≤ m ∧ m < (q + 2 ^ k) * d
theorem InvP.start {m d : Int} (hm : 0 ≤ m ∧ m < 2 ^ 130) (hd : 0 < d) : InvP m d 0 130 := by
  refine ⟨⟨0, by simp⟩, by omega, by omega, by omega, ?_⟩
  have := Int.mul_le_mul_of_nonneg_left (show 1 ≤ d by omega) (show (0 : Int) ≤ 2 ^ 130 by decide)
  omega
theorem InvP.yes {m d q : Int} {k : Nat} (h : InvP m d q (k + 1)) (hy : (q + 2 ^ k) * d ≤ m) : InvP m d (q + 2 ^ k) k := by
  obtain ⟨⟨t, ht⟩, h0, h1, h2, h3⟩ := h
  have p : (0 : Int) < 2 ^ k := Int.pow_pos (by decide)
  have e : (2 : Int) ^ (k + 1) = 2 ^ k * 2 := Int.pow_succ _ _
  rw [e] at ht h1 h3
  refine ⟨⟨2 * t + 1, ?_⟩, by omega, by omega, hy, ?_⟩
  · rw [ht, Int.mul_add, Int.mul_assoc]; omega
  · rw [show q + 2 ^ k + 2 ^ k = q + 2 ^ k * 2 by omega]; exact h3
theorem InvP.no {m d q : Int} {k : Nat} (h : InvP m d q (k + 1)) (hy : ¬ (q + 2 ^ k) * d ≤ m) : InvP m d q k := by
  obtain ⟨⟨t, ht⟩, h0, h1, h2, h3⟩ := h
  have p : (0 : Int) < 2 ^ k := Int.pow_pos (by decide)
  have e : (2 : Int) ^ (k + 1) = 2 ^ k * 2 := Int.pow_succ _ _
  rw [e] at ht h1
  exact ⟨⟨2 * t, by rw [ht, Int.mul_assoc]⟩, h0, by omega, h2, by omega⟩
theorem InvP.done {m d q : Int} (hd : 0 < d) (h : InvP m d q 0) : q = m / d := by
  obtain ⟨-, h0, -, h2, h3⟩ := h
  have e : (2 : Int) ^ 0 = 1 := rfl
  rw [e] at h3
  have a : q ≤ m / d := Int.le_ediv_of_mul_le hd h2
  have b : m / d < q + 1 := Int.ediv_lt_of_lt_mul hd h3
  omega
theorem InvP.piece {m d q : Int} {k j r : Nat} (h : InvP m d q (k + 1)) (hr : r < 16) (hk : k = 16 * j + r) :
    upd (dig q) j (dig q j + 2 ^ r) = dig (q + 2 ^ k) ∧ 0 ≤ dig q j ∧ dig q j + 2 ^ r < 65536 := by
  obtain ⟨⟨t, ht⟩, -⟩ := h
  have p := piece_low (t := t) (j := j) hr
  rw [← hk, ← ht] at p
  have p2 : (0 : Int) < 2 ^ r := Int.pow_pos (by decide)
  exact ⟨by rw [dig_put q (2 ^ r) j (by omega) (by omega), ← pow_bit, ← hk], p.2, p.1⟩
theorem InvP.sz {m d q : Int} {k : Nat} (hd : 0 < d ∧ d ≤ 18446744073709551616) (h : InvP m d q (k + 1)) : Sz (q + 2 ^ k) ∧ 0 ≤ (q + 2 ^ k) * d ∧ (q + 2 ^ k) * d < 65536 ^ 20 := by
  obtain ⟨-, h0, h1, -⟩ := h
  have p : (0 : Int) < 2 ^ k := Int.pow_pos (by decide)
  have e : (2 : Int) ^ (k + 1) = 2 ^ k * 2 := Int.pow_succ _ _
  rw [e] at h1
  have := Int.mul_le_mul (show q + 2 ^ k ≤ 2 ^ 130 by omega) hd.2 (by omega) (by decide)
  exact ⟨⟨by omega, by omega⟩, Int.mul_nonneg (by omega) (by omega), by omega⟩
set_option maxHeartbeats 8000000 in
set_option maxRecDepth 100000 in
theorem rfloor_pos (m d : Int) (hm : 0 ≤ m ∧ m < 2 ^ 130) (hd : 0 < d ∧ d ≤ 18446744073709551616) (w : World) (b : Bool) (hb : Hid (b = false)) :
    Calls Tryd.prog 51 #[.agg (numC b (dig m)), .agg (numC false (dig d))] w fun e w' => e = .returned (.agg (numC false (dig (m / d)))) ∧ Below w.heap.size w w' := by
  have I0 := Lib.hid (InvP.start hm hd.1)
  have Hd := Lib.hid hd
  have Hm := Lib.hid hm
  clear hm hd
  have A : Hid (NumAt (((w.alloc (.cells (numC b (dig m)) 91)).alloc (.cells (numC false (dig d)) 91)).alloc (.cells (numC false fun _ => 0) 91)) w.heap.size b (dig m)) := Lib.hid ((((NumAt.new w b (dig m) rfl).alloc _).alloc _))
  have B : Hid (NumAt (((w.alloc (.cells (numC b (dig m)) 91)).alloc (.cells (numC false (dig d)) 91)).alloc (.cells (numC false fun _ => 0) 91)) (w.heap.size + 1) false (dig d)) := Lib.hid ((NumAt.new _ false (dig d) (by simp)).alloc _)
  have R : Hid (NumAt (((w.alloc (.cells (numC b (dig m)) 91)).alloc (.cells (numC false (dig d)) 91)).alloc (.cells (numC false fun _ => 0) 91)) (w.heap.size + 1 + 1) false fun _ => 0) := Lib.hid (NumAt.new _ false _ (by simp))
  have W : Hid (Below w.heap.size w (((w.alloc (.cells (numC b (dig m)) 91)).alloc (.cells (numC false (dig d)) 91)).alloc (.cells (numC false fun _ => 0) 91))) := Lib.hid (by (repeat (first | (with_reducible exact Below.refl _ _) | (with_reducible assumption) | (with_reducible refine Below.drew ?_) | (with_reducible refine below_drewN ?_ _) | ((with_reducible refine Below.alloc ?_ ?_ _); rotate_left; (focus (first | (simp; done) | (simp; omega) | omega))) | ((with_reducible refine Below.setCell ?_ ?_ _); rotate_left; (focus (first | (simp; done) | (simp; omega) | omega))) | ((with_reducible refine Below.trans ?_ (Below.mono (by assumption) ?_)); rotate_left; (focus (first | (simp; done) | (simp; omega) | omega))))))
  have SZ : Hid ((((w.alloc (.cells (numC b (dig m)) 91)).alloc (.cells (numC false (dig d)) 91)).alloc (.cells (numC false fun _ => 0) 91)).heap.size = w.heap.size + 1 + 1 + 1) := Lib.hid (by simp)
  go_enter Tryd.func51, Tryd.ntmps51
  go_upto_region 1 with fail
  rw [← numC_nought]
  generalize ((w.alloc (.cells (numC b (dig m)) 91)).alloc (.cells (numC false (dig d)) 91)).alloc (.cells (numC false fun _ => 0) 91) = w0 at *
  have a0 := A.out.cell0
  go_cut [5] from 11 to 12 (fun v wr => v = .pointer (some ⟨w.heap.size + 1 + 1 + 1, 0, none⟩) ∧ NumAt wr w.heap.size b (dig m) ∧ NumAt wr (w.heap.size + 1) false (dig d) ∧ NumAt wr (w.heap.size + 1 + 1) false (fun _ => 0) ∧ NumAt wr (w.heap.size + 1 + 1 + 1) false (dig 0) ∧ Below w.heap.size w wr)
  case first =>
    go_wp2_with (first
      | (refine store_num rfl (.tmp 5) (.tmp 11) rfl w0.heap.size rfl false (fun _ => 0) rfl false (fun _ => 0) (NumAt.new w0 false (fun _ => 0) rfl) ?_))
    go_meet
    have zz : (fun _ => 0 : Nat → Int) = dig 0 := by funext i; simp [dig]
    rw [← SZ.out]
    exact ⟨rfl, (A.out.alloc _).wholeOther _ (by have := SZ.out; omega), (B.out.alloc _).wholeOther _ (by have := SZ.out; omega), (R.out.alloc _).wholeOther _ (by have := SZ.out; omega), zz ▸ (NumAt.new w0 false (fun _ => 0) rfl).whole, Below.setRow' (W.out.alloc (by have := SZ.out; omega) _) (by have := SZ.out; omega) _⟩
  case rest =>
  obtain ⟨rfl, hA, hB, hR, hQ, hW⟩ := hcut
  obtain ⟨w1, rfl⟩ : ∃ v : World, v = wc := ⟨_, rfl⟩
  clear A B R W SZ a0
  have a0 := hA.cell0
  have q0 := hQ.cell0
  have fq := hQ.free 0
  have F1 : Hid (Flo w b m d 0 (w1.setCell ⟨w.heap.size + 1 + 1 + 1, 0, none⟩ (.bool b))) := Lib.hid ⟨hA.other _ _ (by dsimp only; omega), hB.other _ _ (by dsimp only; omega), hR.other _ _ (by dsimp only; omega), hQ.sign b, hW.setCell (by dsimp only; omega) _⟩
  clear hA hB hR hQ hW
  go_upto_region 3 with fail
  generalize w1.setCell ⟨w.heap.size + 1 + 1 + 1, 0, none⟩ (.bool b) = w2 at *
  clear a0 q0 fq
  obtain rfl := hb.out
  have a0 := F1.out.a.cell0
  go_wp2
  go_loopw [9] (fun i wr => (∃ k : Nat, k < 130 ∧ i = .int .i64 k ∧ ∃ q, Hid (InvP m d q (k + 1)) ∧ Hid (Flo w false m d q wr)) ∨ (i = .int .i64 (-1) ∧ ∃ q, Hid (InvP m d q 0) ∧ Hid (Flo w false m d q wr))) (fun i _ => (intOf i + 1).toNat)
  case atStart => exact .inl ⟨129, by omega, rfl, 0, I0, F1⟩
  case round =>
    clear F1 I0 a0
    rcases hrel with ⟨k, hk, rfl, q, I1, F1⟩ | ⟨rfl, q, I1, F1⟩
    · go_upto_region 19 with fail
      go_cut [10] from 64 to 65 (fun v wr => ∃ g, w.heap.size + 1 + 1 + 1 < g ∧ v = .pointer (some ⟨g, 0, none⟩) ∧ NumAt wr g false (dig q) ∧ Flo w false m d q wr)
      case first =>
        go_wp2_with (first
          | (refine load_num rfl (.tmp 5) rfl (w.heap.size + 1 + 1 + 1) rfl _ _ F1.out.q ?_)
          | (refine store_num rfl (.tmp 10) (.tmp 64) rfl wr.heap.size rfl _ _ rfl false (fun _ => 0) (NumAt.new wr false (fun _ => 0) rfl) ?_))
        go_meet
        have l1 := F1.out.q.lt
        exact ⟨wr.heap.size, by omega, rfl, (NumAt.new wr false (fun _ => 0) rfl).whole, (F1.out.on (below_alloc _ _)).row (by omega) _⟩
      case rest =>
      obtain ⟨g, hg, rfl, hC, hF⟩ := hcut
      obtain ⟨w3, rfl⟩ : ∃ v : World, v = wc := ⟨_, rfl⟩
      have C1 := Lib.hid hC
      clear F1 hC
      have F1 := Lib.hid hF
      clear hF
      go_upto_region 20 with fail
      go_cut [10] from 65 to 78 (fun v wr => v = .pointer (some ⟨g, 0, none⟩) ∧ NumAt wr g false (dig (q + 2 ^ k)) ∧ Flo w false m d q wr)
      case first =>
          obtain ⟨j, r, hr, ek⟩ := bit_of k
          have c1 := C1.out.cell (k := j) (by omega)
          have f1 := C1.out.free (1 + j)
          obtain ⟨o1, o2, o3⟩ := I1.out.piece hr ek
          have O := Lib.hid o1
          clear o1
          have p2 : (0 : Int) < 2 ^ r := Int.pow_pos (by decide)
          have j0 : (0 : Int) ≤ j := by omega
          have j1 : (j : Int) < 20 := by omega
          have j2 : j < 20 := by omega
          have P1 := Lib.hid (fun w => rpower_any r hr w)
          have e1 : (k : Int) / 16 = j := by omega
          have e2 : (k : Int) % 16 = r := by omega
          have e5 : (k : Int).tmod 16 = r := by rw [Int.tmod_eq_emod_of_nonneg (by omega)]; omega
          have e3 : IntKind.i64.wrap (j : Int) = j := by rw [IntKind.wrap_i64]; omega
          have e4 : IntKind.i64.wrap (r : Int) = r := by rw [IntKind.wrap_i64]; omega
          have e6 : IntKind.u64.wrap (dig q j + 2 ^ r) = dig q j + 2 ^ r := by rw [IntKind.wrap_u64]; omega
          clear ek
          refine wp_region_any (by kernel_rfl) ?_
          refine wpAny_take (i := 0) (v := .int .i64 k) rfl (by kernel_rfl) (by kernel_rfl) (by kernel_rfl) (fun _ _ _ h => h) (Or.inl ⟨by rfl, ?_⟩) ?_
          · intro w; go_simp
          (try simp only [Act.put])
          refine wpAny_take (i := 1) (v := .int .i64 j) rfl (by kernel_rfl) (by kernel_rfl) (by kernel_rfl) (fun _ _ _ h => h) (Or.inl ⟨by rfl, ?_⟩) ?_
          · intro w; go_simp
          (try simp only [Act.put])
          refine wpAny_take (i := 2) (v := .int .i64 k) rfl (by kernel_rfl) (by kernel_rfl) (by kernel_rfl) (fun _ _ _ h => h) (Or.inl ⟨by rfl, ?_⟩) ?_
          · intro w; go_simp
          (try simp only [Act.put])
          refine wpAny_take (i := 3) (v := .int .i64 j) rfl (by kernel_rfl) (by kernel_rfl) (by kernel_rfl) (fun _ _ _ h => h) (Or.inl ⟨by rfl, ?_⟩) ?_
          · intro w; go_simp
          (try simp only [Act.put])
          refine wpAny_take (i := 4) (v := .pointer (some ⟨g, 1, none⟩)) rfl (by kernel_rfl) (by kernel_rfl) (by kernel_rfl) (fun _ _ _ h => h) (Or.inl ⟨by rfl, ?_⟩) ?_
          · intro w; go_simp
          (try simp only [Act.put])
          refine wpAny_take (i := 5) (v := .pointer (some ⟨g, 1 + j, none⟩)) rfl (by kernel_rfl) (by kernel_rfl) (by kernel_rfl) (fun _ _ _ h => h) (Or.inl ⟨by rfl, ?_⟩) ?_
          · intro w; go_simp
          (try simp only [Act.put])
          refine wpAny_take (i := 7) (v := .int .i64 k) rfl (by kernel_rfl) (by kernel_rfl) (by kernel_rfl) (fun _ _ _ h => h) (Or.inl ⟨by rfl, ?_⟩) ?_
          · intro w; go_simp
          (try simp only [Act.put])
          refine wpAny_take (i := 8) (v := .int .i64 r) rfl (by kernel_rfl) (by kernel_rfl) (by kernel_rfl) (fun _ _ _ h => h) (Or.inl ⟨by rfl, ?_⟩) ?_
          · intro w; go_simp
          (try simp only [Act.put])
          refine wpAny_take (i := 11) (v := .pointer (some ⟨g, 1, none⟩)) rfl (by kernel_rfl) (by kernel_rfl) (by kernel_rfl) (fun _ _ _ h => h) (Or.inl ⟨by rfl, ?_⟩) ?_
          · intro w; go_simp
          (try simp only [Act.put])
          refine wpAny_ready (rs := [6, 9]) (by kernel_rfl) (by simp) ?_
          refine AllReady.cons rfl (fun K hK => ?_) ?_
          · go_simp
            refine hK _ _ ?_
            clear hK K
            (try simp only [Act.put])
            refine wpAny_ready (rs := [9]) (by kernel_rfl) (by simp) ?_
            refine AllReady.cons rfl (fun K hK => ?_) AllReady.nil
            go_simp
            go_at_call 71
            refine (P1.out _).mono ?_
            rintro e w3 ⟨rfl, hb⟩
            have F2 := Lib.hid ((F1.out.on (Below.refl _ _).drew).on hb)
            have C2 := Lib.hid ((C1.out.on (Below.refl _ _).drew).on hb)
            have c2 := C2.out.cell (k := j) (by omega)
            have f2 := C2.out.free (1 + j)
            refine hK _ _ ?_
            clear hK K
            (try simp only [Act.put])
            refine wpAny_take (i := 10) (v := .int .u64 (dig q j + 2 ^ r)) rfl (by kernel_rfl) (by kernel_rfl) (by kernel_rfl) (fun _ _ _ h => h) (Or.inl ⟨by rfl, ?_⟩) ?_
            · intro w; go_simp
            (try simp only [Act.put])
            refine wpAny_take (i := 12) (v := .pointer (some ⟨g, 1 + j, none⟩)) rfl (by kernel_rfl) (by kernel_rfl) (by kernel_rfl) (fun _ _ _ h => h) (Or.inl ⟨by rfl, ?_⟩) ?_
            · intro w; go_simp
            (try simp only [Act.put])
            refine wpAny_ready (rs := [13]) (by kernel_rfl) (by simp) ?_
            refine AllReady.cons rfl (fun K hK => ?_) AllReady.nil
            go_simp
            refine hK _ _ ?_
            clear hK K
            (try simp only [Act.put])
            refine wpAny_done (by kernel_rfl) ?_ _
            go_wp2_with fail
            go_meet
            exact ⟨rfl, O.out ▸ (C2.out.put (k := j) (by omega) (dig q j + 2 ^ r)), F2.out.far (by dsimp only; omega) _⟩
          refine AllReady.cons rfl (fun K hK => ?_) ?_
          · go_simp
            go_at_call 71
            refine (P1.out _).mono ?_
            rintro e w3 ⟨rfl, hb⟩
            have F2 := Lib.hid ((F1.out.on (Below.refl _ _).drew).on hb)
            have C2 := Lib.hid ((C1.out.on (Below.refl _ _).drew).on hb)
            have c2 := C2.out.cell (k := j) (by omega)
            have f2 := C2.out.free (1 + j)
            refine hK _ _ ?_
            clear hK K
            (try simp only [Act.put])
            refine wpAny_ready (rs := [6]) (by kernel_rfl) (by simp) ?_
            refine AllReady.cons rfl (fun K hK => ?_) AllReady.nil
            go_simp
            refine hK _ _ ?_
            clear hK K
            (try simp only [Act.put])
            refine wpAny_take (i := 10) (v := .int .u64 (dig q j + 2 ^ r)) rfl (by kernel_rfl) (by kernel_rfl) (by kernel_rfl) (fun _ _ _ h => h) (Or.inl ⟨by rfl, ?_⟩) ?_
            · intro w; go_simp
            (try simp only [Act.put])
            refine wpAny_take (i := 12) (v := .pointer (some ⟨g, 1 + j, none⟩)) rfl (by kernel_rfl) (by kernel_rfl) (by kernel_rfl) (fun _ _ _ h => h) (Or.inl ⟨by rfl, ?_⟩) ?_
            · intro w; go_simp
            (try simp only [Act.put])
            refine wpAny_ready (rs := [13]) (by kernel_rfl) (by simp) ?_
            refine AllReady.cons rfl (fun K hK => ?_) AllReady.nil
            go_simp
            refine hK _ _ ?_
            clear hK K
            (try simp only [Act.put])
            refine wpAny_done (by kernel_rfl) ?_ _
            go_wp2_with fail
            go_meet
            exact ⟨rfl, O.out ▸ (C2.out.put (k := j) (by omega) (dig q j + 2 ^ r)), F2.out.far (by dsimp only; omega) _⟩
          exact AllReady.nil
      case rest =>
      obtain ⟨rfl, hC, hF⟩ := hcut
      obtain ⟨w4, rfl⟩ : ∃ v : World, v = wc := ⟨_, rfl⟩
      clear C1 F1
      have C1 := Lib.hid hC
      have F1 := Lib.hid hF
      clear hF hC
      have S1 := I1.out.sz Hd.out
      have M1 := Lib.hid (fun w => rmul_any false false (q + 2 ^ k) d S1.1 ⟨by have := Hd.out; omega, by have := Hd.out; omega⟩ S1.2.2 w)
      have D1 := Lib.hid (fun w => rcmp_any false false ((q + 2 ^ k) * d) m ⟨S1.2.1, S1.2.2⟩ ⟨Hm.out.1, by have := Hm.out.2; omega⟩ w)
      rw [show (false != false) = false from rfl] at M1
      rw [show vz false ((q + 2 ^ k) * d) = (q + 2 ^ k) * d from rfl, show vz false m = m from rfl] at D1
      clear S1
      go_upto_region 21 with fail
      by_cases hy : (q + 2 ^ k) * d ≤ m
      · have I2 := Lib.hid (I1.out.yes hy)
        obtain ⟨z, hz, kz⟩ : ∃ z, sgz ((q + 2 ^ k) * d) m = z ∧ decide (z ≤ 0) = true := ⟨_, rfl, by unfold sgz; (repeat' split) <;> simp <;> omega⟩
        rw [hz] at D1
        clear hy hz I1
        refine wp_region_quiet_below (by kernel_rfl) (by kernel_rfl) ?_
        repeat (first
          | ((first | refine quiet_load_num (.tmp 10) rfl rfl g rfl _ _ C1.out.regrown ?_ | refine quiet_load_num (.tmp 3) rfl rfl (w.heap.size + 1) rfl _ _ F1.out.n.regrown ?_ | refine quiet_load_num (.tmp 2) rfl rfl w.heap.size rfl _ _ F1.out.a.regrown ?_); (try simp only [Act.put, List.setIfInBounds_toArray, List.set_cons_zero, List.set_cons_succ]))
          | (go_big_quiet_step (first | (with_reducible exact (Calls.regrown_of (M1.out _))) | (with_reducible exact (Calls.regrown_of (D1.out _))))))
        (refine wpQuiet_nil ?_; intro _ hw'; obtain ⟨⟨dq, osq⟩, hw''⟩ := hw'; subst hw'')
        have C2 := Lib.hid (C1.out.on (below_regrown w4 dq osq))
        have F2 := Lib.hid (F1.out.on (below_regrown w4 dq osq))
        generalize grow (redrawn w4 dq) osq = w5 at *
        go_wp2_with (first
          | (refine load_num rfl (.tmp 10) rfl g rfl _ _ C2.out ?_)
          | (refine store_num rfl (.tmp 5) (.tmp 84) rfl (w.heap.size + 1 + 1 + 1) rfl _ _ rfl _ _ F2.out.q ?_))
        go_roundw
        case rel =>
          rcases Nat.eq_zero_or_pos k with rfl | hp
          · exact .inr ⟨rfl, _, I2, Lib.hid F2.out.turn⟩
          · exact .inl ⟨k - 1, by omega, by rw [show ((k - 1 : Nat) : Int) = (k : Int) - 1 by omega], _, Lib.hid (by rw [show k - 1 + 1 = k by omega]; exact I2.out), Lib.hid F2.out.turn⟩
        case measure => simp [intOf]
      · have I2 := Lib.hid (I1.out.no hy)
        obtain ⟨z, hz, kz⟩ : ∃ z, sgz ((q + 2 ^ k) * d) m = z ∧ decide (z ≤ 0) = false := ⟨_, rfl, by unfold sgz; rw [if_neg (by omega), if_pos (by omega)]; rfl⟩
        rw [hz] at D1
        clear hy hz I1
        refine wp_region_quiet_below (by kernel_rfl) (by kernel_rfl) ?_
        repeat (first
          | ((first | refine quiet_load_num (.tmp 10) rfl rfl g rfl _ _ C1.out.regrown ?_ | refine quiet_load_num (.tmp 3) rfl rfl (w.heap.size + 1) rfl _ _ F1.out.n.regrown ?_ | refine quiet_load_num (.tmp 2) rfl rfl w.heap.size rfl _ _ F1.out.a.regrown ?_); (try simp only [Act.put, List.setIfInBounds_toArray, List.set_cons_zero, List.set_cons_succ]))
          | (go_big_quiet_step (first | (with_reducible exact (Calls.regrown_of (M1.out _))) | (with_reducible exact (Calls.regrown_of (D1.out _))))))
        (refine wpQuiet_nil ?_; intro _ hw'; obtain ⟨⟨dq, osq⟩, hw''⟩ := hw'; subst hw'')
        have F2 := Lib.hid (F1.out.on (below_regrown w4 dq osq))
        generalize grow (redrawn w4 dq) osq = w5 at *
        go_wp2_with fail
        go_roundw
        case rel =>
          rcases Nat.eq_zero_or_pos k with rfl | hp
          · exact .inr ⟨rfl, _, I2, Lib.hid F2.out⟩
          · exact .inl ⟨k - 1, by omega, by rw [show ((k - 1 : Nat) : Int) = (k : Int) - 1 by omega], _, Lib.hid (by rw [show k - 1 + 1 = k by omega]; exact I2.out), Lib.hid F2.out⟩
        case measure => simp [intOf]
    · have E := Lib.hid (I1.out.done Hd.out.1)
      go_wp2_with (first
        | (refine load_num rfl (.tmp 5) rfl (w.heap.size + 1 + 1 + 1) rfl _ _ F1.out.q ?_)
        | (refine store_num rfl (.tmp 4) (.tmp 85) rfl (w.heap.size + 1 + 1) rfl _ _ rfl _ _ F1.out.r ?_))
      exact bodyPost_ret (results_cell_row (p := 4) rfl _ _ (w.heap.size + 1 + 1) 91 (numC false (dig q)) (0, 0) _ rfl (F1.out.r.whole) Tryd.underlying91 rfl (infoN _ _)) rfl (And.intro (by rw [E.out]) (Below.setRow' F1.out.b (by omega) _))
end Go.Proofs.YthmkfkmcamjnoaaDoor
