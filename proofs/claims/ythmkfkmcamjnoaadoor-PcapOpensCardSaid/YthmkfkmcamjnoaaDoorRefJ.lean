/-
  The document's numbers: Wide.
-/
import Derived.Test.YthmkfkmcamjnoaaDoorRefI
import Derived.Deep.Cut
import Derived.Deep.CutRange
namespace Go.Proofs.YthmkfkmcamjnoaaDoor
set_option maxRecDepth 8000
open Go.RowKit
def mostF (k : Nat) : Nat → Int := fun j => if j < k then 65535 else 0
theorem mostF_zero : mostF 0 = fun _ => 0 := by funext j; simp [mostF]
theorem mostF_step (k : Nat) : upd (mostF k) k 65535 = mostF (k + 1) := by
  funext j
  unfold upd mostF
  by_cases a : j = k
  · subst a; simp
  · by_cases c : j < k
    · simp [a, c, show j < k + 1 by omega]
    · simp [a, c, show ¬ j < k + 1 by omega]
theorem most_num : numC false (upd (mostF 8) 7 32767) = numC false (dig maxW) := numC_congr _ (by decide)
theorem least_num : numC true (upd (fun _ => 0) 7 32768) = numC true (dig 170141183460469231731687303715884105728) := numC_congr _ (by decide)
theorem dig_hi (m : Int) (k : Nat) : dig m (k + 4) = dig (hiOf m) k := by
  unfold dig hiOf
  rw [Nat.add_comm, Int.pow_add, ← Int.ediv_ediv_of_nonneg (by decide)]
  rfl
theorem dig_lo (m : Int) {k : Nat} (h : k < 4) : dig m k = dig (loOf m) k := by
  unfold dig loOf
  obtain rfl | rfl | rfl | rfl : k = 0 ∨ k = 1 ∨ k = 2 ∨ k = 3 := by omega
  all_goals first | (simp; done) | (simp; omega)
/-- The block that Wide answers with. -/
def Res (w : World) (g : Nat) : Prop := w.heap[g]? = some (.cells #[.int .i64 0, .int .u64 0] 52 (0, 0))
theorem Res.alloc {w : World} {g : Nat} (h : Res w g) (o : Obj) : Res (w.alloc o) g := by
  have lt : g < w.heap.size := by
    rcases Nat.lt_or_ge g w.heap.size with h' | h'
    · exact h'
    · unfold Res at h; rw [Array.getElem?_eq_none h'] at h; cases h
  exact (heap_alloc_old _ _ lt).trans h
theorem Res.on {w w' : World} {g : Nat} (h : Res w g) (hb : Below w.heap.size w w') : Res w' g := by
  have lt : g < w.heap.size := by
    rcases Nat.lt_or_ge g w.heap.size with h' | h'
    · exact h'
    · unfold Res at h; rw [Array.getElem?_eq_none h'] at h; cases h
  exact (hb.block g lt).trans h
theorem Res.other {w : World} {g : Nat} (h : Res w g) (a : Addr) (v : Value) (hn : g ≠ a.block) : Res (w.setCell a v) g := (heap_setCell_other w a g v hn).trans h
theorem Res.row {w : World} {g : Nat} (h : Res w g) {g' : Nat} (cs : Array Value) (hn : g ≠ g') : Res (w.setRow g' cs) g := (heap_setRow w g' g cs hn).trans h
/-- What the number is cut to. -/
def upS (b : Bool) (m : Int) : Bool := if maxW < vz b m then false else b
def upM (b : Bool) (m : Int) : Int := if maxW < vz b m then maxW else m
def dnS (b : Bool) (m : Int) : Bool := if vz b m < minW then true else b
def dnM (b : Bool) (m : Int) : Int := if vz b m < minW then 170141183460469231731687303715884105728 else m
theorem upM_sz {b : Bool} {m : Int} (h : Sz m) : Sz (upM b m) := by unfold upM; split; exact ⟨by decide, by decide⟩; exact h
theorem cut_sat {b : Bool} {m : Int} (h : 0 ≤ m) : sat (vz b m) = vz (dnS (upS b m) (upM b m)) (dnM (upS b m) (upM b m)) ∧ 0 ≤ dnM (upS b m) (upM b m) ∧ dnM (upS b m) (upM b m) ≤ 170141183460469231731687303715884105728 := by
  unfold sat upS upM
  by_cases h1 : maxW < vz b m
  · rw [if_neg (by unfold minW maxW at *; omega), if_pos h1, if_pos h1, if_pos h1]
    exact ⟨by decide, by decide, by decide⟩
  · rw [if_neg h1, if_neg h1, if_neg h1]
    unfold dnS dnM
    by_cases h2 : vz b m < minW
    · rw [if_pos h2, if_pos h2, if_pos h2]
      exact ⟨rfl, by decide, by decide⟩
    · rw [if_neg h2, if_neg h2, if_neg h2]
      refine ⟨rfl, h, ?_⟩
      unfold vz minW maxW at *
      cases b <;> simp at h1 h2 <;> omega
theorem cmp_up (b : Bool) (m : Int) (hm : Sz m) :
    (maxW < vz b m ∧ ∀ w, Calls Tryd.prog 72 #[.agg (numC b (dig m)), .agg (numC false (dig maxW))] w fun e w' => e = .returned (.int .i64 1) ∧ Below w.heap.size w w')
    ∨ (¬ maxW < vz b m ∧ ∃ z : Int, decide (0 < z) = false ∧ ∀ w, Calls Tryd.prog 72 #[.agg (numC b (dig m)), .agg (numC false (dig maxW))] w fun e w' => e = .returned (.int .i64 z) ∧ Below w.heap.size w w') := by
  have S := fun w => rcmp_any b false m maxW hm ⟨by decide, by decide⟩ w
  rw [show vz false maxW = maxW from rfl] at S
  by_cases h : maxW < vz b m
  · rw [show sgz (vz b m) maxW = 1 by unfold sgz; rw [if_neg (by omega), if_pos h]] at S
    exact .inl ⟨h, S⟩
  · exact .inr ⟨h, _, by unfold sgz; rw [if_neg h]; simp; split <;> omega, S⟩
theorem cmp_dn (b : Bool) (m : Int) (hm : Sz m) :
    (vz b m < minW ∧ ∀ w, Calls Tryd.prog 72 #[.agg (numC b (dig m)), .agg (numC true (dig 170141183460469231731687303715884105728))] w fun e w' => e = .returned (.int .i64 (-1)) ∧ Below w.heap.size w w')
    ∨ (¬ vz b m < minW ∧ ∃ z : Int, decide (z < 0) = false ∧ ∀ w, Calls Tryd.prog 72 #[.agg (numC b (dig m)), .agg (numC true (dig 170141183460469231731687303715884105728))] w fun e w' => e = .returned (.int .i64 z) ∧ Below w.heap.size w w') := by
  have S := fun w => rcmp_any b true m 170141183460469231731687303715884105728 hm ⟨by decide, by decide⟩ w
  rw [show vz true 170141183460469231731687303715884105728 = minW from rfl] at S
  by_cases h : vz b m < minW
  · rw [show sgz (vz b m) minW = -1 by unfold sgz; rw [if_pos h]] at S
    exact .inl ⟨h, S⟩
  · exact .inr ⟨h, _, by unfold sgz; rw [if_neg h]; simp; split <;> omega, S⟩
/-- What goes out. -/
theorem wide_out {s : Bool} {q : Int} (h : In (vz s q)) (h0 : 0 ≤ q) (h1 : q ≤ 170141183460469231731687303715884105728) :
    (s = false → IntKind.i64.wrap (hiOf q) = hiOf (vz s q) ∧ loOf q = loOf (vz s q)) ∧
    (s = true → 0 < loOf q → IntKind.i64.wrap (IntKind.u64.wrap (IntKind.u64.wrap (-hiOf q) - 1)) = hiOf (vz s q)) ∧
    (s = true → loOf q = 0 → IntKind.i64.wrap (IntKind.u64.wrap (-hiOf q)) = hiOf (vz s q)) ∧ (s = true → IntKind.u64.wrap (-loOf q) = loOf (vz s q)) := by
  simp only [IntKind.wrap_i64, IntKind.wrap_u64]
  unfold In vz hiOf loOf at *
  refine ⟨?_, ?_, ?_, ?_⟩
  · rintro rfl; simp only [Bool.false_eq_true, if_false, and_true] at *; omega
  all_goals rintro rfl; simp only [if_true] at *; omega
set_option maxHeartbeats 4000000 in
theorem rwide_any (b : Bool) (m : Int) (hm : Sz m) (w : World) :
    Calls Tryd.prog 54 #[.agg (numC b (dig m))] w fun e w' => e = .returned (.agg #[.int .i64 (hiOf (sat (vz b m))), .int .u64 (loOf (sat (vz b m)))]) ∧ Below w.heap.size w w' := by
  have A : Hid (NumAt ((w.alloc (.cells (numC b (dig m)) 91)).alloc (.cells #[.int .i64 0, .int .u64 0] 52)) w.heap.size b (dig m)) := Lib.hid ((NumAt.new w b (dig m) rfl).alloc _)
  have R : Hid (Res ((w.alloc (.cells (numC b (dig m)) 91)).alloc (.cells #[.int .i64 0, .int .u64 0] 52)) (w.heap.size + 1)) := Lib.hid (by unfold Res; rw [show w.heap.size + 1 = (w.alloc (.cells (numC b (dig m)) 91)).heap.size by simp]; exact heap_alloc_new _ _)
  have W : Hid (Below w.heap.size w ((w.alloc (.cells (numC b (dig m)) 91)).alloc (.cells #[.int .i64 0, .int .u64 0] 52))) := Lib.hid (by (repeat (first | (with_reducible exact Below.refl _ _) | (with_reducible assumption) | (with_reducible refine Below.drew ?_) | (with_reducible refine below_drewN ?_ _) | ((with_reducible refine Below.alloc ?_ ?_ _); rotate_left; (focus (first | (simp; done) | (simp; omega) | omega))) | ((with_reducible refine Below.setCell ?_ ?_ _); rotate_left; (focus (first | (simp; done) | (simp; omega) | omega))) | ((with_reducible refine Below.trans ?_ (Below.mono (by assumption) ?_)); rotate_left; (focus (first | (simp; done) | (simp; omega) | omega))))))
  have SZ : Hid (((w.alloc (.cells (numC b (dig m)) 91)).alloc (.cells #[.int .i64 0, .int .u64 0] 52)).heap.size = w.heap.size + 1 + 1) := Lib.hid (by simp)
  have Hm := Lib.hid hm
  obtain ⟨V, q0, q1⟩ := cut_sat (b := b) hm.1
  have VI := sat_in (vz b m)
  rw [V] at VI ⊢
  clear V hm
  have B1 := lo_bd (dnM (upS b m) (upM b m))
  have B2 : 0 ≤ hiOf (dnM (upS b m) (upM b m)) ∧ hiOf (dnM (upS b m) (upM b m)) ≤ 9223372036854775808 := by unfold hiOf; omega
  have P := Lib.hid (wide_out VI q0 q1)
  clear VI q0 q1
  go_enter Tryd.func54, Tryd.ntmps54
  go_upto_region 1 with fail
  generalize (w.alloc (.cells (numC b (dig m)) 91)).alloc (.cells #[.int .i64 0, .int .u64 0] 52) = w0 at *
  go_cut [3] from 9 to 10 (fun v wr => v = .pointer (some ⟨w.heap.size + 1 + 1, 0, none⟩) ∧ NumAt wr w.heap.size b (dig m) ∧ Res wr (w.heap.size + 1) ∧ NumAt wr (w.heap.size + 1 + 1) false (mostF 0) ∧ Below w.heap.size w wr)
  case first =>
    go_wp2_with (first
      | (refine store_num rfl (.tmp 3) (.tmp 9) rfl w0.heap.size rfl false (fun _ => 0) rfl false (fun _ => 0) (NumAt.new w0 false (fun _ => 0) rfl) ?_))
    go_meet
    rw [← SZ.out]
    exact ⟨rfl, (A.out.alloc _).wholeOther _ (by have := SZ.out; omega), (R.out.alloc _).row _ (by have := SZ.out; omega), mostF_zero ▸ (NumAt.new w0 false (fun _ => 0) rfl).whole, Below.setRow' (W.out.alloc (by have := SZ.out; omega) _) (by have := SZ.out; omega) _⟩
  case rest =>
  obtain ⟨rfl, hA, hR, hT, hW⟩ := hcut
  obtain ⟨w2, rfl⟩ : ∃ v : World, v = wc := ⟨_, rfl⟩
  have T2 := Lib.hid hT
  have R2 := Lib.hid hR
  have A2 := Lib.hid hA
  have W2 := Lib.hid hW
  clear A R W SZ hT hR hA hW
  go_wp2
  go_loopw [4] (fun i wr => ∃ k : Nat, k ≤ 8 ∧ i = .int .i64 k ∧ Hid (NumAt wr w.heap.size b (dig m)) ∧ Hid (Res wr (w.heap.size + 1)) ∧ Hid (NumAt wr (w.heap.size + 1 + 1) false (mostF k)) ∧ Hid (Below w.heap.size w wr)) (fun i _ => 8 - (intOf i).toNat)
  case atStart => exact ⟨0, by omega, rfl, A2, R2, T2, W2⟩
  case round =>
    clear A2 R2 T2 W2
    obtain ⟨k, hk, rfl, A2, R2, T2, W2⟩ := hrel
    by_cases hlt : k < 8
    · have c1 := T2.out.cell (k := k) (by omega)
      have f1 := T2.out.free (1 + k)
      have T3 := Lib.hid (mostF_step k ▸ T2.out.put (k := k) (by omega) 65535)
      go_wp2
      go_roundw
      case rel => exact ⟨k + 1, by omega, by go_num, Lib.hid (A2.out.other _ _ (by dsimp only; omega)), Lib.hid (R2.out.other _ _ (by dsimp only; omega)), Lib.hid T3.out, Lib.hid (W2.out.setCell (by dsimp only; omega) _)⟩
      case measure => simp [intOf]; omega
    · obtain rfl : k = 8 := by omega
      clear hlt hk
      have c1 := T2.out.cell (k := 7) (by omega)
      have f1 := T2.out.free (1 + 7)
      go_upto_region 7 with fail
      have T3 : Hid (NumAt (wr.setCell ⟨w.heap.size + 1 + 1, 8, none⟩ (.int .u64 32767)) (w.heap.size + 1 + 1) false (dig maxW)) := Lib.hid ((T2.out.put (k := 7) (by omega) 32767).congr most_num)
      have A3 := Lib.hid (A2.out.other ⟨w.heap.size + 1 + 1, 8, none⟩ (.int .u64 32767) (by dsimp only; omega))
      have R3 := Lib.hid (R2.out.other ⟨w.heap.size + 1 + 1, 8, none⟩ (.int .u64 32767) (by dsimp only; omega))
      have W3 : Hid (Below w.heap.size w (wr.setCell ⟨w.heap.size + 1 + 1, 8, none⟩ (.int .u64 32767))) := Lib.hid (W2.out.setCell (by dsimp only; omega) (.int .u64 32767))
      generalize wr.setCell ⟨w.heap.size + 1 + 1, 8, none⟩ (.int .u64 32767) = w3 at *
      clear A2 R2 T2 W2 c1 f1
      go_cut [5] from 19 to 20 (fun v wr => ∃ g, w.heap.size + 1 + 1 < g ∧ v = .pointer (some ⟨g, 0, none⟩) ∧ NumAt wr w.heap.size b (dig m) ∧ Res wr (w.heap.size + 1) ∧ NumAt wr (w.heap.size + 1 + 1) false (dig maxW) ∧ NumAt wr g true (fun _ => 0) ∧ Below w.heap.size w wr)
      case first =>
        go_wp2_with (first
          | (refine store_num rfl (.tmp 5) (.tmp 19) rfl w3.heap.size rfl true (fun _ => 0) rfl false (fun _ => 0) (NumAt.new w3 false (fun _ => 0) rfl) ?_))
        go_meet
        have lt := T3.out.lt
        exact ⟨w3.heap.size, lt, rfl, (A3.out.alloc _).wholeOther _ (by omega), (R3.out.alloc _).row _ (by omega), (T3.out.alloc _).wholeOther _ (by omega), (NumAt.new w3 false (fun _ => 0) rfl).whole, Below.setRow' (W3.out.alloc (by omega) _) (by omega) _⟩
      case rest =>
      obtain ⟨g, hg, rfl, hA, hR, hT, hL, hW⟩ := hcut
      obtain ⟨w4, rfl⟩ : ∃ v : World, v = wc := ⟨_, rfl⟩
      have T4 := Lib.hid hT
      have L4 := Lib.hid hL
      have R4 := Lib.hid hR
      have A4 := Lib.hid hA
      have W4 := Lib.hid hW
      have c1 := L4.out.cell (k := 7) (by omega)
      have f1 := L4.out.free (1 + 7)
      clear A3 R3 T3 W3 hT hR hA hL hW
      go_upto_region 8 with fail
      go_cut [5] from 20 to 22 (fun v wr => v = .pointer (some ⟨g, 0, none⟩) ∧ NumAt wr w.heap.size b (dig m) ∧ Res wr (w.heap.size + 1) ∧ NumAt wr (w.heap.size + 1 + 1) false (dig maxW) ∧ NumAt wr g true (dig 170141183460469231731687303715884105728) ∧ Below w.heap.size w wr)
      case first =>
        go_wp2
        go_meet
        exact ⟨rfl, A4.out.other _ _ (by dsimp only; omega), R4.out.other _ _ (by dsimp only; omega), T4.out.other _ _ (by dsimp only; omega), (L4.out.put (k := 7) (by omega) 32768).congr least_num, W4.out.setCell (by dsimp only; omega) _⟩
      case rest =>
      obtain ⟨rfl, hA, hR, hT, hL, hW⟩ := hcut
      obtain ⟨w5, rfl⟩ : ∃ v : World, v = wc := ⟨_, rfl⟩
      have T5 := Lib.hid hT
      have L5 := Lib.hid hL
      have R5 := Lib.hid hR
      have A5 := Lib.hid hA
      have W5 := Lib.hid hW
      clear A4 R4 T4 W4 L4 hT hR hA hL hW c1 f1
      refine (by assumption : ∀ (a : Act) (w : World), Code.wp Tryd.prog _ _ a w → _) _ _ ?_
      refine wp_seq_k (fun K hK => ?_)
      go_cut [5] from 22 to 27 (fun v wr => v = .pointer (some ⟨g, 0, none⟩) ∧ NumAt wr w.heap.size (upS b m) (dig (upM b m)) ∧ Res wr (w.heap.size + 1) ∧ NumAt wr g true (dig 170141183460469231731687303715884105728) ∧ Below w.heap.size w wr)
      case first =>
        rcases cmp_up b m Hm.out with ⟨h1, S1⟩ | ⟨h1, z, kz, S1⟩
        · have e1 : upS b m = false := if_pos h1
          have e2 : upM b m = maxW := if_pos h1
          have E := Lib.hid (And.intro e1 e2)
          have S2 := Lib.hid S1
          clear e1 e2 h1 S1
          go_wp2_with (first
            | (refine load_num rfl (.tmp 1) rfl w.heap.size rfl _ _ A5.out ?_)
            | (refine load_num rfl (.tmp 3) rfl (w.heap.size + 1 + 1) rfl _ _ T5.out ?_)
            | (go_at_call 72; refine (S2.out _).mono ?_; rintro e w6 ⟨rfl, hb⟩; have T6 := Lib.hid (T5.out.on hb); have A6 := Lib.hid (A5.out.on hb); have R6 := Lib.hid (R5.out.on hb); have L6 := Lib.hid (L5.out.on hb); have W6 := Lib.hid (W5.out.trans (hb.mono W5.out.size)); clear hb T5 A5 R5 L5 W5)
            | (refine load_num rfl (.tmp 3) rfl (w.heap.size + 1 + 1) rfl _ _ T6.out ?_)
            | (refine store_num rfl (.tmp 1) (.tmp 26) rfl w.heap.size rfl _ _ rfl _ _ A6.out ?_))
          go_meet
          rw [E.out.1, E.out.2]
          exact ⟨rfl, A6.out.whole, R6.out.row _ (by omega), L6.out.wholeOther _ (by omega), Below.setRow' W6.out (by omega) _⟩
        · have E := Lib.hid (And.intro (show upS b m = b from if_neg h1) (show upM b m = m from if_neg h1))
          have S2 := Lib.hid S1
          clear h1 S1
          go_wp2_with (first
            | (refine load_num rfl (.tmp 1) rfl w.heap.size rfl _ _ A5.out ?_)
            | (refine load_num rfl (.tmp 3) rfl (w.heap.size + 1 + 1) rfl _ _ T5.out ?_)
            | (go_at_call 72; refine (S2.out _).mono ?_; rintro e w6 ⟨rfl, hb⟩))
          go_meet
          rw [E.out.1, E.out.2]
          exact ⟨rfl, A5.out.on hb, R5.out.on hb, L5.out.on hb, W5.out.trans (hb.mono W5.out.size)⟩
      case rest =>
      obtain ⟨rfl, hA, hR, hL, hW⟩ := hcut
      obtain ⟨w6, rfl⟩ : ∃ v : World, v = wc := ⟨_, rfl⟩
      have L6 := Lib.hid hL
      have R6 := Lib.hid hR
      have A6 := Lib.hid hA
      have W6 := Lib.hid hW
      have Hm' := Lib.hid (upM_sz (b := b) Hm.out)
      clear A5 R5 T5 W5 L5 hR hA hL hW
      refine hK _ _ ?_
      refine wp_seq_k (fun K2 hK2 => ?_)
      go_cut [5] from 27 to 32 (fun v wr => v = .pointer (some ⟨g, 0, none⟩) ∧ NumAt wr w.heap.size (dnS (upS b m) (upM b m)) (dig (dnM (upS b m) (upM b m))) ∧ Res wr (w.heap.size + 1) ∧ Below w.heap.size w wr)
      case first =>
        rcases cmp_dn (upS b m) (upM b m) Hm'.out with ⟨h1, S1⟩ | ⟨h1, z, kz, S1⟩
        · have E := Lib.hid (And.intro (show dnS (upS b m) (upM b m) = true from if_pos h1) (show dnM (upS b m) (upM b m) = 170141183460469231731687303715884105728 from if_pos h1))
          have S2 := Lib.hid S1
          clear h1 S1
          go_wp2_with (first
            | (refine load_num rfl (.tmp 1) rfl w.heap.size rfl _ _ A6.out ?_)
            | (refine load_num rfl (.tmp 5) rfl g rfl _ _ L6.out ?_)
            | (go_at_call 72; refine (S2.out _).mono ?_; rintro e w7 ⟨rfl, hb⟩; have A7 := Lib.hid (A6.out.on hb); have R7 := Lib.hid (R6.out.on hb); have L7 := Lib.hid (L6.out.on hb); have W7 := Lib.hid (W6.out.trans (hb.mono W6.out.size)); clear hb A6 R6 L6 W6)
            | (refine load_num rfl (.tmp 5) rfl g rfl _ _ L7.out ?_)
            | (refine store_num rfl (.tmp 1) (.tmp 31) rfl w.heap.size rfl _ _ rfl _ _ A7.out ?_))
          go_meet
          rw [E.out.1, E.out.2]
          exact ⟨rfl, A7.out.whole, R7.out.row _ (by omega), Below.setRow' W7.out (by omega) _⟩
        · have E := Lib.hid (And.intro (show dnS (upS b m) (upM b m) = upS b m from if_neg h1) (show dnM (upS b m) (upM b m) = upM b m from if_neg h1))
          have S2 := Lib.hid S1
          clear h1 S1
          go_wp2_with (first
            | (refine load_num rfl (.tmp 1) rfl w.heap.size rfl _ _ A6.out ?_)
            | (refine load_num rfl (.tmp 5) rfl g rfl _ _ L6.out ?_)
            | (go_at_call 72; refine (S2.out _).mono ?_; rintro e w7 ⟨rfl, hb⟩))
          go_meet
          rw [E.out.1, E.out.2]
          exact ⟨rfl, A6.out.on hb, R6.out.on hb, W6.out.trans (hb.mono W6.out.size)⟩
      case rest =>
      obtain ⟨rfl, hA, hR, hW⟩ := hcut
      obtain ⟨w7, rfl⟩ : ∃ v : World, v = wc := ⟨_, rfl⟩
      have R7 := Lib.hid hR
      have A7 := Lib.hid hA
      have W7 := Lib.hid hW
      clear A6 R6 W6 L6 hR hA hW
      refine hK2 _ _ ?_
      have E := Lib.hid (And.intro (dig_hi (dnM (upS b m) (upM b m))) (fun k => dig_lo (dnM (upS b m) (upM b m)) (k := k)))
      generalize hq : dnM (upS b m) (upM b m) = q at *
      generalize hs : dnS (upS b m) (upM b m) = s at *
      have Es := Lib.hid (And.intro hs hq)
      clear hs hq
      generalize hH : hiOf q = H at B2 E
      generalize hL : loOf q = L at B1 E
      have P2 := Lib.hid (hH ▸ hL ▸ P.out)
      go_wp2
      go_loop [6, 7, 8] (fun u v i => (∃ j : Nat, j < 4 ∧ i = .int .i64 j ∧ u = .int .u64 (H / 65536 ^ (j + 1)) ∧ v = .int .u64 (L / 65536 ^ (j + 1))) ∨ (i = .int .i64 (-1) ∧ u = .int .u64 H ∧ v = .int .u64 L)) (fun _ _ i => (intOf i + 1).toNat)
      case atStart => exact .inl ⟨3, by omega, rfl, by rw [show H / 65536 ^ (3 + 1) = 0 from Int.ediv_eq_zero_of_lt B2.1 (by omega)], by rw [show L / 65536 ^ (3 + 1) = 0 from Int.ediv_eq_zero_of_lt B1.1 (by omega)]⟩
      case round =>
        rcases hrel with ⟨j, hj, rfl, rfl, rfl⟩ | ⟨rfl, rfl, rfl⟩
        · have c1 := A7.out.cell (k := j + 4) (by omega)
          have c2 := A7.out.cell (k := j) (by omega)
          rw [E.out.1 j] at c1
          rw [E.out.2 j hj] at c2
          have d1 := dig_bd H j
          have d2 := dig_bd L j
          have u1 : 0 ≤ H / 65536 ^ (j + 1) := Int.ediv_nonneg B2.1 (Int.le_of_lt (pow_pos65 _))
          have u2 : 0 ≤ L / 65536 ^ (j + 1) := Int.ediv_nonneg B1.1 (Int.le_of_lt (pow_pos65 _))
          have u3 : 65536 * (H / 65536 ^ (j + 1)) + dig H j = H / 65536 ^ j := by rw [step65 H j]; omega
          have u4 : 65536 * (L / 65536 ^ (j + 1)) + dig L j = L / 65536 ^ j := by rw [step65 L j]; omega
          have u5 : H / 65536 ^ j ≤ H := Int.ediv_le_self _ B2.1
          have u6 : L / 65536 ^ j ≤ L := Int.ediv_le_self _ B1.1
          have X := Lib.hid (And.intro u3 u4)
          have v1 : 65536 * (H / 65536 ^ (j + 1)) + dig H j ≤ 18446744073709551615 := by omega
          have v2 : 65536 * (L / 65536 ^ (j + 1)) + dig L j ≤ 18446744073709551615 := by omega
          clear u3 u4 u5 u6
          generalize H / 65536 ^ (j + 1) = hj1 at *
          generalize L / 65536 ^ (j + 1) = lj1 at *
          go_wp2
          go_round
          case rel =>
            rw [X.out.1, X.out.2]
            rcases Nat.eq_zero_or_pos j with rfl | hp
            · exact .inr ⟨rfl, by rw [Int.pow_zero, Int.ediv_one], by rw [Int.pow_zero, Int.ediv_one]⟩
            · exact .inl ⟨j - 1, by omega, by rw [show ((j - 1 : Nat) : Int) = (j : Int) - 1 by omega], by rw [show j - 1 + 1 = j by omega], by rw [show j - 1 + 1 = j by omega]⟩
          case measure => simp [intOf]
        · have c0 := A7.out.cell0
          have r0 : w7.cell? ⟨w.heap.size + 1, 0, none⟩ = some (.int .i64 0) := (cell_of_row w7 _ _ _ _ _ R7.out).trans rfl
          have r1 : w7.cell? ⟨w.heap.size + 1, 1, none⟩ = some (.int .u64 0) := (cell_of_row w7 _ _ _ _ _ R7.out).trans rfl
          have f0 := frozen_of_row w7 _ 0 _ _ R7.out
          have f1 := frozen_of_row w7 _ 1 _ _ R7.out
          cases s
          · have Q := Lib.hid (P2.out.1 rfl)
            go_wp2
            rw [show wrap64 H = hiOf (vz false q) from (IntWalk.i64_left _).symm.trans Q.out.1, show L = loOf (vz false q) from Q.out.2]
            exact bodyPost_ret (v := .agg #[.int .i64 (hiOf (vz false q)), .int .u64 (loOf (vz false q))]) (by simp [results, Tryd.results54, go_sem, r0, r1]) rfl ⟨by rw [Es.out.1, Es.out.2], (W7.out.setCell (by dsimp only; omega) _).setCell (by dsimp only; omega) _⟩
          · by_cases hl : 0 < L
            · have kl : decide (0 < L) = true := by simpa using hl
              have Q := Lib.hid (And.intro (P2.out.2.1 rfl hl) (P2.out.2.2.2 rfl))
              go_wp2
              rw [show wrap64 (IntKind.u64.wrap (IntKind.u64.wrap (-H) - 1)) = hiOf (vz true q) from (IntWalk.i64_left _).symm.trans Q.out.1, show IntKind.u64.wrap (-L) = loOf (vz true q) from Q.out.2]
              exact bodyPost_ret (v := .agg #[.int .i64 (hiOf (vz true q)), .int .u64 (loOf (vz true q))]) (by simp [results, Tryd.results54, go_sem, r0, r1]) rfl ⟨by rw [Es.out.1, Es.out.2], (W7.out.setCell (by dsimp only; omega) _).setCell (by dsimp only; omega) _⟩
            · have kl : decide (0 < L) = false := by simpa using hl
              have Q := Lib.hid (And.intro (P2.out.2.2.1 rfl (by omega)) (P2.out.2.2.2 rfl))
              go_wp2
              rw [show wrap64 (IntKind.u64.wrap (-H)) = hiOf (vz true q) from (IntWalk.i64_left _).symm.trans Q.out.1, show -L = loOf (vz true q) from by have h := Q.out.2; rw [show L = 0 by omega] at h ⊢; exact h]
              exact bodyPost_ret (v := .agg #[.int .i64 (hiOf (vz true q)), .int .u64 (loOf (vz true q))]) (by simp [results, Tryd.results54, go_sem, r0, r1]) rfl ⟨by rw [Es.out.1, Es.out.2], (W7.out.setCell (by dsimp only; omega) _).setCell (by dsimp only; omega) _⟩
end Go.Proofs.YthmkfkmcamjnoaaDoor
