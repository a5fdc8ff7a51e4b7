/-
  The document's numbers (horologeref01) in memory: a sign, and 20 pieces; Zero.
  The document's numbers: Num64 and Of.
  The document's numbers: Size, Neg and Cmp.
  The document's numbers: Cmp.
-/
import Derived.Test.YthmkfkmcamjnoaaDoorProg
import Derived.Test.YthmkfkmcamjnoaaDoorNum
import Derived.WalkKit
import Derived.WalkSpells
import Derived.WalkLawsBesides
import Derived.LoopTactic
import Derived.BigQuiet
import Derived.Deep.QuietTactic
import Derived.Lib.Hide
import Derived.Laws.Tables
import Derived.Outline
import Derived.Deep.CutRange
namespace Go.Proofs.YthmkfkmcamjnoaaDoor
open Go.RowKit
/-- The cells of a number: its sign, and its pieces. -/
def numC (b : Bool) (f : Nat → Int) : Array Value := (Value.bool b :: (List.range 20).map fun i => Value.int .u64 (f i)).toArray
theorem numC_size (b : Bool) (f : Nat → Int) : (numC b f).size = 21 := by simp [numC]
theorem numC_zero (b : Bool) (f : Nat → Int) : (numC b f)[0]? = some (.bool b) := by simp [numC]
theorem numC_at (b : Bool) (f : Nat → Int) {k : Nat} (h : k < 20) : (numC b f)[1 + k]? = some (.int .u64 (f k)) := by
  rw [Nat.add_comm]; simp [numC, h]
def upd (f : Nat → Int) (k : Nat) (v : Int) : Nat → Int := fun i => if i = k then v else f i
theorem numC_set (b : Bool) (f : Nat → Int) {k : Nat} (h : k < 20) (v : Int) : (numC b f).setIfInBounds (1 + k) (.int .u64 v) = numC b (upd f k v) := by
  apply Array.ext_getElem?
  intro i
  rw [Array.getElem?_setIfInBounds]
  rcases Nat.eq_zero_or_pos i with rfl | hi
  · rw [if_neg (by omega), numC_zero, numC_zero]
  obtain ⟨j, rfl⟩ : ∃ j, i = 1 + j := ⟨i - 1, by omega⟩
  by_cases hj : j < 20
  · rw [numC_at b _ hj, numC_at b _ hj, numC_size]
    by_cases e : k = j
    · subst e; simp [upd]; omega
    · rw [if_neg (by omega)]; simp [upd, Ne.symm e]
  · rw [Array.getElem?_eq_none (by rw [numC_size]; omega), Array.getElem?_eq_none (by rw [numC_size]; omega)]
    by_cases e : 1 + k = 1 + j
    · omega
    · rw [if_neg e]
theorem numC_sign (b c : Bool) (f : Nat → Int) : (numC b f).setIfInBounds 0 (.bool c) = numC c f := by simp [numC]
/-- A number lies in block g. -/
def NumAt (w : World) (g : Nat) (b : Bool) (f : Nat → Int) : Prop := w.heap[g]? = some (.cells (numC b f) 91 (0, 0))
theorem NumAt.cell {w : World} {g : Nat} {b : Bool} {f : Nat → Int} (h : NumAt w g b f) {k : Nat} (hk : k < 20) : w.cell? ⟨g, 1 + k, none⟩ = some (.int .u64 (f k)) := by
  rw [cell_of_row w g _ _ _ _ h, numC_at b f hk]
theorem NumAt.cell0 {w : World} {g : Nat} {b : Bool} {f : Nat → Int} (h : NumAt w g b f) : w.cell? ⟨g, 0, none⟩ = some (.bool b) := by
  rw [cell_of_row w g _ _ _ _ h, numC_zero]
theorem NumAt.free {w : World} {g : Nat} {b : Bool} {f : Nat → Int} (h : NumAt w g b f) (j : Nat) : w.frozen? ⟨g, j, none⟩ = false := frozen_of_row w g j _ _ h
theorem NumAt.new (w : World) (b : Bool) (f : Nat → Int) {g : Nat} (hg : g = w.heap.size) : NumAt (w.alloc (.cells (numC b f) 91)) g b f := by subst hg; exact heap_alloc_new w _
theorem NumAt.lt {w : World} {g : Nat} {b : Bool} {f : Nat → Int} (h : NumAt w g b f) : g < w.heap.size := by
  rcases Nat.lt_or_ge g w.heap.size with h' | h'
  · exact h'
  · unfold NumAt at h; rw [Array.getElem?_eq_none h'] at h; cases h
theorem NumAt.below {w w' : World} {g B : Nat} {b : Bool} {f : Nat → Int} (h : NumAt w g b f) (hb : Below B w w') (hB : g < B) : NumAt w' g b f := (hb.block g hB).trans h
theorem NumAt.on {w w' : World} {g : Nat} {b : Bool} {f : Nat → Int} (h : NumAt w g b f) (hb : Below w.heap.size w w') : NumAt w' g b f := h.below hb h.lt
theorem NumAt.alloc {w : World} {g : Nat} {b : Bool} {f : Nat → Int} (h : NumAt w g b f) (o : Obj) : NumAt (w.alloc o) g b f := (heap_alloc_old _ _ h.lt).trans h
theorem NumAt.drew {w : World} {g : Nat} {b : Bool} {f : Nat → Int} (h : NumAt w g b f) : NumAt w.drew g b f := h
theorem NumAt.put {w : World} {g : Nat} {b : Bool} {f : Nat → Int} (h : NumAt w g b f) {k : Nat} (hk : k < 20) (v : Int) : NumAt (w.setCell ⟨g, 1 + k, none⟩ (.int .u64 v)) g b (upd f k v) :=
  (heap_setCell_same w g (1 + k) _ _ _ h).trans (by rw [numC_set b f hk])
theorem NumAt.other {w : World} {g : Nat} {b : Bool} {f : Nat → Int} (h : NumAt w g b f) (a : Addr) (v : Value) (hn : g ≠ a.block) : NumAt (w.setCell a v) g b f := (heap_setCell_other w a g v hn).trans h
def allZ (f : Nat → Int) : Bool := (List.range 20).all fun i => f i == 0
theorem allZ_true {f : Nat → Int} (h : ∀ i, i < 20 → f i = 0) : allZ f = true := by unfold allZ; rw [List.all_eq_true]; intro i hi; rw [h i (by simpa using hi)]; rfl
theorem allZ_false {f : Nat → Int} {k : Nat} (hk : k < 20) (h : f k ≠ 0) : allZ f = false := by
  cases e : allZ f
  · rfl
  · unfold allZ at e; rw [List.all_eq_true] at e; exact absurd (by simpa using e k (by simpa using hk)) h
set_option maxHeartbeats 1000000 in
theorem zero_any (b : Bool) (f : Nat → Int) (hf : ∀ i, i < 20 → 0 ≤ f i) (w : World) :
    Calls Tryd.prog 53 #[.agg (numC b f)] w fun e w' => e = .returned (.bool (allZ f)) ∧ Below w.heap.size w w' := by
  have Hf := Lib.hid hf
  clear hf
  have N0 : Hid (NumAt (w.alloc (.cells (numC b f) 91)) w.heap.size b f) := Lib.hid (NumAt.new _ b f rfl)
  go_enter Tryd.func53, Tryd.ntmps53
  go_wp2
  go_loop [3] (fun i => ∃ k : Nat, k ≤ 20 ∧ i = .int .i64 k ∧ Hid (∀ j, j < k → f j = 0)) (fun i => 20 - (intOf i).toNat)
  case atStart => exact ⟨0, by omega, rfl, Lib.hid (fun j h => absurd h (by omega))⟩
  case round =>
    obtain ⟨k, hk, rfl, hz⟩ := hrel
    by_cases hlt : k < 20
    · have c := N0.out.cell hlt
      have p := Hf.out k hlt
      by_cases hp : f k = 0
      · have kp : decide (0 < f k) = false := by simp; omega
        have Hp := Lib.hid hp
        clear hp
        go_wp2
        go_round
        case rel => exact ⟨k + 1, by omega, by go_num, Lib.hid (fun j hj => if h : j = k then h ▸ Hp.out else hz.out j (by omega))⟩
        case measure => simp [intOf]; omega
      · have kp : decide (0 < f k) = true := by simp; omega
        have Hp := Lib.hid (allZ_false hlt hp)
        clear hp
        go_wp2
        go_ret
        exact ⟨by rw [Hp.out]; rfl, by (repeat (first | exact Below.refl _ _ | assumption | (refine Below.drew ?_) | (refine Below.alloc ?_ (by first | (simp; done) | (simp; omega) | omega) _) | (refine Below.setCell ?_ (by first | (simp; done) | (simp; omega) | omega) _) | (refine Below.trans ?_ (Below.mono (by assumption) (by first | (simp; done) | (simp; omega) | omega)))))⟩
    · have Hp := Lib.hid (allZ_true (f := f) (fun i hi => hz.out i (by omega)))
      go_wp2
      go_ret
      exact ⟨by rw [Hp.out]; rfl, by (repeat (first | exact Below.refl _ _ | assumption | (refine Below.drew ?_) | (refine Below.alloc ?_ (by first | (simp; done) | (simp; omega) | omega) _) | (refine Below.setCell ?_ (by first | (simp; done) | (simp; omega) | omega) _) | (refine Below.trans ?_ (Below.mono (by assumption) (by first | (simp; done) | (simp; omega) | omega)))))⟩
/-! ### A whole number stored -/
theorem heap_setRow (w : World) (g k : Nat) (cs : Array Value) (h : k ≠ g) : (w.setRow g cs).heap[k]? = w.heap[k]? := by
  simp [World.setRow, Array.getElem?_modify, Ne.symm h]
theorem Below.setRow' {B : Nat} {a w : World} (h : Below B a w) {g : Nat} (hg : B ≤ g) (cs : Array Value) : Below B a (w.setRow g cs) :=
  h.trans ⟨rfl, rfl, rfl, by simp, fun k hk => heap_setRow w g k cs (by omega)⟩
theorem NumAt.whole {w : World} {g : Nat} {b c : Bool} {f e : Nat → Int} (h : NumAt w g b f) : NumAt (w.setRow g (numC c e)) g c e := by
  unfold NumAt at *
  simp [World.setRow, Array.getElem?_modify, h]
theorem NumAt.wholeOther {w : World} {g g' : Nat} {b : Bool} {f : Nat → Int} (h : NumAt w g b f) (cs : Array Value) (hn : g ≠ g') : NumAt (w.setRow g' cs) g b f := (heap_setRow w g' g cs hn).trans h
theorem numC_ok (b : Bool) (f : Nat → Int) : (numC b f).all (·.oneCell') = true := by
  rw [Array.all_eq_true_iff_forall_mem]
  intro v hv
  simp only [numC, List.mem_toArray, List.mem_cons, List.mem_map] at hv
  rcases hv with rfl | ⟨i, _, rfl⟩ <;> rfl
theorem infoN (b : Bool) (f : Nat → Int) : (Tryd.prog.info? 91).map (·.size) = some (numC b f).size := by rw [numC_size]; kernel_rfl
end Go.Proofs.YthmkfkmcamjnoaaDoor
namespace Go.Proofs.YthmkfkmcamjnoaaDoor
open Go.RowKit
/-- The piece j of a size. -/
def dig (m : Int) (j : Nat) : Int := m / 65536 ^ j % 65536
theorem numC_congr (b : Bool) {f g : Nat → Int} (h : ∀ i, i < 20 → f i = g i) : numC b f = numC b g := by
  unfold numC
  congr 2
  apply List.map_congr_left
  intro i hi
  rw [h i (by simpa using hi)]
theorem dig_bd (m : Int) (j : Nat) : 0 ≤ dig m j ∧ dig m j < 65536 := by unfold dig; omega
theorem pow_succ65 (j : Nat) : (65536 : Int) ^ (j + 1) = 65536 ^ j * 65536 := Int.pow_succ _ _
theorem pow_pos65 (j : Nat) : (0 : Int) < 65536 ^ j := Int.pow_pos (by decide)
theorem pow_mono65 {i j : Nat} (h : i ≤ j) : (65536 : Int) ^ i ≤ 65536 ^ j := by
  induction j with
  | zero => obtain rfl : i = 0 := by omega
            exact Int.le_refl _
  | succ n ih =>
    rcases (show i ≤ n ∨ i = n + 1 by omega) with h' | rfl
    · have := ih h'; have := pow_pos65 n; rw [pow_succ65]; omega
    · exact Int.le_refl _
theorem div_succ65 (m : Int) (j : Nat) : m / 65536 ^ (j + 1) = m / 65536 ^ j / 65536 := by
  rw [pow_succ65, Int.ediv_ediv_of_nonneg (Int.le_of_lt (pow_pos65 j))]
theorem dig_high {m : Int} {k j : Nat} (h0 : 0 ≤ m) (h : m < 65536 ^ k) (hj : k ≤ j) : dig m j = 0 := by
  unfold dig
  rw [Int.ediv_eq_zero_of_lt h0 (Int.lt_of_lt_of_le h (pow_mono65 hj))]
  rfl
theorem low_dig {x : Int} (h0 : 0 ≤ x) (h1 : x ≤ 18446744073709551615) (i : Nat) : (if i < 4 then dig x i else 0) = dig x i := by
  split
  · rfl
  · rw [dig_high (k := 4) h0 (by rw [show (65536 : Int) ^ 4 = 18446744073709551616 by decide]; omega) (by omega)]
/-- 0, as it is laid. -/
theorem numC_nought : numC false (fun _ => 0) = #[.bool false, .int .u64 0, .int .u64 0, .int .u64 0, .int .u64 0, .int .u64 0, .int .u64 0, .int .u64 0, .int .u64 0, .int .u64 0, .int .u64 0, .int .u64 0, .int .u64 0, .int .u64 0, .int .u64 0, .int .u64 0, .int .u64 0, .int .u64 0, .int .u64 0, .int .u64 0, .int .u64 0] := rfl
theorem upd_low (x : Int) (k : Nat) : upd (fun j => if j < k then dig x j else 0) k (x / 65536 ^ k % 65536) = fun j => if j < k + 1 then dig x j else 0 := by
  funext j
  unfold upd
  by_cases h : j = k
  · subst h; simp [dig]
  · by_cases h' : j < k
    · simp [h, h', show j < k + 1 by omega]
    · simp [h, h', show ¬ j < k + 1 by omega]
set_option maxHeartbeats 2000000 in
theorem num64_any (x : Int) (h0 : 0 ≤ x) (h1 : x ≤ 18446744073709551615) (w : World) :
    Calls Tryd.prog 52 #[.int .u64 x] w fun e w' => e = .returned (.agg (numC false (dig x))) ∧ Below w.heap.size w w' := by
  go_enter Tryd.func52, Tryd.ntmps52
  go_wp2_with (first
    | (refine wpList_store_row rfl 91 (.tmp 3) (.tmp 5) rfl (w.heap.size + 1) (numC false fun _ => 0) rfl rfl 91 (numC false fun _ => 0) ((NumAt.new (w.alloc (.cells (numC false fun _ => 0) 91)) false (fun _ => 0) (by simp))) (infoN _ _) rfl (numC_ok _ _) ?_))
  go_loopw [0, 4] (fun u i wr => ∃ k : Nat, k ≤ 4 ∧ i = .int .i64 k ∧ u = .int .u64 (x / 65536 ^ k) ∧ Hid (NumAt wr (w.heap.size + 1) false (fun j => if j < k then dig x j else 0)) ∧ Hid (NumAt wr w.heap.size false (fun _ => 0)) ∧ Hid (Below w.heap.size w wr)) (fun _ i _ => 4 - (intOf i).toNat)
  case atStart => exact ⟨0, by omega, rfl, by simp, Lib.hid ((NumAt.new _ false (fun _ => 0) (by simp)).whole), Lib.hid (((NumAt.new w false (fun _ => 0) rfl).alloc _).wholeOther _ (by omega)), Lib.hid (Below.setRow' (((Below.refl _ _).alloc (Nat.le_refl _) _).alloc (by simp) _) (by omega) _)⟩
  case round =>
    obtain ⟨k, hk, rfl, rfl, A, R, hb⟩ := hrel
    have u0 : 0 ≤ x / 65536 ^ k := Int.ediv_nonneg h0 (Int.le_of_lt (pow_pos65 k))
    have u1 : x / 65536 ^ k ≤ 18446744073709551615 := Int.le_trans (Int.ediv_le_self _ h0) h1
    by_cases hlt : k < 4
    · have c := A.out.cell (k := k) (by omega)
      have fz := A.out.free (1 + k)
      go_wp2
      go_roundw
      case rel => exact ⟨k + 1, by omega, by go_num, by rw [div_succ65], Lib.hid (upd_low x k ▸ A.out.put (by omega) _), Lib.hid (R.out.other _ _ (by simp)), Lib.hid (hb.out.setCell (by simp) _)⟩
      case measure => simp [intOf]; omega
    · obtain rfl : k = 4 := by omega
      have e : numC false (fun j => if j < 4 then dig x j else 0) = numC false (dig x) := numC_congr _ fun i _ => low_dig h0 h1 i
      have A' : Hid (wr.heap[w.heap.size + 1]? = some (.cells (numC false (dig x)) 91 (0, 0))) := Lib.hid (e ▸ A.out)
      clear e A
      go_wp2_with (first
        | (refine wpList_load_row rfl 91 (.tmp 3) rfl (w.heap.size + 1) rfl 91 (numC false (dig x)) (0, 0) _ A'.out Tryd.underlying91 rfl (infoN _ _) ?_)
        | (refine wpList_store_row rfl 91 (.tmp 2) (.tmp 17) rfl w.heap.size (numC false (dig x)) rfl rfl 91 (numC false fun _ => 0) R.out (infoN _ _) (by rw [numC_size, numC_size]) (numC_ok _ _) ?_))
      exact bodyPost_ret (results_cell_row (p := 2) rfl _ _ w.heap.size 91 (numC false (dig x)) (0, 0) _ rfl (R.out.whole) Tryd.underlying91 rfl (infoN _ _)) rfl (And.intro rfl (Below.setRow' hb.out (Nat.le_refl _) _))
/-- The size of a number of 64 bits. -/
def absN (x : Int) : Int := if x < 0 then -x else x
theorem absN_bd {x : Int} (h : -9223372036854775808 ≤ x ∧ x ≤ 9223372036854775807) : 0 ≤ absN x ∧ absN x ≤ 9223372036854775808 := by unfold absN; split <;> omega
/-- A number of the document's: whether below 0, and its size. -/
def pair0 (x : Int) : Bool := decide (x < 0)
set_option maxHeartbeats 2000000 in
theorem rof_any (x : Int) (h : -9223372036854775808 ≤ x ∧ x ≤ 9223372036854775807) (w : World) :
    Calls Tryd.prog 70 #[.int .i64 x] w fun e w' => e = .returned (.agg (numC (pair0 x) (dig (absN x)))) ∧ Below w.heap.size w w' := by
  have hab := absN_bd h
  obtain ⟨h0, h1⟩ := hab
  have e1 : ¬ x < 0 → IntKind.u64.wrap x = absN x := fun hx => by rw [IntKind.wrap_u64]; unfold absN; rw [if_neg hx]; omega
  have e2 : x < 0 → IntKind.u64.wrap (0 - IntKind.u64.wrap x) = absN x := fun hx => by rw [IntKind.wrap_u64, IntKind.wrap_u64]; unfold absN; rw [if_pos hx]; omega
  have e0 : pair0 x = decide (x < 0) := rfl
  rw [e0]
  generalize absN x = m at *
  by_cases hx : x < 0
  · have e3 := Lib.hid (e2 hx)
    rw [Int.zero_sub] at e3
    have k : decide (x < 0) = true := by simpa using hx
    rw [k]
    clear e1 e2 hx e0
    go_enter Tryd.func70, Tryd.ntmps70
    go_wp2_with (first
      | (refine wpList_store_row rfl 91 (.tmp 3) (.tmp 8) rfl (w.heap.size + 1) (numC true fun _ => 0) rfl rfl 91 (numC false fun _ => 0) ((NumAt.new (w.alloc (.cells (numC false fun _ => 0) 91)) false (fun _ => 0) (by simp))) (infoN _ _) rfl (numC_ok _ _) ?_))
    go_loopw [4, 5] (fun u i wr => ∃ k : Nat, k ≤ 4 ∧ i = .int .i64 k ∧ u = .int .u64 (m / 65536 ^ k) ∧ Hid (NumAt wr (w.heap.size + 1) true (fun j => if j < k then dig m j else 0)) ∧ Hid (NumAt wr w.heap.size false (fun _ => 0)) ∧ Hid (Below w.heap.size w wr)) (fun _ i _ => 4 - (intOf i).toNat)
    case atStart => exact ⟨0, by omega, rfl, by have h := e3.out; simp [h], Lib.hid ((NumAt.new _ false (fun _ => 0) (by simp)).whole), Lib.hid (((NumAt.new w false (fun _ => 0) rfl).alloc _).wholeOther _ (by omega)), Lib.hid (Below.setRow' (((Below.refl _ _).alloc (Nat.le_refl _) _).alloc (by simp) _) (by omega) _)⟩
    case round =>
      obtain ⟨k, hk, rfl, rfl, A, R, hb⟩ := hrel
      have u0 : 0 ≤ m / 65536 ^ k := Int.ediv_nonneg h0 (Int.le_of_lt (pow_pos65 k))
      have u1 : m / 65536 ^ k ≤ 9223372036854775808 := Int.le_trans (Int.ediv_le_self _ h0) h1
      by_cases hlt : k < 4
      · have c := A.out.cell (k := k) (by omega)
        have fz := A.out.free (1 + k)
        go_wp2
        go_roundw
        case rel => exact ⟨k + 1, by omega, by go_num, by rw [div_succ65], Lib.hid (upd_low m k ▸ A.out.put (by omega) _), Lib.hid (R.out.other _ _ (by simp)), Lib.hid (hb.out.setCell (by simp) _)⟩
        case measure => simp [intOf]; omega
      · obtain rfl : k = 4 := by omega
        have e : numC true (fun j => if j < 4 then dig m j else 0) = numC true (dig m) := numC_congr _ fun i _ => low_dig h0 (by omega) i
        have A' : Hid (wr.heap[w.heap.size + 1]? = some (.cells (numC true (dig m)) 91 (0, 0))) := Lib.hid (e ▸ A.out)
        clear e A
        go_wp2_with (first
          | (refine wpList_load_row rfl 91 (.tmp 3) rfl (w.heap.size + 1) rfl 91 (numC true (dig m)) (0, 0) _ A'.out Tryd.underlying91 rfl (infoN _ _) ?_)
          | (refine wpList_store_row rfl 91 (.tmp 2) (.tmp 26) rfl w.heap.size (numC true (dig m)) rfl rfl 91 (numC false fun _ => 0) R.out (infoN _ _) (by rw [numC_size, numC_size]) (numC_ok _ _) ?_))
        exact bodyPost_ret (results_cell_row (p := 2) rfl _ _ w.heap.size 91 (numC true (dig m)) (0, 0) _ rfl (R.out.whole) Tryd.underlying91 rfl (infoN _ _)) rfl (And.intro rfl (Below.setRow' hb.out (Nat.le_refl _) _))
  · have e3 := Lib.hid (e1 hx)
    have k : decide (x < 0) = false := by simpa using hx
    rw [k]
    clear e1 e2 hx e0
    go_enter Tryd.func70, Tryd.ntmps70
    go_wp2_with (first
      | (refine wpList_store_row rfl 91 (.tmp 3) (.tmp 8) rfl (w.heap.size + 1) (numC false fun _ => 0) rfl rfl 91 (numC false fun _ => 0) ((NumAt.new (w.alloc (.cells (numC false fun _ => 0) 91)) false (fun _ => 0) (by simp))) (infoN _ _) rfl (numC_ok _ _) ?_))
    go_loopw [4, 5] (fun u i wr => ∃ k : Nat, k ≤ 4 ∧ i = .int .i64 k ∧ u = .int .u64 (m / 65536 ^ k) ∧ Hid (NumAt wr (w.heap.size + 1) false (fun j => if j < k then dig m j else 0)) ∧ Hid (NumAt wr w.heap.size false (fun _ => 0)) ∧ Hid (Below w.heap.size w wr)) (fun _ i _ => 4 - (intOf i).toNat)
    case atStart => exact ⟨0, by omega, rfl, by have h := e3.out; simp [h], Lib.hid ((NumAt.new _ false (fun _ => 0) (by simp)).whole), Lib.hid (((NumAt.new w false (fun _ => 0) rfl).alloc _).wholeOther _ (by omega)), Lib.hid (Below.setRow' (((Below.refl _ _).alloc (Nat.le_refl _) _).alloc (by simp) _) (by omega) _)⟩
    case round =>
      obtain ⟨k, hk, rfl, rfl, A, R, hb⟩ := hrel
      have u0 : 0 ≤ m / 65536 ^ k := Int.ediv_nonneg h0 (Int.le_of_lt (pow_pos65 k))
      have u1 : m / 65536 ^ k ≤ 9223372036854775808 := Int.le_trans (Int.ediv_le_self _ h0) h1
      by_cases hlt : k < 4
      · have c := A.out.cell (k := k) (by omega)
        have fz := A.out.free (1 + k)
        go_wp2
        go_roundw
        case rel => exact ⟨k + 1, by omega, by go_num, by rw [div_succ65], Lib.hid (upd_low m k ▸ A.out.put (by omega) _), Lib.hid (R.out.other _ _ (by simp)), Lib.hid (hb.out.setCell (by simp) _)⟩
        case measure => simp [intOf]; omega
      · obtain rfl : k = 4 := by omega
        have e : numC false (fun j => if j < 4 then dig m j else 0) = numC false (dig m) := numC_congr _ fun i _ => low_dig h0 (by omega) i
        have A' : Hid (wr.heap[w.heap.size + 1]? = some (.cells (numC false (dig m)) 91 (0, 0))) := Lib.hid (e ▸ A.out)
        clear e A
        go_wp2_with (first
          | (refine wpList_load_row rfl 91 (.tmp 3) rfl (w.heap.size + 1) rfl 91 (numC false (dig m)) (0, 0) _ A'.out Tryd.underlying91 rfl (infoN _ _) ?_)
          | (refine wpList_store_row rfl 91 (.tmp 2) (.tmp 26) rfl w.heap.size (numC false (dig m)) rfl rfl 91 (numC false fun _ => 0) R.out (infoN _ _) (by rw [numC_size, numC_size]) (numC_ok _ _) ?_))
        exact bodyPost_ret (results_cell_row (p := 2) rfl _ _ w.heap.size 91 (numC false (dig m)) (0, 0) _ rfl (R.out.whole) Tryd.underlying91 rfl (infoN _ _)) rfl (And.intro rfl (Below.setRow' hb.out (Nat.le_refl _) _))
end Go.Proofs.YthmkfkmcamjnoaaDoor
namespace Go.Proofs.YthmkfkmcamjnoaaDoor
open Go.RowKit
/-- -1, 0 or 1. -/
def sgz (x y : Int) : Int := if x < y then -1 else if y < x then 1 else 0
/-- A size of 20 pieces. -/
def Sz (m : Int) : Prop := 0 ≤ m ∧ m < 65536 ^ 20
theorem step65 (m : Int) (j : Nat) : m / 65536 ^ j = m / 65536 ^ (j + 1) * 65536 + dig m j := by
  rw [div_succ65]; unfold dig; omega
theorem lt_of_dig {m n : Int} {j : Nat} (h : m / 65536 ^ (j + 1) = n / 65536 ^ (j + 1)) (hd : dig m j < dig n j) : m < n := by
  have h1 := step65 m j
  have h2 := step65 n j
  rw [h] at h1
  refine Int.lt_of_not_ge fun hge => ?_
  have := Int.ediv_le_ediv (pow_pos65 j) hge
  omega
theorem eq_of_dig {m n : Int} {j : Nat} (h : m / 65536 ^ (j + 1) = n / 65536 ^ (j + 1)) (hd : dig m j = dig n j) : m / 65536 ^ j = n / 65536 ^ j := by
  rw [step65 m j, step65 n j, h, hd]
theorem top65 {m n : Int} (hm : Sz m) (hn : Sz n) : m / 65536 ^ 20 = n / 65536 ^ 20 := by rw [Int.ediv_eq_zero_of_lt hm.1 hm.2, Int.ediv_eq_zero_of_lt hn.1 hn.2]
def SizeInv (m n : Int) (i : Value) : Prop := (∃ j : Nat, j < 20 ∧ i = .int .i64 j ∧ m / 65536 ^ (j + 1) = n / 65536 ^ (j + 1)) ∨ (i = .int .i64 (-1) ∧ m = n)
set_option maxHeartbeats 2000000 in
theorem size_any (b c : Bool) (m n : Int) (hm : Sz m) (hn : Sz n) (w : World) :
    Calls Tryd.prog 57 #[.agg (numC b (dig m)), .agg (numC c (dig n))] w fun e w' => e = .returned (.int .i64 (sgz m n)) ∧ Below w.heap.size w w' := by
  have T := Lib.hid (top65 hm hn)
  have A : Hid (NumAt ((w.alloc (.cells (numC b (dig m)) 91)).alloc (.cells (numC c (dig n)) 91)) w.heap.size b (dig m)) := Lib.hid ((NumAt.new w b (dig m) rfl).alloc _)
  have B : Hid (NumAt ((w.alloc (.cells (numC b (dig m)) 91)).alloc (.cells (numC c (dig n)) 91)) (w.heap.size + 1) c (dig n)) := Lib.hid (NumAt.new _ c (dig n) (by simp))
  have W : Hid (Below w.heap.size w ((w.alloc (.cells (numC b (dig m)) 91)).alloc (.cells (numC c (dig n)) 91))) := Lib.hid (by (repeat (first | (with_reducible exact Below.refl _ _) | (with_reducible assumption) | (with_reducible refine Below.drew ?_) | (with_reducible refine below_drewN ?_ _) | ((with_reducible refine Below.alloc ?_ ?_ _); rotate_left; (focus (first | (simp; done) | (simp; omega) | omega))) | ((with_reducible refine Below.setCell ?_ ?_ _); rotate_left; (focus (first | (simp; done) | (simp; omega) | omega))) | ((with_reducible refine Below.trans ?_ (Below.mono (by assumption) ?_)); rotate_left; (focus (first | (simp; done) | (simp; omega) | omega))))))
  clear hm hn
  go_enter Tryd.func57, Tryd.ntmps57
  go_upto_region 1 with fail
  generalize (w.alloc (.cells (numC b (dig m)) 91)).alloc (.cells (numC c (dig n)) 91) = w0 at *
  go_wp2
  go_loopw [5] (fun i wr => SizeInv m n i ∧ ∃ d, wr = w0.drewN d) (fun i _ => (intOf i + 1).toNat)
  case atStart => exact ⟨.inl ⟨19, by omega, rfl, T.out⟩, 0, rfl⟩
  case round =>
    obtain ⟨hi, d, rfl⟩ := hrel
    rcases hi with ⟨j, hj, rfl, he⟩ | ⟨rfl, he⟩
    · have He := Lib.hid he
      clear he
      have c1 := A.out.cell hj
      have c2 := B.out.cell hj
      have d1 := dig_bd m j
      have d2 := dig_bd n j
      rcases Int.lt_trichotomy (dig m j) (dig n j) with h | h | h
      · have k1 : decide (dig m j < dig n j) = true := by simpa using h
        have Hf := Lib.hid (lt_of_dig He.out h)
        clear h
        go_wp2
        go_quiet (fail)
        go_wp2
        go_ret
        exact ⟨by rw [show sgz m n = -1 from if_pos Hf.out]; rfl, by (repeat (first | exact Below.refl _ _ | assumption | (refine Below.drew ?_) | (refine below_drewN ?_ _) | (refine Below.alloc ?_ (by first | (simp; done) | (simp; omega) | omega) _) | (refine Below.setCell ?_ (by first | (simp; done) | (simp; omega) | omega) _) | (refine Below.trans ?_ (Below.mono (by assumption) (by first | (simp; done) | (simp; omega) | omega)))))⟩
      · have k1 : decide (dig m j < dig n j) = false := by simp; omega
        have k2 : decide (dig n j < dig m j) = false := by simp; omega
        have Hf := Lib.hid (eq_of_dig He.out h)
        clear h
        go_wp2
        go_quiet (fail)
        go_wp2
        go_quiet (fail)
        go_wp2
        go_roundw
        case rel =>
          refine ⟨?_, _, rfl⟩
          rcases Nat.eq_zero_or_pos j with rfl | hp
          · exact .inr ⟨rfl, by have := Hf.out; simpa using this⟩
          · exact .inl ⟨j - 1, by omega, by rw [show ((j - 1 : Nat) : Int) = (j : Int) - 1 by omega], by rw [show j - 1 + 1 = j by omega]; exact Hf.out⟩
        case measure => simp [intOf]
      · have k1 : decide (dig m j < dig n j) = false := by simp; omega
        have k2 : decide (dig n j < dig m j) = true := by simpa using h
        have Hf := Lib.hid (lt_of_dig He.out.symm h)
        clear h
        go_wp2
        go_quiet (fail)
        go_wp2
        go_quiet (fail)
        go_wp2
        go_ret
        exact ⟨by rw [show sgz m n = 1 from by have := Hf.out; unfold sgz; rw [if_neg (by omega), if_pos this]]; rfl, by (repeat (first | exact Below.refl _ _ | assumption | (refine Below.drew ?_) | (refine below_drewN ?_ _) | (refine Below.alloc ?_ (by first | (simp; done) | (simp; omega) | omega) _) | (refine Below.setCell ?_ (by first | (simp; done) | (simp; omega) | omega) _) | (refine Below.trans ?_ (Below.mono (by assumption) (by first | (simp; done) | (simp; omega) | omega)))))⟩
    · have He := Lib.hid he
      clear he
      go_wp2
      go_ret
      exact ⟨by rw [show sgz m n = 0 from by have := He.out; unfold sgz; rw [if_neg (by omega), if_neg (by omega)]]; rfl, by (repeat (first | exact Below.refl _ _ | assumption | (refine Below.drew ?_) | (refine below_drewN ?_ _) | (refine Below.alloc ?_ (by first | (simp; done) | (simp; omega) | omega) _) | (refine Below.setCell ?_ (by first | (simp; done) | (simp; omega) | omega) _) | (refine Below.trans ?_ (Below.mono (by assumption) (by first | (simp; done) | (simp; omega) | omega)))))⟩
theorem NumAt.sign {w : World} {g : Nat} {b : Bool} {f : Nat → Int} (h : NumAt w g b f) (c : Bool) : NumAt (w.setCell ⟨g, 0, none⟩ (.bool c)) g c f :=
  (heap_setCell_same w g 0 _ _ _ h).trans (by rw [numC_sign])
set_option maxHeartbeats 1000000 in
theorem rneg_any (b : Bool) (f : Nat → Int) (w : World) :
    Calls Tryd.prog 50 #[.agg (numC b f)] w fun e w' => e = .returned (.agg (numC (!b) f)) ∧ Below w.heap.size w w' := by
  have A : Hid (NumAt ((w.alloc (.cells (numC b f) 91)).alloc (.cells (numC false fun _ => 0) 91)) w.heap.size b f) := Lib.hid ((NumAt.new w b f rfl).alloc _)
  have R : Hid (NumAt ((w.alloc (.cells (numC b f) 91)).alloc (.cells (numC false fun _ => 0) 91)) (w.heap.size + 1) false fun _ => 0) := Lib.hid (NumAt.new _ false _ (by simp))
  have W : Hid (Below w.heap.size w ((w.alloc (.cells (numC b f) 91)).alloc (.cells (numC false fun _ => 0) 91))) := Lib.hid (by (repeat (first | (with_reducible exact Below.refl _ _) | (with_reducible assumption) | (with_reducible refine Below.drew ?_) | (with_reducible refine below_drewN ?_ _) | ((with_reducible refine Below.alloc ?_ ?_ _); rotate_left; (focus (first | (simp; done) | (simp; omega) | omega))) | ((with_reducible refine Below.setCell ?_ ?_ _); rotate_left; (focus (first | (simp; done) | (simp; omega) | omega))) | ((with_reducible refine Below.trans ?_ (Below.mono (by assumption) ?_)); rotate_left; (focus (first | (simp; done) | (simp; omega) | omega))))))
  go_enter Tryd.func50, Tryd.ntmps50
  go_upto_region 1 with fail
  rw [← numC_nought]
  generalize (w.alloc (.cells (numC b f) 91)).alloc (.cells (numC false fun _ => 0) 91) = w0 at *
  have c0 := A.out.cell0
  have f0 := A.out.free 0
  have A1 := Lib.hid (A.out.sign (!b))
  have R1 := Lib.hid (R.out.other ⟨w.heap.size, 0, none⟩ (.bool (!b)) (by simp))
  go_wp2_with (first
    | (refine wpList_load_row rfl 91 (.tmp 1) rfl w.heap.size rfl 91 (numC (!b) f) (0, 0) _ A1.out Tryd.underlying91 rfl (infoN _ _) ?_)
    | (refine wpList_store_row rfl 91 (.tmp 2) (.tmp 7) rfl (w.heap.size + 1) (numC (!b) f) rfl rfl 91 (numC false fun _ => 0) R1.out (infoN _ _) (by rw [numC_size, numC_size]) (numC_ok _ _) ?_))
  exact bodyPost_ret (results_cell_row (p := 2) rfl _ _ (w.heap.size + 1) 91 (numC (!b) f) (0, 0) _ rfl (R1.out.whole) Tryd.underlying91 rfl (infoN _ _)) rfl (And.intro rfl (Below.setRow' (W.out.setCell (by simp) _) (by simp) _))
/-- Which is below 0, and which is greater, of two numbers that are told by sign and size. -/
def ngz (b : Bool) (m : Int) : Bool := b && !decide (m = 0)
def vz (b : Bool) (m : Int) : Int := if b then -m else m
theorem allZ_dig {m : Int} (h : Sz m) : allZ (dig m) = decide (m = 0) := by
  by_cases e : m = 0
  · subst e
    rw [allZ_true (fun i _ => by unfold dig; simp)]; simp
  · have hn : decide (m = 0) = false := by simpa using e
    rw [hn]
    cases ha : allZ (dig m)
    · rfl
    · exfalso
      have hz : ∀ i, i < 20 → dig m i = 0 := fun i hi => by
        cases hd : decide (dig m i = 0)
        · have := allZ_false hi (by simpa using hd); rw [ha] at this; cases this
        · simpa using hd
      have hk : ∀ k, k ≤ 20 → m / 65536 ^ (20 - k) = 0 := by
        intro k
        induction k with
        | zero => intro _; exact Int.ediv_eq_zero_of_lt h.1 h.2
        | succ n ih =>
          intro hn
          have e1 := ih (by omega)
          have e2 := step65 m (20 - (n + 1))
          rw [show 20 - (n + 1) + 1 = 20 - n by omega, e1, hz _ (by omega)] at e2
          rw [e2]; rfl
      exact e (by simpa using hk 20 (by omega))
theorem rzero_any (b : Bool) (m : Int) (h : Sz m) (w : World) :
    Calls Tryd.prog 53 #[.agg (numC b (dig m))] w fun e w' => e = .returned (.bool (decide (m = 0))) ∧ Below w.heap.size w w' := by
  have := zero_any b (dig m) (fun i _ => (dig_bd m i).1) w
  rw [allZ_dig h] at this
  exact this
end Go.Proofs.YthmkfkmcamjnoaaDoor
namespace Go.Proofs.YthmkfkmcamjnoaaDoor
open Go.RowKit
section
variable {ops : Array Oper} {rest : List Oper} {o : Oper} {a : Act} {w : World} {Q : Exit → Act → World → Prop}
/-- A whole number is loaded. -/
theorem load_num (hw : Region.wanted o (yielded ops a.tmps) = true) (x : Operand) (ho : o.op = .load 91 x) (g : Nat) (hx : a.eval x = .pointer (some ⟨g, 0, none⟩)) (b : Bool) (f : Nat → Int)
    (hN : NumAt w g b f) (h : wpList Tryd.prog ops Q rest (a.put o.dst (.agg (numC b f))) w) : wpList Tryd.prog ops Q (o :: rest) a w :=
  BigFrame.wpList_want hw fun _ hK => wp_load_row 91 x ho g hx 91 (numC b f) (0, 0) _ hN Tryd.underlying91 rfl (infoN _ _) (hK _ _ h)
/-- A whole number is stored. -/
theorem store_num (hw : Region.wanted o (yielded ops a.tmps) = true) (x y : Operand) (ho : o.op = .store 91 x y) (g : Nat) (hx : a.eval x = .pointer (some ⟨g, 0, none⟩)) (b : Bool) (f : Nat → Int) (hy : a.eval y = .agg (numC b f))
    (c : Bool) (e : Nat → Int) (hN : NumAt w g c e) (h : wpList Tryd.prog ops Q rest (a.put o.dst undef) (w.setRow g (numC b f))) : wpList Tryd.prog ops Q (o :: rest) a w :=
  BigFrame.wpList_want hw fun _ hK => wp_store_row 91 x y ho g (numC b f) hx hy 91 (numC c e) hN (infoN _ _) (by rw [numC_size, numC_size]) (numC_ok _ _) (hK _ _ h)
end
theorem rzero_at (b : Bool) (m : Int) (z : Bool) (h : Sz m) (hz : decide (m = 0) = z) (w : World) :
    Calls Tryd.prog 53 #[.agg (numC b (dig m))] w fun e w' => e = .returned (.bool z) ∧ Below w.heap.size w w' := hz ▸ rzero_any b m h w
theorem cmp_val (b c : Bool) (m n : Int) (hm : Sz m) (hn : Sz n) : sgz (vz b m) (vz c n) =
    if ngz b m = ngz c n then (if ngz b m then sgz n m else sgz m n) else (if ngz b m then -1 else 1) := by
  have := hm.1; have := hn.1
  unfold sgz vz ngz
  cases b <;> cases c <;> by_cases h1 : m = 0 <;> by_cases h2 : n = 0 <;> simp [h1, h2] <;> (repeat' split) <;> omega
set_option maxHeartbeats 4000000 in
theorem rcmp_any (b c : Bool) (m n : Int) (hm : Sz m) (hn : Sz n) (w : World) :
    Calls Tryd.prog 72 #[.agg (numC b (dig m)), .agg (numC c (dig n))] w fun e w' => e = .returned (.int .i64 (sgz (vz b m) (vz c n))) ∧ Below w.heap.size w w' := by
  have V := Lib.hid (cmp_val b c m n hm hn)
  have Hm := Lib.hid hm
  have Hn := Lib.hid hn
  have A : Hid (NumAt ((w.alloc (.cells (numC b (dig m)) 91)).alloc (.cells (numC c (dig n)) 91)) w.heap.size b (dig m)) := Lib.hid ((NumAt.new w b (dig m) rfl).alloc _)
  have B : Hid (NumAt ((w.alloc (.cells (numC b (dig m)) 91)).alloc (.cells (numC c (dig n)) 91)) (w.heap.size + 1) c (dig n)) := Lib.hid (NumAt.new _ c (dig n) (by simp))
  have W : Hid (Below w.heap.size w ((w.alloc (.cells (numC b (dig m)) 91)).alloc (.cells (numC c (dig n)) 91))) := Lib.hid (by (repeat (first | (with_reducible exact Below.refl _ _) | (with_reducible assumption) | (with_reducible refine Below.drew ?_) | (with_reducible refine below_drewN ?_ _) | ((with_reducible refine Below.alloc ?_ ?_ _); rotate_left; (focus (first | (simp; done) | (simp; omega) | omega))) | ((with_reducible refine Below.setCell ?_ ?_ _); rotate_left; (focus (first | (simp; done) | (simp; omega) | omega))) | ((with_reducible refine Below.trans ?_ (Below.mono (by assumption) ?_)); rotate_left; (focus (first | (simp; done) | (simp; omega) | omega))))))
  clear hm hn
  go_enter Tryd.func72, Tryd.ntmps72
  go_upto_region 1 with fail
  generalize (w.alloc (.cells (numC b (dig m)) 91)).alloc (.cells (numC c (dig n)) 91) = w0 at *
  go_cut [11] from 5 to 11 (fun v wr => v = .bool (ngz b m) ∧ NumAt wr w.heap.size (ngz b m) (dig m) ∧ NumAt wr (w.heap.size + 1) c (dig n) ∧ Below w.heap.size w wr)
  case first =>
    have c0 := A.out.cell0
    have f0 := A.out.free 0
    cases b
    · have A1 := Lib.hid (A.out.sign false)
      have B1 := Lib.hid (B.out.other ⟨w.heap.size, 0, none⟩ (.bool false) (by simp))
      go_wp2
      go_meet
      exact ⟨rfl, A1.out, B1.out, W.out.setCell (by simp) _⟩
    · cases hz : decide (m = 0)
      · have Z := Lib.hid (fun w => rzero_at true m false Hm.out hz w)
        have Hz := Lib.hid hz
        clear hz
        go_wp2_with (first
          | (refine load_num rfl (.tmp 2) rfl w.heap.size rfl _ _ A.out ?_)
          | (go_at_call 53; refine (Z.out _).mono ?_; rintro e w1 ⟨rfl, hb⟩; have c1 := (A.out.on hb).cell0; have f1 := (A.out.on hb).free 0))
        go_meet
        exact ⟨by rw [show ngz true m = true from by unfold ngz; rw [Hz.out]; rfl], by rw [show ngz true m = true from by unfold ngz; rw [Hz.out]; rfl]; exact (A.out.on hb).sign true, (B.out.on hb).other _ _ (by simp), (W.out.trans (hb.mono W.out.size)).setCell (by simp) _⟩
      · have Z := Lib.hid (fun w => rzero_at true m true Hm.out hz w)
        have Hz := Lib.hid hz
        clear hz
        go_wp2_with (first
          | (refine load_num rfl (.tmp 2) rfl w.heap.size rfl _ _ A.out ?_)
          | (go_at_call 53; refine (Z.out _).mono ?_; rintro e w1 ⟨rfl, hb⟩; have c1 := (A.out.on hb).cell0; have f1 := (A.out.on hb).free 0))
        go_meet
        exact ⟨by rw [show ngz true m = false from by unfold ngz; rw [Hz.out]; rfl], by rw [show ngz true m = false from by unfold ngz; rw [Hz.out]; rfl]; exact (A.out.on hb).sign false, (B.out.on hb).other _ _ (by simp), (W.out.trans (hb.mono W.out.size)).setCell (by simp) _⟩
  case rest =>
  obtain ⟨rfl, hA, hB, hW⟩ := hcut
  obtain ⟨w2, rfl⟩ : ∃ v : World, v = wc := ⟨_, rfl⟩
  have A2 := Lib.hid hA
  have B2 := Lib.hid hB
  have W2 := Lib.hid hW
  clear A B W hA hB hW
  go_upto_region 2 with fail
  go_cut [19] from 13 to 19 (fun v wr => v = .bool (ngz c n) ∧ NumAt wr w.heap.size (ngz b m) (dig m) ∧ NumAt wr (w.heap.size + 1) (ngz c n) (dig n) ∧ Below w.heap.size w wr)
  case first =>
    have c0 := B2.out.cell0
    have f0 := B2.out.free 0
    cases c
    · have B1 := Lib.hid (B2.out.sign false)
      have A1 := Lib.hid (A2.out.other ⟨w.heap.size + 1, 0, none⟩ (.bool false) (by simp))
      go_wp2
      go_meet
      exact ⟨rfl, A1.out, B1.out, W2.out.setCell (by simp) _⟩
    · cases hz : decide (n = 0)
      · have Z := Lib.hid (fun w => rzero_at true n false Hn.out hz w)
        have Hz := Lib.hid hz
        clear hz
        go_wp2_with (first
          | (refine load_num rfl (.tmp 3) rfl (w.heap.size + 1) rfl _ _ B2.out ?_)
          | (go_at_call 53; refine (Z.out _).mono ?_; rintro e w1 ⟨rfl, hb⟩; have c1 := (B2.out.on hb).cell0; have f1 := (B2.out.on hb).free 0))
        go_meet
        exact ⟨by rw [show ngz true n = true from by unfold ngz; rw [Hz.out]; rfl], (A2.out.on hb).other _ _ (by simp), by rw [show ngz true n = true from by unfold ngz; rw [Hz.out]; rfl]; exact (B2.out.on hb).sign true, (W2.out.trans (hb.mono W2.out.size)).setCell (by simp) _⟩
      · have Z := Lib.hid (fun w => rzero_at true n true Hn.out hz w)
        have Hz := Lib.hid hz
        clear hz
        go_wp2_with (first
          | (refine load_num rfl (.tmp 3) rfl (w.heap.size + 1) rfl _ _ B2.out ?_)
          | (go_at_call 53; refine (Z.out _).mono ?_; rintro e w1 ⟨rfl, hb⟩; have c1 := (B2.out.on hb).cell0; have f1 := (B2.out.on hb).free 0))
        go_meet
        exact ⟨by rw [show ngz true n = false from by unfold ngz; rw [Hz.out]; rfl], (A2.out.on hb).other _ _ (by simp), by rw [show ngz true n = false from by unfold ngz; rw [Hz.out]; rfl]; exact (B2.out.on hb).sign false, (W2.out.trans (hb.mono W2.out.size)).setCell (by simp) _⟩
  case rest =>
  obtain ⟨rfl, hA, hB, hW⟩ := hcut
  obtain ⟨w3, rfl⟩ : ∃ v : World, v = wc := ⟨_, rfl⟩
  have S1 := Lib.hid (fun w => size_any (ngz b m) (ngz c n) m n Hm.out Hn.out w)
  have S2 := Lib.hid (fun w => size_any (ngz c n) (ngz b m) n m Hn.out Hm.out w)
  have A3 := Lib.hid hA
  have B3 := Lib.hid hB
  have W3 := Lib.hid hW
  clear A2 B2 W2 hA hB hW
  have V' := V.out
  clear V
  generalize hb1 : ngz b m = s1 at *
  generalize hb2 : ngz c n = s2 at *
  clear hb1 hb2
  have a0 := A3.out.cell0
  have b0 := B3.out.cell0
  cases s1 <;> cases s2
  · have V := Lib.hid (show sgz (vz b m) (vz c n) = sgz m n by simpa using V')
    clear V'
    go_wp2_with (first
      | (refine load_num rfl (.tmp 2) rfl w.heap.size rfl _ _ A3.out ?_)
      | (refine load_num rfl (.tmp 3) rfl (w.heap.size + 1) rfl _ _ B3.out ?_)
      | (go_at_call 57; refine (S1.out _).mono ?_; rintro e w1 ⟨rfl, hb⟩))
    go_ret
    exact ⟨by rw [V.out]; rfl, W3.out.trans (hb.mono W3.out.size)⟩
  · have V := Lib.hid (show sgz (vz b m) (vz c n) = 1 by simpa using V')
    clear V'
    go_wp2
    go_ret
    exact ⟨by rw [V.out]; rfl, W3.out⟩
  · have V := Lib.hid (show sgz (vz b m) (vz c n) = -1 by simpa using V')
    clear V'
    go_wp2
    go_ret
    exact ⟨by rw [V.out]; rfl, W3.out⟩
  · have V := Lib.hid (show sgz (vz b m) (vz c n) = sgz n m by simpa using V')
    clear V'
    go_wp2_with (first
      | (refine load_num rfl (.tmp 2) rfl w.heap.size rfl _ _ A3.out ?_)
      | (refine load_num rfl (.tmp 3) rfl (w.heap.size + 1) rfl _ _ B3.out ?_)
      | (go_at_call 57; refine (S2.out _).mono ?_; rintro e w1 ⟨rfl, hb⟩))
    go_ret
    exact ⟨by rw [V.out]; rfl, W3.out.trans (hb.mono W3.out.size)⟩
end Go.Proofs.YthmkfkmcamjnoaaDoor
