/-
  Package pcap: row, Den; the magic numbers as the package variable has them; begins.
  Package pcap: Magic.
  Package pcap: begins. Written by tools/gen8b.py.
  Package pcap: Open.
-/
import Derived.Test.YthmkfkmcamjnoaaDoorPcap
import Derived.Test.YthmkfkmcamjnoaaDoorOctB
namespace Go.Proofs.YthmkfkmcamjnoaaDoor
open Go.RowKit Go.Sort
set_option maxRecDepth 8000
/-- The package variable of the magic numbers. -/
def Mags (w : World) : Prop :=
  w.cell? ⟨0, 0, none⟩ = some (.int .u64 2712847316) ∧ w.cell? ⟨0, 1, none⟩ = some (.int .u64 2712812621) ∧
  w.cell? ⟨0, 2, none⟩ = some (.int .u64 3569595041) ∧ w.cell? ⟨0, 3, none⟩ = some (.int .u64 1295823521) ∧ 0 < w.heap.size
theorem Mags.below {w w' : World} (h : Mags w) (hb : Below w.heap.size w w') : Mags w' := by
  obtain ⟨a, b, c, d, e⟩ := h
  have := hb.size
  exact ⟨by rw [hb.cell (by exact e)]; exact a, by rw [hb.cell (by exact e)]; exact b, by rw [hb.cell (by exact e)]; exact c, by rw [hb.cell (by exact e)]; exact d, by omega⟩
set_option maxHeartbeats 1000000 in
theorem t_row (a b : Bool) (k s : Nat) (ad : Option Addr) (n c : Nat) (w : World) :
    Calls Tryd.prog 25 #[(.agg #[.bool a, .bool b, .int .u16 k, .int .u32 s]), .slice ad n c] w fun e w' => e = .returned (.agg #[.slice ad n c, .bool a]) ∧ Below w.heap.size w w' := by
  go_enter Tryd.func25, Tryd.ntmps25
  go_wp2
  refine bodyPost_ret (v := .agg #[.slice ad n c, .bool a]) (by simp [results, Tryd.results25, go_sem]) rfl ⟨rfl, ?_⟩
  exact by (repeat (first | exact Below.refl _ _ | assumption | (refine Below.drew ?_) | (refine Below.alloc ?_ (by first | (simp; done) | (simp; omega) | omega) _) | (refine Below.setCell ?_ (by first | (simp; done) | (simp; omega) | omega) _) | (refine Below.trans ?_ (Below.mono (by assumption) (by first | (simp; done) | (simp; omega) | omega)))))
set_option maxHeartbeats 1000000 in
theorem t_den (a b : Bool) (k s : Nat) (w : World) :
    Calls Tryd.prog 12 #[(.agg #[.bool a, .bool b, .int .u16 k, .int .u32 s])] w fun e w' => e = .returned (.int .u64 (den b)) ∧ Below w.heap.size w w' := by
  cases b
  all_goals
    go_enter Tryd.func12, Tryd.ntmps12
    go_wp2
    go_ret
    exact ⟨rfl, by (repeat (first | exact Below.refl _ _ | assumption | (refine Below.drew ?_) | (refine Below.alloc ?_ (by first | (simp; done) | (simp; omega) | omega) _) | (refine Below.setCell ?_ (by first | (simp; done) | (simp; omega) | omega) _) | (refine Below.trans ?_ (Below.mono (by assumption) (by first | (simp; done) | (simp; omega) | omega)))))⟩
/-! ### begins -/
def magI : Nat → Nat
  | 0 => 2712847316
  | 1 => 2712812621
  | 2 => 3569595041
  | _ => 1295823521
def hits (l : List UInt8) (j : Nat) : Bool := decide (magI j / 256 ^ (4 - min l.length 4) = gv l false 0 (min l.length 4 : Nat))
theorem le_inj {a b : List UInt8} (h : a.length = b.length) (e : le a = le b) : a = b := by rw [← low_le a, ← low_le b, h, e]
theorem mag_cut (l : List UInt8) (a b : Bool) (M : Nat) (hM : M = le (magicL a b).reverse) : decide (M / 256 ^ (4 - min l.length 4) = gv l false 0 (min l.length 4 : Nat)) = begins l a b := by
  subst hM
  have hm : min l.length 4 ≤ 4 := Nat.min_le_right _ _
  have hl : min l.length 4 ≤ l.length := Nat.min_le_left _ _
  unfold begins
  generalize min l.length 4 = m at *
  have L := magicL_length a b
  have e1 : le (magicL a b).reverse / 256 ^ (4 - m) = le ((magicL a b).take m).reverse := by
    rw [← le_drop]
    congr 1
    apply List.ext_getElem
    · simp [L]; omega
    · intro j h1 h2
      simp [L]; congr 1; omega
  have e2 : gv l false 0 (m : Nat) = le (l.take m).reverse := by
    unfold gv gok
    rw [if_pos (by simp; omega)]
    simp [ord]
  rw [e1, e2]
  congr 1
  apply propext
  constructor
  · intro h
    have := le_inj (by simp [L]; omega) h
    simpa using this
  · intro h; rw [h]
theorem hits_0 (l : List UInt8) : hits l 0 = begins l false false := mag_cut l false false 2712847316 (by decide)
theorem hits_1 (l : List UInt8) : hits l 1 = begins l false true := mag_cut l false true 2712812621 (by decide)
theorem hits_2 (l : List UInt8) : hits l 2 = begins l true false := mag_cut l true false 3569595041 (by decide)
theorem hits_3 (l : List UInt8) : hits l 3 = begins l true true := mag_cut l true true 1295823521 (by decide)
theorem which_isSome (l : List UInt8) : (which l).isSome = (hits l 0 || hits l 1 || hits l 2 || hits l 3) := by
  rw [hits_0, hits_1, hits_2, hits_3]
  unfold which
  cases begins l false false <;> cases begins l true false <;> cases begins l false true <;> cases begins l true true <;> simp
end Go.Proofs.YthmkfkmcamjnoaaDoor
namespace Go.Proofs.YthmkfkmcamjnoaaDoor
open Go.RowKit Go.Sort
set_option maxRecDepth 8000
def magicS (l : List UInt8) : (Bool × Bool) × Bool := if 4 ≤ l.length then (match which l with | some p => (p, true) | none => ((false, false), false)) else ((false, false), false)
def magN4 (a b : Bool) : Nat := if a then (if b then 1295823521 else 3569595041) else (if b then 2712812621 else 2712847316)
theorem gv4 (l : List UInt8) (h : 4 ≤ l.length) (a b : Bool) : decide (magN4 a b = gv l false 0 4) = begins l a b := by
  have e : min l.length 4 = 4 := Nat.min_eq_right h
  cases a <;> cases b
  · rw [← hits_0]; simp [hits, magI, magN4, e]
  · rw [← hits_1]; simp [hits, magI, magN4, e]
  · rw [← hits_2]; simp [hits, magI, magN4, e]
  · rw [← hits_3]; simp [hits, magI, magN4, e]
theorem magic_num (l : List UInt8) : (∃ a b, magicS l = ((a, b), true) ∧ gv l false 0 4 = magN4 a b) ∨ (magicS l = ((false, false), false) ∧ gv l false 0 4 ≠ 1295823521 ∧ gv l false 0 4 ≠ 3569595041 ∧ gv l false 0 4 ≠ 2712812621 ∧ gv l false 0 4 ≠ 2712847316) := by
  by_cases h : 4 ≤ l.length
  · cases hw : which l with
    | none =>
      right
      refine ⟨by unfold magicS; rw [if_pos h, hw], ?_⟩
      have k : ∀ a b, gv l false 0 4 ≠ magN4 a b := fun a b e => by
        have := which_none hw a b
        rw [← gv4 l h, e] at this
        simp at this
      exact ⟨k true true, k true false, k false true, k false false⟩
    | some p =>
      left
      obtain ⟨a, b⟩ := p
      refine ⟨a, b, by unfold magicS; rw [if_pos h, hw], ?_⟩
      have := which_begins hw
      rw [← gv4 l h] at this
      exact (of_decide_eq_true this).symm
  · right
    have e : gv l false 0 4 = 0 := by unfold gv gok; rw [if_neg (by simp; omega)]
    rw [e]
    exact ⟨by unfold magicS; rw [if_neg h], by omega, by omega, by omega, by omega⟩
/-- A struct of four cells in a block of the call's own. -/
theorem row4 {w : World} {p : Nat} {v0 v1 v2 v3 : Value} {T : TypeId} (h : w.heap[p]? = some (.cells #[v0, v1, v2, v3] T (0, 0))) :
    (w.cell? ⟨p, 0, none⟩ = some v0 ∧ w.cell? ⟨p, 1, none⟩ = some v1 ∧ w.cell? ⟨p, 2, none⟩ = some v2 ∧ w.cell? ⟨p, 3, none⟩ = some v3) ∧ ∀ j : Nat, w.frozen? ⟨p, j, none⟩ = false :=
  ⟨⟨cell_of_row _ _ _ _ _ _ h, cell_of_row _ _ _ _ _ _ h, cell_of_row _ _ _ _ _ _ h, cell_of_row _ _ _ _ _ _ h⟩, fun _ => frozen_of_row _ _ _ _ _ h⟩
set_option maxHeartbeats 1000000 in
theorem t_magic (v : Value) (l : List UInt8) (w : World) (hB : Byt w v l) (hz : l.length ≤ 140737488355328) :
    Calls Tryd.prog 14 #[v] w fun e w' => e = .returned (.tuple #[.agg #[.bool (magicS l).1.1, .bool (magicS l).1.2, .int .u16 0, .int .u32 0], .bool (magicS l).2]) ∧ Below w.heap.size w w' := by
  obtain ⟨a, c, rfl, hc, hA⟩ := hB.open
  have G := Lib.hid (fun w hB => t_u32 a l c false 0 hc (by omega) hz w hB)
  have MN := magic_num l
  have HA := Lib.hid (hA.on (below_alloc w (.cells #[.bool false, .bool false, .int .u16 0, .int .u32 0] 26)))
  clear hB hA
  generalize gv l false 0 4 = x at *
  generalize l.length = n at *
  rcases MN with ⟨p, q, e, rfl⟩ | ⟨e, n0, n1, n2, n3⟩
  · rw [e]
    cases p <;> cases q
    all_goals
      unfold magN4 at G
      simp only [Bool.false_eq_true, if_false, if_true] at G
      go_enter Tryd.func14, Tryd.ntmps14
      go_upto_region 2 with (go_at_call 27; refine (G.out _ HA.out).mono ?_; rintro e w1 ⟨rfl, hb⟩)
      have R := (hb.block w.heap.size (by simp)).trans (row_new w _ rfl)
      have B1 := Lib.hid ((below_alloc w _).trans (hb.mono (by simp)))
      obtain ⟨⟨c0, c1, c2, c3⟩, f⟩ := row4 R
      have f0 := f 0
      have f1 := f 1
      have f2 := f 2
      have f3 := f 3
      have R0 := Lib.hid R
      clear f R hb HA G
    rotate_left 3
    go_upto_region 10 with fail
    have R2 : ((w1.setCell ⟨w.heap.size, 0, none⟩ (.bool true)).setCell ⟨w.heap.size, 1, none⟩ (.bool true)).heap[w.heap.size]? = some (.cells #[.bool true, .bool true, .int .u16 0, .int .u32 0] 26 (0, 0)) := heap_setCell_same _ _ 1 _ _ _ (heap_setCell_same _ _ 0 _ _ _ R0.out)
    have B2 := Lib.hid (show Below w.heap.size w ((w1.setCell ⟨w.heap.size, 0, none⟩ (.bool true)).setCell ⟨w.heap.size, 1, none⟩ (.bool true)) by have B2 := B1.out; (repeat (first | (with_reducible exact Below.refl _ _) | (with_reducible assumption) | (with_reducible refine Below.drew ?_) | (with_reducible refine below_drewN ?_ _) | ((with_reducible refine Below.alloc ?_ ?_ _); rotate_left; (focus (first | (simp; done) | (simp; omega) | omega))) | ((with_reducible refine Below.setCell ?_ ?_ _); rotate_left; (focus (first | (simp; done) | (simp; omega) | omega))) | ((with_reducible refine Below.trans ?_ (Below.mono (by assumption) ?_)); rotate_left; (focus (first | (simp; done) | (simp; omega) | omega))))))
    clear B1
    have B1 := B2
    clear B2 c0 c1 c2 c3 f0 f1 f2 f3 R0
    generalize (w1.setCell ⟨w.heap.size, 0, none⟩ (.bool true)).setCell ⟨w.heap.size, 1, none⟩ (.bool true) = w2 at *
    obtain ⟨⟨c0, c1, c2, c3⟩, f⟩ := row4 R2
    have f0 := f 0
    have f1 := f 1
    have f2 := f 2
    have f3 := f 3
    clear f R2
    all_goals
      go_wp2
      refine bodyPost_ret (by simp [results, Tryd.results14, go_sem, c0, c1, c2, c3]) rfl ⟨rfl, ?_⟩
      have B2 := B1.out
      (repeat (first | (with_reducible exact Below.refl _ _) | (with_reducible assumption) | (with_reducible refine Below.drew ?_) | (with_reducible refine below_drewN ?_ _) | ((with_reducible refine Below.alloc ?_ ?_ _); rotate_left; (focus (first | (simp; done) | (simp; omega) | omega))) | ((with_reducible refine Below.setCell ?_ ?_ _); rotate_left; (focus (first | (simp; done) | (simp; omega) | omega))) | ((with_reducible refine Below.trans ?_ (Below.mono (by assumption) ?_)); rotate_left; (focus (first | (simp; done) | (simp; omega) | omega)))))
  · rw [e]
    have d0 : (((x : Int) == 1295823521) : Bool) = false := by simp; omega
    have d1 : (((x : Int) == 2712812621) : Bool) = false := by simp; omega
    have d2 : (((x : Int) == 3569595041) : Bool) = false := by simp; omega
    have d3 : (((x : Int) == 2712847316) : Bool) = false := by simp; omega
    clear n0 n1 n2 n3 e
    go_enter Tryd.func14, Tryd.ntmps14
    go_upto_region 2 with (go_at_call 27; refine (G.out _ HA.out).mono ?_; rintro e w1 ⟨rfl, hb⟩)
    have R := (hb.block w.heap.size (by simp)).trans (row_new w _ rfl)
    have B1 := Lib.hid ((below_alloc w _).trans (hb.mono (by simp)))
    obtain ⟨⟨c0, c1, c2, c3⟩, f⟩ := row4 R
    have f0 := f 0
    have f1 := f 1
    have f2 := f 2
    have f3 := f 3
    clear f R hb HA G
    go_wp2
    refine bodyPost_ret (by simp [results, Tryd.results14, go_sem, c0, c1, c2, c3]) rfl ⟨rfl, ?_⟩
    have B2 := B1.out
    (repeat (first | (with_reducible exact Below.refl _ _) | (with_reducible assumption) | (with_reducible refine Below.drew ?_) | (with_reducible refine below_drewN ?_ _) | ((with_reducible refine Below.alloc ?_ ?_ _); rotate_left; (focus (first | (simp; done) | (simp; omega) | omega))) | ((with_reducible refine Below.setCell ?_ ?_ _); rotate_left; (focus (first | (simp; done) | (simp; omega) | omega))) | ((with_reducible refine Below.trans ?_ (Below.mono (by assumption) ?_)); rotate_left; (focus (first | (simp; done) | (simp; omega) | omega)))))
end Go.Proofs.YthmkfkmcamjnoaaDoor
namespace Go.Proofs.YthmkfkmcamjnoaaDoor
open Go.RowKit Go.Sort
set_option maxRecDepth 8000
set_option maxHeartbeats 4000000 in
theorem t_begins_0 (a : Option Addr) (l : List UInt8) (n c : Nat) (x : Nat) (ok : Bool) (w : World) (hA : BytA w a l) (hM : Mags w) (hz : n ≤ 140737488355328) (h : n = 0) (hx : x = 0)
    (hG : ∀ w, BytA w a l → Calls Tryd.prog 41 #[.agg #[.slice a n c, .bool false], .int .i64 0, .int .i64 0] w fun e w' => e = .returned (.tuple #[.int .u64 x, .bool ok]) ∧ Below w.heap.size w w') :
    Calls Tryd.prog 24 #[.slice a n c] w fun e w' => e = .returned (.bool (decide (0 = x) || decide (0 = x) || decide (0 = x) || decide (0 = x))) ∧ Below w.heap.size w w' := by
  have G := Lib.hid hG
  have HA := Lib.hid hA
  have HM := Lib.hid hM
  clear hG hA hM
  subst h hx
  have i0 : ∀ w, (Instr.index 82 (.agg #[.int .u64 2712847316, .int .u64 2712812621, .int .u64 3569595041, .int .u64 1295823521]) (.int .i64 0)).run Tryd.prog w = .ok (.int .u64 2712847316) w := fun _ => by kernel_rfl
  have i1 : ∀ w, (Instr.index 82 (.agg #[.int .u64 2712847316, .int .u64 2712812621, .int .u64 3569595041, .int .u64 1295823521]) (.int .i64 1)).run Tryd.prog w = .ok (.int .u64 2712812621) w := fun _ => by kernel_rfl
  have i2 : ∀ w, (Instr.index 82 (.agg #[.int .u64 2712847316, .int .u64 2712812621, .int .u64 3569595041, .int .u64 1295823521]) (.int .i64 2)).run Tryd.prog w = .ok (.int .u64 3569595041) w := fun _ => by kernel_rfl
  have i3 : ∀ w, (Instr.index 82 (.agg #[.int .u64 2712847316, .int .u64 2712812621, .int .u64 3569595041, .int .u64 1295823521]) (.int .i64 3)).run Tryd.prog w = .ok (.int .u64 1295823521) w := fun _ => by kernel_rfl
  go_enter Tryd.func24, Tryd.ntmps24
  go_upto_region 3 with (go_at_call 41; refine (G.out _ HA.out).mono ?_; rintro e w1 ⟨rfl, hb⟩)
  have M1 := Lib.hid (HM.out.below hb)
  have B1 := Lib.hid hb
  clear hb HM HA G
  obtain ⟨m0, m1, m2, m3, _⟩ := M1.out
  go_wp2
  go_loop [7, 19] (fun _ i => ∃ k : Nat, k ≤ 4 ∧ i = .int .i64 k ∧ Hid ((1 ≤ k → ¬ 0 = (0 : Nat)) ∧ (2 ≤ k → ¬ 0 = (0 : Nat)) ∧ (3 ≤ k → ¬ 0 = (0 : Nat)) ∧ (4 ≤ k → ¬ 0 = (0 : Nat)))) (fun _ i => 4 - (intOf i).toNat)
  case atStart => exact ⟨0, by omega, rfl, Lib.hid ⟨by omega, by omega, by omega, by omega⟩⟩
  case round =>
    obtain ⟨k, hk, rfl, N⟩ := hrel
    rcases (show k = 0 ∨ k = 1 ∨ k = 2 ∨ k = 3 ∨ k = 4 by omega) with rfl | rfl | rfl | rfl | rfl
    · go_wp2
      go_ret
      exact ⟨by simp, B1.out⟩
    all_goals exact absurd rfl (N.out.1 (by omega))
set_option maxHeartbeats 4000000 in
theorem t_begins_1 (a : Option Addr) (l : List UInt8) (n c : Nat) (x : Nat) (ok : Bool) (w : World) (hA : BytA w a l) (hM : Mags w) (hz : n ≤ 140737488355328) (h : n = 1)
    (hG : ∀ w, BytA w a l → Calls Tryd.prog 41 #[.agg #[.slice a n c, .bool false], .int .i64 0, .int .i64 1] w fun e w' => e = .returned (.tuple #[.int .u64 x, .bool ok]) ∧ Below w.heap.size w w') :
    Calls Tryd.prog 24 #[.slice a n c] w fun e w' => e = .returned (.bool (decide (161 = x) || decide (161 = x) || decide (212 = x) || decide (77 = x))) ∧ Below w.heap.size w w' := by
  have G := Lib.hid hG
  have HA := Lib.hid hA
  have HM := Lib.hid hM
  clear hG hA hM
  subst h
  have i0 : ∀ w, (Instr.index 82 (.agg #[.int .u64 2712847316, .int .u64 2712812621, .int .u64 3569595041, .int .u64 1295823521]) (.int .i64 0)).run Tryd.prog w = .ok (.int .u64 2712847316) w := fun _ => by kernel_rfl
  have i1 : ∀ w, (Instr.index 82 (.agg #[.int .u64 2712847316, .int .u64 2712812621, .int .u64 3569595041, .int .u64 1295823521]) (.int .i64 1)).run Tryd.prog w = .ok (.int .u64 2712812621) w := fun _ => by kernel_rfl
  have i2 : ∀ w, (Instr.index 82 (.agg #[.int .u64 2712847316, .int .u64 2712812621, .int .u64 3569595041, .int .u64 1295823521]) (.int .i64 2)).run Tryd.prog w = .ok (.int .u64 3569595041) w := fun _ => by kernel_rfl
  have i3 : ∀ w, (Instr.index 82 (.agg #[.int .u64 2712847316, .int .u64 2712812621, .int .u64 3569595041, .int .u64 1295823521]) (.int .i64 3)).run Tryd.prog w = .ok (.int .u64 1295823521) w := fun _ => by kernel_rfl
  go_enter Tryd.func24, Tryd.ntmps24
  go_upto_region 3 with (go_at_call 41; refine (G.out _ HA.out).mono ?_; rintro e w1 ⟨rfl, hb⟩)
  have M1 := Lib.hid (HM.out.below hb)
  have B1 := Lib.hid hb
  clear hb HM HA G
  obtain ⟨m0, m1, m2, m3, _⟩ := M1.out
  go_wp2
  go_loop [7, 19] (fun _ i => ∃ k : Nat, k ≤ 4 ∧ i = .int .i64 k ∧ Hid ((1 ≤ k → ¬ 161 = x) ∧ (2 ≤ k → ¬ 161 = x) ∧ (3 ≤ k → ¬ 212 = x) ∧ (4 ≤ k → ¬ 77 = x))) (fun _ i => 4 - (intOf i).toNat)
  case atStart => exact ⟨0, by omega, rfl, Lib.hid ⟨by omega, by omega, by omega, by omega⟩⟩
  case round =>
    obtain ⟨k, hk, rfl, N⟩ := hrel
    rcases (show k = 0 ∨ k = 1 ∨ k = 2 ∨ k = 3 ∨ k = 4 by omega) with rfl | rfl | rfl | rfl | rfl
    · by_cases hx : 161 = x
      · have hd : (((161 : Int) == (x : Nat)) : Bool) = true := by simp; omega
        have HX := Lib.hid hx
        clear hx N
        go_wp2
        go_ret
        exact ⟨by simp [HX.out], B1.out⟩
      · have hd : (((161 : Int) == (x : Nat)) : Bool) = false := by simp; omega
        have N' := Lib.hid (show (1 ≤ 1 → ¬ 161 = x) ∧ (2 ≤ 1 → ¬ 161 = x) ∧ (3 ≤ 1 → ¬ 212 = x) ∧ (4 ≤ 1 → ¬ 77 = x) by have := N.out; omega)
        clear hx N
        go_wp2
        go_round
        case rel => exact ⟨1, by omega, rfl, N'⟩
        case measure => simp [intOf]
    · by_cases hx : 161 = x
      · have hd : (((161 : Int) == (x : Nat)) : Bool) = true := by simp; omega
        have HX := Lib.hid hx
        clear hx N
        go_wp2
        go_ret
        exact ⟨by simp [HX.out], B1.out⟩
      · have hd : (((161 : Int) == (x : Nat)) : Bool) = false := by simp; omega
        have N' := Lib.hid (show (1 ≤ 2 → ¬ 161 = x) ∧ (2 ≤ 2 → ¬ 161 = x) ∧ (3 ≤ 2 → ¬ 212 = x) ∧ (4 ≤ 2 → ¬ 77 = x) by have := N.out; omega)
        clear hx N
        go_wp2
        go_round
        case rel => exact ⟨2, by omega, rfl, N'⟩
        case measure => simp [intOf]
    · by_cases hx : 212 = x
      · have hd : (((212 : Int) == (x : Nat)) : Bool) = true := by simp; omega
        have HX := Lib.hid hx
        clear hx N
        go_wp2
        go_ret
        exact ⟨by simp [HX.out], B1.out⟩
      · have hd : (((212 : Int) == (x : Nat)) : Bool) = false := by simp; omega
        have N' := Lib.hid (show (1 ≤ 3 → ¬ 161 = x) ∧ (2 ≤ 3 → ¬ 161 = x) ∧ (3 ≤ 3 → ¬ 212 = x) ∧ (4 ≤ 3 → ¬ 77 = x) by have := N.out; omega)
        clear hx N
        go_wp2
        go_round
        case rel => exact ⟨3, by omega, rfl, N'⟩
        case measure => simp [intOf]
    · by_cases hx : 77 = x
      · have hd : (((77 : Int) == (x : Nat)) : Bool) = true := by simp; omega
        have HX := Lib.hid hx
        clear hx N
        go_wp2
        go_ret
        exact ⟨by simp [HX.out], B1.out⟩
      · have hd : (((77 : Int) == (x : Nat)) : Bool) = false := by simp; omega
        have N' := Lib.hid (show (1 ≤ 4 → ¬ 161 = x) ∧ (2 ≤ 4 → ¬ 161 = x) ∧ (3 ≤ 4 → ¬ 212 = x) ∧ (4 ≤ 4 → ¬ 77 = x) by have := N.out; omega)
        clear hx N
        go_wp2
        go_round
        case rel => exact ⟨4, by omega, rfl, N'⟩
        case measure => simp [intOf]
    · go_wp2
      go_ret
      exact ⟨by have := N.out; simp; omega, B1.out⟩
set_option maxHeartbeats 4000000 in
theorem t_begins_2 (a : Option Addr) (l : List UInt8) (n c : Nat) (x : Nat) (ok : Bool) (w : World) (hA : BytA w a l) (hM : Mags w) (hz : n ≤ 140737488355328) (h : n = 2)
    (hG : ∀ w, BytA w a l → Calls Tryd.prog 41 #[.agg #[.slice a n c, .bool false], .int .i64 0, .int .i64 2] w fun e w' => e = .returned (.tuple #[.int .u64 x, .bool ok]) ∧ Below w.heap.size w w') :
    Calls Tryd.prog 24 #[.slice a n c] w fun e w' => e = .returned (.bool (decide (41394 = x) || decide (41394 = x) || decide (54467 = x) || decide (19772 = x))) ∧ Below w.heap.size w w' := by
  have G := Lib.hid hG
  have HA := Lib.hid hA
  have HM := Lib.hid hM
  clear hG hA hM
  subst h
  have i0 : ∀ w, (Instr.index 82 (.agg #[.int .u64 2712847316, .int .u64 2712812621, .int .u64 3569595041, .int .u64 1295823521]) (.int .i64 0)).run Tryd.prog w = .ok (.int .u64 2712847316) w := fun _ => by kernel_rfl
  have i1 : ∀ w, (Instr.index 82 (.agg #[.int .u64 2712847316, .int .u64 2712812621, .int .u64 3569595041, .int .u64 1295823521]) (.int .i64 1)).run Tryd.prog w = .ok (.int .u64 2712812621) w := fun _ => by kernel_rfl
  have i2 : ∀ w, (Instr.index 82 (.agg #[.int .u64 2712847316, .int .u64 2712812621, .int .u64 3569595041, .int .u64 1295823521]) (.int .i64 2)).run Tryd.prog w = .ok (.int .u64 3569595041) w := fun _ => by kernel_rfl
  have i3 : ∀ w, (Instr.index 82 (.agg #[.int .u64 2712847316, .int .u64 2712812621, .int .u64 3569595041, .int .u64 1295823521]) (.int .i64 3)).run Tryd.prog w = .ok (.int .u64 1295823521) w := fun _ => by kernel_rfl
  go_enter Tryd.func24, Tryd.ntmps24
  go_upto_region 3 with (go_at_call 41; refine (G.out _ HA.out).mono ?_; rintro e w1 ⟨rfl, hb⟩)
  have M1 := Lib.hid (HM.out.below hb)
  have B1 := Lib.hid hb
  clear hb HM HA G
  obtain ⟨m0, m1, m2, m3, _⟩ := M1.out
  go_wp2
  go_loop [7, 19] (fun _ i => ∃ k : Nat, k ≤ 4 ∧ i = .int .i64 k ∧ Hid ((1 ≤ k → ¬ 41394 = x) ∧ (2 ≤ k → ¬ 41394 = x) ∧ (3 ≤ k → ¬ 54467 = x) ∧ (4 ≤ k → ¬ 19772 = x))) (fun _ i => 4 - (intOf i).toNat)
  case atStart => exact ⟨0, by omega, rfl, Lib.hid ⟨by omega, by omega, by omega, by omega⟩⟩
  case round =>
    obtain ⟨k, hk, rfl, N⟩ := hrel
    rcases (show k = 0 ∨ k = 1 ∨ k = 2 ∨ k = 3 ∨ k = 4 by omega) with rfl | rfl | rfl | rfl | rfl
    · by_cases hx : 41394 = x
      · have hd : (((41394 : Int) == (x : Nat)) : Bool) = true := by simp; omega
        have HX := Lib.hid hx
        clear hx N
        go_wp2
        go_ret
        exact ⟨by simp [HX.out], B1.out⟩
      · have hd : (((41394 : Int) == (x : Nat)) : Bool) = false := by simp; omega
        have N' := Lib.hid (show (1 ≤ 1 → ¬ 41394 = x) ∧ (2 ≤ 1 → ¬ 41394 = x) ∧ (3 ≤ 1 → ¬ 54467 = x) ∧ (4 ≤ 1 → ¬ 19772 = x) by have := N.out; omega)
        clear hx N
        go_wp2
        go_round
        case rel => exact ⟨1, by omega, rfl, N'⟩
        case measure => simp [intOf]
    · by_cases hx : 41394 = x
      · have hd : (((41394 : Int) == (x : Nat)) : Bool) = true := by simp; omega
        have HX := Lib.hid hx
        clear hx N
        go_wp2
        go_ret
        exact ⟨by simp [HX.out], B1.out⟩
      · have hd : (((41394 : Int) == (x : Nat)) : Bool) = false := by simp; omega
        have N' := Lib.hid (show (1 ≤ 2 → ¬ 41394 = x) ∧ (2 ≤ 2 → ¬ 41394 = x) ∧ (3 ≤ 2 → ¬ 54467 = x) ∧ (4 ≤ 2 → ¬ 19772 = x) by have := N.out; omega)
        clear hx N
        go_wp2
        go_round
        case rel => exact ⟨2, by omega, rfl, N'⟩
        case measure => simp [intOf]
    · by_cases hx : 54467 = x
      · have hd : (((54467 : Int) == (x : Nat)) : Bool) = true := by simp; omega
        have HX := Lib.hid hx
        clear hx N
        go_wp2
        go_ret
        exact ⟨by simp [HX.out], B1.out⟩
      · have hd : (((54467 : Int) == (x : Nat)) : Bool) = false := by simp; omega
        have N' := Lib.hid (show (1 ≤ 3 → ¬ 41394 = x) ∧ (2 ≤ 3 → ¬ 41394 = x) ∧ (3 ≤ 3 → ¬ 54467 = x) ∧ (4 ≤ 3 → ¬ 19772 = x) by have := N.out; omega)
        clear hx N
        go_wp2
        go_round
        case rel => exact ⟨3, by omega, rfl, N'⟩
        case measure => simp [intOf]
    · by_cases hx : 19772 = x
      · have hd : (((19772 : Int) == (x : Nat)) : Bool) = true := by simp; omega
        have HX := Lib.hid hx
        clear hx N
        go_wp2
        go_ret
        exact ⟨by simp [HX.out], B1.out⟩
      · have hd : (((19772 : Int) == (x : Nat)) : Bool) = false := by simp; omega
        have N' := Lib.hid (show (1 ≤ 4 → ¬ 41394 = x) ∧ (2 ≤ 4 → ¬ 41394 = x) ∧ (3 ≤ 4 → ¬ 54467 = x) ∧ (4 ≤ 4 → ¬ 19772 = x) by have := N.out; omega)
        clear hx N
        go_wp2
        go_round
        case rel => exact ⟨4, by omega, rfl, N'⟩
        case measure => simp [intOf]
    · go_wp2
      go_ret
      exact ⟨by have := N.out; simp; omega, B1.out⟩
set_option maxHeartbeats 4000000 in
theorem t_begins_3 (a : Option Addr) (l : List UInt8) (n c : Nat) (x : Nat) (ok : Bool) (w : World) (hA : BytA w a l) (hM : Mags w) (hz : n ≤ 140737488355328) (h : n = 3)
    (hG : ∀ w, BytA w a l → Calls Tryd.prog 41 #[.agg #[.slice a n c, .bool false], .int .i64 0, .int .i64 3] w fun e w' => e = .returned (.tuple #[.int .u64 x, .bool ok]) ∧ Below w.heap.size w w') :
    Calls Tryd.prog 24 #[.slice a n c] w fun e w' => e = .returned (.bool (decide (10597059 = x) || decide (10596924 = x) || decide (13943730 = x) || decide (5061810 = x))) ∧ Below w.heap.size w w' := by
  have G := Lib.hid hG
  have HA := Lib.hid hA
  have HM := Lib.hid hM
  clear hG hA hM
  subst h
  have i0 : ∀ w, (Instr.index 82 (.agg #[.int .u64 2712847316, .int .u64 2712812621, .int .u64 3569595041, .int .u64 1295823521]) (.int .i64 0)).run Tryd.prog w = .ok (.int .u64 2712847316) w := fun _ => by kernel_rfl
  have i1 : ∀ w, (Instr.index 82 (.agg #[.int .u64 2712847316, .int .u64 2712812621, .int .u64 3569595041, .int .u64 1295823521]) (.int .i64 1)).run Tryd.prog w = .ok (.int .u64 2712812621) w := fun _ => by kernel_rfl
  have i2 : ∀ w, (Instr.index 82 (.agg #[.int .u64 2712847316, .int .u64 2712812621, .int .u64 3569595041, .int .u64 1295823521]) (.int .i64 2)).run Tryd.prog w = .ok (.int .u64 3569595041) w := fun _ => by kernel_rfl
  have i3 : ∀ w, (Instr.index 82 (.agg #[.int .u64 2712847316, .int .u64 2712812621, .int .u64 3569595041, .int .u64 1295823521]) (.int .i64 3)).run Tryd.prog w = .ok (.int .u64 1295823521) w := fun _ => by kernel_rfl
  go_enter Tryd.func24, Tryd.ntmps24
  go_upto_region 3 with (go_at_call 41; refine (G.out _ HA.out).mono ?_; rintro e w1 ⟨rfl, hb⟩)
  have M1 := Lib.hid (HM.out.below hb)
  have B1 := Lib.hid hb
  clear hb HM HA G
  obtain ⟨m0, m1, m2, m3, _⟩ := M1.out
  go_wp2
  go_loop [7, 19] (fun _ i => ∃ k : Nat, k ≤ 4 ∧ i = .int .i64 k ∧ Hid ((1 ≤ k → ¬ 10597059 = x) ∧ (2 ≤ k → ¬ 10596924 = x) ∧ (3 ≤ k → ¬ 13943730 = x) ∧ (4 ≤ k → ¬ 5061810 = x))) (fun _ i => 4 - (intOf i).toNat)
  case atStart => exact ⟨0, by omega, rfl, Lib.hid ⟨by omega, by omega, by omega, by omega⟩⟩
  case round =>
    obtain ⟨k, hk, rfl, N⟩ := hrel
    rcases (show k = 0 ∨ k = 1 ∨ k = 2 ∨ k = 3 ∨ k = 4 by omega) with rfl | rfl | rfl | rfl | rfl
    · by_cases hx : 10597059 = x
      · have hd : (((10597059 : Int) == (x : Nat)) : Bool) = true := by simp; omega
        have HX := Lib.hid hx
        clear hx N
        go_wp2
        go_ret
        exact ⟨by simp [HX.out], B1.out⟩
      · have hd : (((10597059 : Int) == (x : Nat)) : Bool) = false := by simp; omega
        have N' := Lib.hid (show (1 ≤ 1 → ¬ 10597059 = x) ∧ (2 ≤ 1 → ¬ 10596924 = x) ∧ (3 ≤ 1 → ¬ 13943730 = x) ∧ (4 ≤ 1 → ¬ 5061810 = x) by have := N.out; omega)
        clear hx N
        go_wp2
        go_round
        case rel => exact ⟨1, by omega, rfl, N'⟩
        case measure => simp [intOf]
    · by_cases hx : 10596924 = x
      · have hd : (((10596924 : Int) == (x : Nat)) : Bool) = true := by simp; omega
        have HX := Lib.hid hx
        clear hx N
        go_wp2
        go_ret
        exact ⟨by simp [HX.out], B1.out⟩
      · have hd : (((10596924 : Int) == (x : Nat)) : Bool) = false := by simp; omega
        have N' := Lib.hid (show (1 ≤ 2 → ¬ 10597059 = x) ∧ (2 ≤ 2 → ¬ 10596924 = x) ∧ (3 ≤ 2 → ¬ 13943730 = x) ∧ (4 ≤ 2 → ¬ 5061810 = x) by have := N.out; omega)
        clear hx N
        go_wp2
        go_round
        case rel => exact ⟨2, by omega, rfl, N'⟩
        case measure => simp [intOf]
    · by_cases hx : 13943730 = x
      · have hd : (((13943730 : Int) == (x : Nat)) : Bool) = true := by simp; omega
        have HX := Lib.hid hx
        clear hx N
        go_wp2
        go_ret
        exact ⟨by simp [HX.out], B1.out⟩
      · have hd : (((13943730 : Int) == (x : Nat)) : Bool) = false := by simp; omega
        have N' := Lib.hid (show (1 ≤ 3 → ¬ 10597059 = x) ∧ (2 ≤ 3 → ¬ 10596924 = x) ∧ (3 ≤ 3 → ¬ 13943730 = x) ∧ (4 ≤ 3 → ¬ 5061810 = x) by have := N.out; omega)
        clear hx N
        go_wp2
        go_round
        case rel => exact ⟨3, by omega, rfl, N'⟩
        case measure => simp [intOf]
    · by_cases hx : 5061810 = x
      · have hd : (((5061810 : Int) == (x : Nat)) : Bool) = true := by simp; omega
        have HX := Lib.hid hx
        clear hx N
        go_wp2
        go_ret
        exact ⟨by simp [HX.out], B1.out⟩
      · have hd : (((5061810 : Int) == (x : Nat)) : Bool) = false := by simp; omega
        have N' := Lib.hid (show (1 ≤ 4 → ¬ 10597059 = x) ∧ (2 ≤ 4 → ¬ 10596924 = x) ∧ (3 ≤ 4 → ¬ 13943730 = x) ∧ (4 ≤ 4 → ¬ 5061810 = x) by have := N.out; omega)
        clear hx N
        go_wp2
        go_round
        case rel => exact ⟨4, by omega, rfl, N'⟩
        case measure => simp [intOf]
    · go_wp2
      go_ret
      exact ⟨by have := N.out; simp; omega, B1.out⟩
set_option maxHeartbeats 4000000 in
theorem t_begins_4 (a : Option Addr) (l : List UInt8) (n c : Nat) (x : Nat) (ok : Bool) (w : World) (hA : BytA w a l) (hM : Mags w) (hz : n ≤ 140737488355328) (h : 4 ≤ n)
    (hG : ∀ w, BytA w a l → Calls Tryd.prog 41 #[.agg #[.slice a n c, .bool false], .int .i64 0, .int .i64 4] w fun e w' => e = .returned (.tuple #[.int .u64 x, .bool ok]) ∧ Below w.heap.size w w') :
    Calls Tryd.prog 24 #[.slice a n c] w fun e w' => e = .returned (.bool (decide (2712847316 = x) || decide (2712812621 = x) || decide (3569595041 = x) || decide (1295823521 = x))) ∧ Below w.heap.size w w' := by
  have G := Lib.hid hG
  have HA := Lib.hid hA
  have HM := Lib.hid hM
  clear hG hA hM
  have h : n = 4 ∨ (4 : Int) < n := by omega
  rcases h with rfl | M
  all_goals
    have i0 : ∀ w, (Instr.index 82 (.agg #[.int .u64 2712847316, .int .u64 2712812621, .int .u64 3569595041, .int .u64 1295823521]) (.int .i64 0)).run Tryd.prog w = .ok (.int .u64 2712847316) w := fun _ => by kernel_rfl
    have i1 : ∀ w, (Instr.index 82 (.agg #[.int .u64 2712847316, .int .u64 2712812621, .int .u64 3569595041, .int .u64 1295823521]) (.int .i64 1)).run Tryd.prog w = .ok (.int .u64 2712812621) w := fun _ => by kernel_rfl
    have i2 : ∀ w, (Instr.index 82 (.agg #[.int .u64 2712847316, .int .u64 2712812621, .int .u64 3569595041, .int .u64 1295823521]) (.int .i64 2)).run Tryd.prog w = .ok (.int .u64 3569595041) w := fun _ => by kernel_rfl
    have i3 : ∀ w, (Instr.index 82 (.agg #[.int .u64 2712847316, .int .u64 2712812621, .int .u64 3569595041, .int .u64 1295823521]) (.int .i64 3)).run Tryd.prog w = .ok (.int .u64 1295823521) w := fun _ => by kernel_rfl
    go_enter Tryd.func24, Tryd.ntmps24
    go_upto_region 3 with (go_at_call 41; refine (G.out _ HA.out).mono ?_; rintro e w1 ⟨rfl, hb⟩)
    have M1 := Lib.hid (HM.out.below hb)
    have B1 := Lib.hid hb
    clear hb HM HA G
    obtain ⟨m0, m1, m2, m3, _⟩ := M1.out
    go_wp2
    go_loop [7, 19] (fun _ i => ∃ k : Nat, k ≤ 4 ∧ i = .int .i64 k ∧ Hid ((1 ≤ k → ¬ 2712847316 = x) ∧ (2 ≤ k → ¬ 2712812621 = x) ∧ (3 ≤ k → ¬ 3569595041 = x) ∧ (4 ≤ k → ¬ 1295823521 = x))) (fun _ i => 4 - (intOf i).toNat)
    case atStart => exact ⟨0, by omega, rfl, Lib.hid ⟨by omega, by omega, by omega, by omega⟩⟩
    case round =>
      obtain ⟨k, hk, rfl, N⟩ := hrel
      rcases (show k = 0 ∨ k = 1 ∨ k = 2 ∨ k = 3 ∨ k = 4 by omega) with rfl | rfl | rfl | rfl | rfl
      · by_cases hx : 2712847316 = x
        · have hd : (((2712847316 : Int) == (x : Nat)) : Bool) = true := by simp; omega
          have HX := Lib.hid hx
          clear hx N
          go_wp2
          go_ret
          exact ⟨by simp [HX.out], B1.out⟩
        · have hd : (((2712847316 : Int) == (x : Nat)) : Bool) = false := by simp; omega
          have N' := Lib.hid (show (1 ≤ 1 → ¬ 2712847316 = x) ∧ (2 ≤ 1 → ¬ 2712812621 = x) ∧ (3 ≤ 1 → ¬ 3569595041 = x) ∧ (4 ≤ 1 → ¬ 1295823521 = x) by have := N.out; omega)
          clear hx N
          go_wp2
          go_round
          case rel => exact ⟨1, by omega, rfl, N'⟩
          case measure => simp [intOf]
      · by_cases hx : 2712812621 = x
        · have hd : (((2712812621 : Int) == (x : Nat)) : Bool) = true := by simp; omega
          have HX := Lib.hid hx
          clear hx N
          go_wp2
          go_ret
          exact ⟨by simp [HX.out], B1.out⟩
        · have hd : (((2712812621 : Int) == (x : Nat)) : Bool) = false := by simp; omega
          have N' := Lib.hid (show (1 ≤ 2 → ¬ 2712847316 = x) ∧ (2 ≤ 2 → ¬ 2712812621 = x) ∧ (3 ≤ 2 → ¬ 3569595041 = x) ∧ (4 ≤ 2 → ¬ 1295823521 = x) by have := N.out; omega)
          clear hx N
          go_wp2
          go_round
          case rel => exact ⟨2, by omega, rfl, N'⟩
          case measure => simp [intOf]
      · by_cases hx : 3569595041 = x
        · have hd : (((3569595041 : Int) == (x : Nat)) : Bool) = true := by simp; omega
          have HX := Lib.hid hx
          clear hx N
          go_wp2
          go_ret
          exact ⟨by simp [HX.out], B1.out⟩
        · have hd : (((3569595041 : Int) == (x : Nat)) : Bool) = false := by simp; omega
          have N' := Lib.hid (show (1 ≤ 3 → ¬ 2712847316 = x) ∧ (2 ≤ 3 → ¬ 2712812621 = x) ∧ (3 ≤ 3 → ¬ 3569595041 = x) ∧ (4 ≤ 3 → ¬ 1295823521 = x) by have := N.out; omega)
          clear hx N
          go_wp2
          go_round
          case rel => exact ⟨3, by omega, rfl, N'⟩
          case measure => simp [intOf]
      · by_cases hx : 1295823521 = x
        · have hd : (((1295823521 : Int) == (x : Nat)) : Bool) = true := by simp; omega
          have HX := Lib.hid hx
          clear hx N
          go_wp2
          go_ret
          exact ⟨by simp [HX.out], B1.out⟩
        · have hd : (((1295823521 : Int) == (x : Nat)) : Bool) = false := by simp; omega
          have N' := Lib.hid (show (1 ≤ 4 → ¬ 2712847316 = x) ∧ (2 ≤ 4 → ¬ 2712812621 = x) ∧ (3 ≤ 4 → ¬ 3569595041 = x) ∧ (4 ≤ 4 → ¬ 1295823521 = x) by have := N.out; omega)
          clear hx N
          go_wp2
          go_round
          case rel => exact ⟨4, by omega, rfl, N'⟩
          case measure => simp [intOf]
      · go_wp2
        go_ret
        exact ⟨by have := N.out; simp; omega, B1.out⟩
theorem t_begins (v : Value) (l : List UInt8) (w : World) (hB : Byt w v l) (hM : Mags w) (hz : l.length ≤ 140737488355328) :
    Calls Tryd.prog 24 #[v] w fun e w' => e = .returned (.bool (which l).isSome) ∧ Below w.heap.size w w' := by
  obtain ⟨a, c, rfl, hc, hA⟩ := hB.open
  rw [which_isSome]
  unfold hits
  have G := fun w hB => t_get a l c false 0 (min l.length 4 : Nat) hc (by omega) (by omega) hz w hB
  generalize gok l.length 0 (min l.length 4 : Nat) = ok at *
  obtain ⟨x, hx⟩ : ∃ x, x = gv l false 0 (min l.length 4 : Nat) := ⟨_, rfl⟩
  rw [← hx] at G ⊢
  obtain ⟨n, hn⟩ : ∃ n, n = l.length := ⟨_, rfl⟩
  rw [← hn] at G hz hc hx ⊢
  rcases (show n = 0 ∨ n = 1 ∨ n = 2 ∨ n = 3 ∨ 4 ≤ n by omega) with h | h | h | h | h
  · rw [show min n 4 = 0 by omega] at G ⊢; exact t_begins_0 a l n c x ok w hA hM hz h (by rw [hx, show min n 4 = 0 by omega]; simp [gv, gok, le, ord]) G
  · rw [show min n 4 = 1 by omega] at G ⊢; exact t_begins_1 a l n c x ok w hA hM hz h G
  · rw [show min n 4 = 2 by omega] at G ⊢; exact t_begins_2 a l n c x ok w hA hM hz h G
  · rw [show min n 4 = 3 by omega] at G ⊢; exact t_begins_3 a l n c x ok w hA hM hz h G
  · rw [show min n 4 = 4 by omega] at G ⊢; exact t_begins_4 a l n c x ok w hA hM hz h G
end Go.Proofs.YthmkfkmcamjnoaaDoor
namespace Go.Proofs.YthmkfkmcamjnoaaDoor
open Go.RowKit Go.Sort
set_option maxRecDepth 8000
theorem keepRow {w w' : World} {p : Nat} {o : Obj} (h : w.heap[p]? = some o) (hb : Below w.heap.size w w') : w'.heap[p]? = some o := (hb.block p (Array.getElem?_eq_some_iff.1 h).1).trans h
def fileV (o : (Bool × Bool × Nat × Nat) × Nat) : Value := .tuple #[.agg #[.bool o.1.1, .bool o.1.2.1, .int .u16 o.1.2.2.1, .int .u32 o.1.2.2.2], .int .i64 o.2]
theorem gv_u32 (l : List UInt8) (b : Bool) (at_ : Int) : gv l b at_ 4 < 4294967296 := gv_lt l b at_ 4
theorem gv_u16 (l : List UInt8) (b : Bool) (at_ : Int) : gv l b at_ 2 < 65536 := gv_lt l b at_ 2
/-- The result's own variable, in the first block of the call. -/
def KSt (w wr : World) (o : Obj) : Prop := wr.heap[w.heap.size]? = some o ∧ Below w.heap.size w wr
theorem KSt.on {w wr w2 : World} {o : Obj} (h : KSt w wr o) (hb : Below wr.heap.size wr w2) : KSt w w2 o :=
  ⟨keepRow h.1 hb, h.2.trans (hb.mono h.2.size)⟩
theorem KSt.new (w : World) (o : Obj) : KSt w (w.alloc o) o := ⟨row_new _ _ rfl, below_alloc _ _⟩
theorem KSt.far {w wr : World} {o : Obj} (h : KSt w wr o) {q : Nat} (hq : w.heap.size < q) (j : Nat) (u : Value) : KSt w (wr.setCell ⟨q, j, none⟩ u) o :=
  ⟨(heap_setCell_other _ _ _ _ (by simp; omega)).trans h.1, h.2.setCell (by simp; omega) _⟩
def zeroF : Obj := .cells #[.bool false, .bool false, .int .u16 0, .int .u32 0] 26 (0, 0)
set_option maxHeartbeats 4000000 in
theorem t_open (v : Value) (l : List UInt8) (w : World) (hB : Byt w v l) (hM : Mags w) (hz : l.length ≤ 140737488355328) :
    Calls Tryd.prog 8 #[v] w fun e w' => e = .returned (fileV (openS l)) ∧ Below w.heap.size w w' := by
  have BG := Lib.hid (fun w hB hM => t_begins v l w hB hM hz)
  have MG := Lib.hid (fun w hB => t_magic v l w hB hz)
  obtain ⟨a, c, rfl, hc, hA⟩ := hB.open
  have YB := Lib.hid (show ∀ w, BytA w a l → Byt w (.slice a l.length c) l from fun w h => h.byt rfl hc)
  have S0 := Lib.hid (KSt.new w zeroF)
  have HA := Lib.hid hA
  have M0 := Lib.hid (hM.below (below_alloc w zeroF))
  have U2 := Lib.hid (fun b at_ ha w hB => t_u16 a l c b at_ hc ha hz w hB)
  have U4 := Lib.hid (fun b at_ ha w hB => t_u32 a l c b at_ hc ha hz w hB)
  unfold zeroF at S0 M0
  clear hA hB hM
  cases hw : which l with
  | none =>
    rw [hw] at BG
    have e : openS l = ((false, false, 0, 0), 120) := by unfold openS; rw [hw]
    rw [e]
    unfold fileV
    simp only [Option.isSome_none] at BG
    clear hw e
    generalize l.length = n at *
    go_enter Tryd.func8, Tryd.ntmps8
    go_upto_region 1 with fail
    generalize w.alloc (.cells #[.bool false, .bool false, .int .u16 0, .int .u32 0] 26) = w0 at *
    go_upto_region 2 with (go_at_call 24; refine (BG.out _ (YB.out _ (HA.out.on S0.out.2)) M0.out).mono ?_; rintro e w1 ⟨rfl, hb⟩)
    have S1 := Lib.hid (S0.out.on hb)
    clear hb S0 M0 BG
    obtain ⟨⟨c0, c1, c2, c3⟩, f⟩ := row4 S1.out.1
    have f0 := f 0
    have f1 := f 1
    have f2 := f 2
    have f3 := f 3
    clear f
    go_wp2
    refine bodyPost_ret (by simp [results, Tryd.results8, go_sem, c0, c1, c2, c3]) rfl ⟨rfl, ?_⟩
    have B2 := S1.out.2
    (repeat (first | (with_reducible exact Below.refl _ _) | (with_reducible assumption) | (with_reducible refine Below.drew ?_) | (with_reducible refine below_drewN ?_ _) | ((with_reducible refine Below.alloc ?_ ?_ _); rotate_left; (focus (first | (simp; done) | (simp; omega) | omega))) | ((with_reducible refine Below.setCell ?_ ?_ _); rotate_left; (focus (first | (simp; done) | (simp; omega) | omega))) | ((with_reducible refine Below.trans ?_ (Below.mono (by assumption) ?_)); rotate_left; (focus (first | (simp; done) | (simp; omega) | omega)))))
  | some ab =>
    obtain ⟨x, y⟩ := ab
    rw [hw] at BG
    simp only [Option.isSome_some] at BG
    by_cases hl : l.length < 24
    · have e : openS l = ((false, false, 0, 0), 121) := by unfold openS; rw [hw]; simp only; rw [if_pos hl]
      rw [e]
      unfold fileV
      clear hw e
      generalize l.length = n at *
      have g : decide ((n : Int) < 24) = true := by simp; omega
      go_enter Tryd.func8, Tryd.ntmps8
      go_upto_region 1 with fail
      generalize w.alloc (.cells #[.bool false, .bool false, .int .u16 0, .int .u32 0] 26) = w0 at *
      go_upto_region 3 with (go_at_call 24; refine (BG.out _ (YB.out _ (HA.out.on S0.out.2)) M0.out).mono ?_; rintro e w1 ⟨rfl, hb⟩)
      have S1 := Lib.hid (S0.out.on hb)
      clear hb S0 M0 BG
      obtain ⟨⟨c0, c1, c2, c3⟩, f⟩ := row4 S1.out.1
      have f0 := f 0
      have f1 := f 1
      have f2 := f 2
      have f3 := f 3
      clear f
      go_wp2
      refine bodyPost_ret (by simp [results, Tryd.results8, go_sem, c0, c1, c2, c3]) rfl ⟨rfl, ?_⟩
      have B2 := S1.out.2
      (repeat (first | (with_reducible exact Below.refl _ _) | (with_reducible assumption) | (with_reducible refine Below.drew ?_) | (with_reducible refine below_drewN ?_ _) | ((with_reducible refine Below.alloc ?_ ?_ _); rotate_left; (focus (first | (simp; done) | (simp; omega) | omega))) | ((with_reducible refine Below.setCell ?_ ?_ _); rotate_left; (focus (first | (simp; done) | (simp; omega) | omega))) | ((with_reducible refine Below.trans ?_ (Below.mono (by assumption) ?_)); rotate_left; (focus (first | (simp; done) | (simp; omega) | omega)))))
    · have hm : magicS l = ((x, y), true) := by unfold magicS; rw [if_pos (by omega), hw]
      rw [hm] at MG
      simp only at MG
      have RW := Lib.hid (fun w => t_row x y 0 0 a l.length c w)
      have e : openS l = if gv l x 4 2 = 2 then ((x, y, gv l x 20 4 % 65536, gv l x 16 4), 0) else ((false, false, 0, 0), 125) := by unfold openS; rw [hw]; simp only; rw [if_neg hl]
      rw [e]
      have U2 := Lib.hid (fun w hB => U2.out x 4 (by omega) w hB)
      have UA := Lib.hid (fun w hB => U4.out x 16 (by omega) w hB)
      have UB := Lib.hid (fun w hB => U4.out x 20 (by omega) w hB)
      have bd1 := gv_u32 l x 16
      have bd2 := gv_u32 l x 20
      clear hw e hm U4
      generalize gv l x 4 2 = m1 at *
      generalize gv l x 16 4 = m2 at *
      generalize gv l x 20 4 = m3 at *
      have wv : IntKind.u16.wrap (m3 : Int) = ((m3 % 65536 : Nat) : Int) := by rw [IntKind.wrap_u16]; omega
      generalize m3 % 65536 = z at *
      generalize l.length = n at *
      have g : decide ((n : Int) < 24) = false := by simp; omega
      by_cases hm : m1 = 2
      case' neg =>
        rw [if_neg hm]
        have d : (((m1 : Int) != 2) : Bool) = true := by simp; omega
      case' pos =>
        rw [if_pos hm]
        have d : (((m1 : Int) != 2) : Bool) = false := by simp; omega
      all_goals
        clear hm
        unfold fileV
        simp only
        go_enter Tryd.func8, Tryd.ntmps8
        go_upto_region 1 with fail
        generalize w.alloc (.cells #[.bool false, .bool false, .int .u16 0, .int .u32 0] 26) = w0 at *
        go_upto_region 5 with (go_at_call 24; refine (BG.out _ (YB.out _ (HA.out.on S0.out.2)) M0.out).mono ?_; rintro e w1 ⟨rfl, hb⟩)
        have S1 := Lib.hid (S0.out.on hb)
        clear hb S0 M0 BG
        go_upto_region 6 with (go_at_call 14; refine (MG.out _ (YB.out _ (HA.out.on S1.out.2))).mono ?_; rintro e w2 ⟨rfl, hb⟩; have S2 := Lib.hid (S1.out.on hb); clear hb S1 MG)
        have QP := Lib.hid (Array.getElem?_eq_some_iff.1 S2.out.1).1
        have S3 := Lib.hid (S2.out.on (below_alloc w2 (.cells #[.bool x, .bool y, .int .u16 0, .int .u32 0] 26)))
        have F3 := Lib.hid (row_new w2 (.cells #[.bool x, .bool y, .int .u16 0, .int .u32 0] 26) rfl)
        clear S2
        generalize w2.alloc (.cells #[.bool x, .bool y, .int .u16 0, .int .u32 0] 26) = w3 at *
        generalize w2.heap.size = q at *
        obtain ⟨⟨c0, c1, c2, c3⟩, _⟩ := row4 F3.out
        go_upto_region 7 with (go_at_call 25; refine (RW.out _).mono ?_; rintro e w4 ⟨rfl, hb⟩; have S4 := Lib.hid (S3.out.on hb); have F4 := Lib.hid (keepRow F3.out hb); clear hb S3 F3 RW c0 c1 c2 c3)
        have QR := Lib.hid (Array.getElem?_eq_some_iff.1 F4.out).1
        have S5 := Lib.hid (S4.out.on (below_alloc w4 (.cells #[.slice a n c, .bool x] 64)))
        have F5 := Lib.hid (keepRow F4.out (below_alloc w4 (.cells #[.slice a n c, .bool x] 64)))
        have G5 := Lib.hid (row_new w4 (.cells #[.slice a n c, .bool x] 64) rfl)
        clear S4 F4
        generalize w4.alloc (.cells #[.slice a n c, .bool x] 64) = w5 at *
        generalize w4.heap.size = r at *
        have c0 := cell_of_row _ r 0 _ _ _ G5.out
        have c1 := cell_of_row _ r 1 _ _ _ G5.out
      · go_upto_region 9 with (go_at_call 26; refine (U2.out _ (HA.out.on S5.out.2)).mono ?_; rintro e w6 ⟨rfl, hb⟩; have S6 := Lib.hid (S5.out.on hb); have F6 := Lib.hid (keepRow F5.out hb); have G6 := Lib.hid (keepRow G5.out hb); clear hb S5 F5 G5 U2 c0 c1)
        obtain ⟨⟨q0, q1, q2, q3⟩, f⟩ := row4 F6.out
        have c0 := cell_of_row _ r 0 _ _ _ G6.out
        have c1 := cell_of_row _ r 1 _ _ _ G6.out
        have f3 := f 3
        clear f
        go_upto_region 10 with (go_at_call 27; refine (UA.out _ (HA.out.on S6.out.2)).mono ?_; rintro e w7 ⟨rfl, hb⟩; have S7 := Lib.hid (S6.out.on hb); have F7 := Lib.hid (keepRow F6.out hb); have G7 := Lib.hid (keepRow G6.out hb); clear hb S6 F6 G6 UA c0 c1 q0 q1 q2 q3 f3; obtain ⟨⟨q0, q1, q2, q3⟩, f⟩ := row4 F7.out; have f3 := f 3; clear f)
        have S8 := Lib.hid (S7.out.far (q := q) QP.out 3 (.int .u32 (m2 : Nat)))
        have F8 := Lib.hid (show (w7.setCell ⟨q, 3, none⟩ (.int .u32 (m2 : Nat))).heap[q]? = some (.cells #[.bool x, .bool y, .int .u16 0, .int .u32 (m2 : Nat)] 26 (0, 0)) from heap_setCell_same _ _ 3 _ _ _ F7.out)
        have G8 := Lib.hid (show (w7.setCell ⟨q, 3, none⟩ (.int .u32 (m2 : Nat))).heap[r]? = some (.cells #[.slice a n c, .bool x] 64 (0, 0)) from (heap_setCell_other _ _ _ _ (by have := QR.out; simp; omega)).trans G7.out)
        clear S7 F7 G7 q0 q1 q2 q3 f3
        generalize w7.setCell ⟨q, 3, none⟩ (.int .u32 (m2 : Nat)) = w8 at *
        have c0 := cell_of_row _ r 0 _ _ _ G8.out
        have c1 := cell_of_row _ r 1 _ _ _ G8.out
        go_upto_region 11 with (go_at_call 27; refine (UB.out _ (HA.out.on S8.out.2)).mono ?_; rintro e w9 ⟨rfl, hb⟩; have S9 := Lib.hid (S8.out.on hb); have F9 := Lib.hid (keepRow F8.out hb); clear hb S8 F8 G8 UB c0 c1; obtain ⟨⟨q0, q1, q2, q3⟩, f⟩ := row4 F9.out; have f2 := f 2; clear f)
        have S10 := Lib.hid (S9.out.far (q := q) QP.out 2 (.int .u16 (z : Nat)))
        have F10 := Lib.hid (show (w9.setCell ⟨q, 2, none⟩ (.int .u16 (z : Nat))).heap[q]? = some (.cells #[.bool x, .bool y, .int .u16 (z : Nat), .int .u32 (m2 : Nat)] 26 (0, 0)) from heap_setCell_same _ _ 2 _ _ _ F9.out)
        clear S9 F9 q0 q1 q2 q3 f2
        generalize w9.setCell ⟨q, 2, none⟩ (.int .u16 (z : Nat)) = w10 at *
        obtain ⟨⟨q0, q1, q2, q3⟩, _⟩ := row4 F10.out
        obtain ⟨⟨c0, c1, c2, c3⟩, f⟩ := row4 S10.out.1
        have f0 := f 0
        have f1 := f 1
        have f2 := f 2
        have f3 := f 3
        clear f
        go_wp2
        refine bodyPost_ret (by simp [results, Tryd.results8, go_sem, c0, c1, c2, c3]) rfl ⟨rfl, ?_⟩
        have B2 := S10.out.2
        (repeat (first | (with_reducible exact Below.refl _ _) | (with_reducible assumption) | (with_reducible refine Below.drew ?_) | (with_reducible refine below_drewN ?_ _) | ((with_reducible refine Below.alloc ?_ ?_ _); rotate_left; (focus (first | (simp; done) | (simp; omega) | omega))) | ((with_reducible refine Below.setCell ?_ ?_ _); rotate_left; (focus (first | (simp; done) | (simp; omega) | omega))) | ((with_reducible refine Below.trans ?_ (Below.mono (by assumption) ?_)); rotate_left; (focus (first | (simp; done) | (simp; omega) | omega)))))
      · go_upto_region 8 with (go_at_call 26; refine (U2.out _ (HA.out.on S5.out.2)).mono ?_; rintro e w6 ⟨rfl, hb⟩; have S6 := Lib.hid (S5.out.on hb); clear hb S5 F5 G5 U2 c0 c1)
        obtain ⟨⟨c0, c1, c2, c3⟩, f⟩ := row4 S6.out.1
        have f0 := f 0
        have f1 := f 1
        have f2 := f 2
        have f3 := f 3
        clear f
        go_wp2
        refine bodyPost_ret (by simp [results, Tryd.results8, go_sem, c0, c1, c2, c3]) rfl ⟨rfl, ?_⟩
        have B2 := S6.out.2
        (repeat (first | (with_reducible exact Below.refl _ _) | (with_reducible assumption) | (with_reducible refine Below.drew ?_) | (with_reducible refine below_drewN ?_ _) | ((with_reducible refine Below.alloc ?_ ?_ _); rotate_left; (focus (first | (simp; done) | (simp; omega) | omega))) | ((with_reducible refine Below.setCell ?_ ?_ _); rotate_left; (focus (first | (simp; done) | (simp; omega) | omega))) | ((with_reducible refine Below.trans ?_ (Below.mono (by assumption) ?_)); rotate_left; (focus (first | (simp; done) | (simp; omega) | omega)))))
end Go.Proofs.YthmkfkmcamjnoaaDoor
