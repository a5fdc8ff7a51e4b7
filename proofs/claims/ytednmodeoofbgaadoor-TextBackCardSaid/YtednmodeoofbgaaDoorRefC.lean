/-
  The document's numbers: Size, Neg and Cmp.
-/
import Derived.Test.YtednmodeoofbgaaDoorRefB
import Derived.Deep.CutRange
namespace Go.Proofs.YtednmodeoofbgaaDoor
open Go.RowKit
/-- -1, 0 or 1. -/
def sgz (x y : Int) : Int := if x < y then -1 else if y < x then 1 else 0
/-- A size of 20 pieces. -/
def Sz (m : Int) : Prop := 0 ≤ m ∧ m < 65536 ^ 20
theorem step65 (m : Int) (j : Nat) : m / 65536 ^ j = m / 65536 ^ (j + 1) * 65536 + dig m j := by
  rw [div_succ65]; unfold dig; omega
theorem lt_of_dig {m n : Int} {j : Nat} (h : m / 65536 ^ (j + 1) = n / 65536 ^ (j + 1)) (hd : dig m j < dig n j) : m < n := by
  have h1 := step65 m j
  have h2 := step65 n j
  rw [h] at h1
  refine Int.lt_of_not_ge fun hge => ?_
  have := Int.ediv_le_ediv (pow_pos65 j) hge
  omega
theorem eq_of_dig {m n : Int} {j : Nat} (h : m / 65536 ^ (j + 1) = n / 65536 ^ (j + 1)) (hd : dig m j = dig n j) : m / 65536 ^ j = n / 65536 ^ j := by
  rw [step65 m j, step65 n j, h, hd]
theorem top65 {m n : Int} (hm : Sz m) (hn : Sz n) : m / 65536 ^ 20 = n / 65536 ^ 20 := by rw [Int.ediv_eq_zero_of_lt hm.1 hm.2, Int.ediv_eq_zero_of_lt hn.1 hn.2]
def SizeInv (m n : Int) (i : Value) : Prop := (∃ j : Nat, j < 20 ∧ i = .int .i64 j ∧ m / 65536 ^ (j + 1) = n / 65536 ^ (j + 1)) ∨ (i = .int .i64 (-1) ∧ m = n)
set_option maxHeartbeats 2000000 in
theorem size_any (b c : Bool) (m n : Int) (hm : Sz m) (hn : Sz n) (w : World) :
    Calls Tryd.prog 37 #[.agg (numC b (dig m)), .agg (numC c (dig n))] w fun e w' => e = .returned (.int .i64 (sgz m n)) ∧ Below w.heap.size w w' := by
  have T := Lib.hid (top65 hm hn)
  have A : Hid (NumAt ((w.alloc (.cells (numC b (dig m)) 28)).alloc (.cells (numC c (dig n)) 28)) w.heap.size b (dig m)) := Lib.hid ((NumAt.new w b (dig m) rfl).alloc _)
  have B : Hid (NumAt ((w.alloc (.cells (numC b (dig m)) 28)).alloc (.cells (numC c (dig n)) 28)) (w.heap.size + 1) c (dig n)) := Lib.hid (NumAt.new _ c (dig n) (by simp))
  have W : Hid (Below w.heap.size w ((w.alloc (.cells (numC b (dig m)) 28)).alloc (.cells (numC c (dig n)) 28))) := Lib.hid (by (repeat (first | (with_reducible exact Below.refl _ _) | (with_reducible assumption) | (with_reducible refine Below.drew ?_) | (with_reducible refine below_drewN ?_ _) | ((with_reducible refine Below.alloc ?_ ?_ _); rotate_left; (focus (first | (simp; done) | (simp; omega) | omega))) | ((with_reducible refine Below.setCell ?_ ?_ _); rotate_left; (focus (first | (simp; done) | (simp; omega) | omega))) | ((with_reducible refine Below.trans ?_ (Below.mono (by assumption) ?_)); rotate_left; (focus (first | (simp; done) | (simp; omega) | omega))))))
  clear hm hn
  go_enter Tryd.func37, Tryd.ntmps37
  go_upto_region 1 with fail
  generalize (w.alloc (.cells (numC b (dig m)) 28)).alloc (.cells (numC c (dig n)) 28) = w0 at *
  go_wp2
  go_loopw [5] (fun i wr => SizeInv m n i ∧ ∃ d, wr = w0.drewN d) (fun i _ => (intOf i + 1).toNat)
  case atStart => exact ⟨.inl ⟨19, by omega, rfl, T.out⟩, 0, rfl⟩
  case round =>
    obtain ⟨hi, d, rfl⟩ := hrel
    rcases hi with ⟨j, hj, rfl, he⟩ | ⟨rfl, he⟩
    · have He := Lib.hid he
      clear he
      have c1 := A.out.cell hj
      have c2 := B.out.cell hj
      have d1 := dig_bd m j
      have d2 := dig_bd n j
      rcases Int.lt_trichotomy (dig m j) (dig n j) with h | h | h
      · have k1 : decide (dig m j < dig n j) = true := by simpa using h
        have Hf := Lib.hid (lt_of_dig He.out h)
        clear h
        go_wp2
        go_quiet (fail)
        go_wp2
        go_ret
        exact ⟨by rw [show sgz m n = -1 from if_pos Hf.out]; rfl, by (repeat (first | exact Below.refl _ _ | assumption | (refine Below.drew ?_) | (refine below_drewN ?_ _) | (refine Below.alloc ?_ (by first | (simp; done) | (simp; omega) | omega) _) | (refine Below.setCell ?_ (by first | (simp; done) | (simp; omega) | omega) _) | (refine Below.trans ?_ (Below.mono (by assumption) (by first | (simp; done) | (simp; omega) | omega)))))⟩
      · have k1 : decide (dig m j < dig n j) = false := by simp; omega
        have k2 : decide (dig n j < dig m j) = false := by simp; omega
        have Hf := Lib.hid (eq_of_dig He.out h)
        clear h
        go_wp2
        go_quiet (fail)
        go_wp2
        go_quiet (fail)
        go_wp2
        go_roundw
        case rel =>
          refine ⟨?_, _, rfl⟩
          rcases Nat.eq_zero_or_pos j with rfl | hp
          · exact .inr ⟨rfl, by have := Hf.out; simpa using this⟩
          · exact .inl ⟨j - 1, by omega, by rw [show ((j - 1 : Nat) : Int) = (j : Int) - 1 by omega], by rw [show j - 1 + 1 = j by omega]; exact Hf.out⟩
        case measure => simp [intOf]
      · have k1 : decide (dig m j < dig n j) = false := by simp; omega
        have k2 : decide (dig n j < dig m j) = true := by simpa using h
        have Hf := Lib.hid (lt_of_dig He.out.symm h)
        clear h
        go_wp2
        go_quiet (fail)
        go_wp2
        go_quiet (fail)
        go_wp2
        go_ret
        exact ⟨by rw [show sgz m n = 1 from by have := Hf.out; unfold sgz; rw [if_neg (by omega), if_pos this]]; rfl, by (repeat (first | exact Below.refl _ _ | assumption | (refine Below.drew ?_) | (refine below_drewN ?_ _) | (refine Below.alloc ?_ (by first | (simp; done) | (simp; omega) | omega) _) | (refine Below.setCell ?_ (by first | (simp; done) | (simp; omega) | omega) _) | (refine Below.trans ?_ (Below.mono (by assumption) (by first | (simp; done) | (simp; omega) | omega)))))⟩
    · have He := Lib.hid he
      clear he
      go_wp2
      go_ret
      exact ⟨by rw [show sgz m n = 0 from by have := He.out; unfold sgz; rw [if_neg (by omega), if_neg (by omega)]]; rfl, by (repeat (first | exact Below.refl _ _ | assumption | (refine Below.drew ?_) | (refine below_drewN ?_ _) | (refine Below.alloc ?_ (by first | (simp; done) | (simp; omega) | omega) _) | (refine Below.setCell ?_ (by first | (simp; done) | (simp; omega) | omega) _) | (refine Below.trans ?_ (Below.mono (by assumption) (by first | (simp; done) | (simp; omega) | omega)))))⟩
theorem NumAt.sign {w : World} {g : Nat} {b : Bool} {f : Nat → Int} (h : NumAt w g b f) (c : Bool) : NumAt (w.setCell ⟨g, 0, none⟩ (.bool c)) g c f :=
  (heap_setCell_same w g 0 _ _ _ h).trans (by rw [numC_sign])
/-- Which is below 0, and which is greater, of two numbers that are told by sign and size. -/
def ngz (b : Bool) (m : Int) : Bool := b && !decide (m = 0)
def vz (b : Bool) (m : Int) : Int := if b then -m else m
theorem allZ_dig {m : Int} (h : Sz m) : allZ (dig m) = decide (m = 0) := by
  by_cases e : m = 0
  · subst e
    rw [allZ_true (fun i _ => by unfold dig; simp)]; simp
  · have hn : decide (m = 0) = false := by simpa using e
    rw [hn]
    cases ha : allZ (dig m)
    · rfl
    · exfalso
      have hz : ∀ i, i < 20 → dig m i = 0 := fun i hi => by
        cases hd : decide (dig m i = 0)
        · have := allZ_false hi (by simpa using hd); rw [ha] at this; cases this
        · simpa using hd
      have hk : ∀ k, k ≤ 20 → m / 65536 ^ (20 - k) = 0 := by
        intro k
        induction k with
        | zero => intro _; exact Int.ediv_eq_zero_of_lt h.1 h.2
        | succ n ih =>
          intro hn
          have e1 := ih (by omega)
          have e2 := step65 m (20 - (n + 1))
          rw [show 20 - (n + 1) + 1 = 20 - n by omega, e1, hz _ (by omega)] at e2
          rw [e2]; rfl
      exact e (by simpa using hk 20 (by omega))
theorem rzero_any (b : Bool) (m : Int) (h : Sz m) (w : World) :
    Calls Tryd.prog 31 #[.agg (numC b (dig m))] w fun e w' => e = .returned (.bool (decide (m = 0))) ∧ Below w.heap.size w w' := by
  have := zero_any b (dig m) (fun i _ => (dig_bd m i).1) w
  rw [allZ_dig h] at this
  exact this
end Go.Proofs.YtednmodeoofbgaaDoor
