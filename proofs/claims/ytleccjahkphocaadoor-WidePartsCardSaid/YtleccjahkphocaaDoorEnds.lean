/-
  The statements' own 'ends', and what lies where while the law of package wide runs.
-/
import Derived.Test.YtleccjahkphocaaDoorKnown
namespace Go.Proofs.YtleccjahkphocaaDoor
open Go.RowKit Go.Sort
def endsB (x : Int) : Bool := decide (x = maxW) || decide (x = minW)
theorem ends_facts (x : Int) : (x = maxW) ∨ (x = minW) ∨ (endsB x = false ∧ hiOf x ≠ 9223372036854775807 ∧ hiOf x ≠ -9223372036854775808) ∨
    (endsB x = false ∧ hiOf x ≠ 9223372036854775807 ∧ hiOf x = -9223372036854775808 ∧ loOf x ≠ 0) ∨ (endsB x = false ∧ hiOf x = 9223372036854775807 ∧ loOf x ≠ 18446744073709551615) := by
  by_cases h1 : x = maxW
  · exact .inl h1
  by_cases h2 : x = minW
  · exact .inr (.inl h2)
  have e : endsB x = false := by unfold endsB; simp [h1, h2]
  have := split_eq x
  unfold maxW at h1
  unfold minW at h2
  by_cases h3 : hiOf x = 9223372036854775807
  · exact .inr (.inr (.inr (.inr ⟨e, h3, by omega⟩)))
  by_cases h4 : hiOf x = -9223372036854775808
  · exact .inr (.inr (.inr (.inl ⟨e, h3, h4, by omega⟩)))
  exact .inr (.inr (.inl ⟨e, h3, h4⟩))
set_option maxHeartbeats 1000000 in
theorem ends_any (x : Int) (w : World) :
    Calls Tryd.prog 29 #[.agg #[.int .i64 (hiOf x), .int .u64 (loOf x)]] w fun e w' => e = .returned (.bool (endsB x)) ∧ Below w.heap.size w w' := by
  rcases ends_facts x with rfl | rfl | ⟨e, h1, h2⟩ | ⟨e, h1, h2, h3⟩ | ⟨e, h1, h2⟩
  · rw [show endsB maxW = true from rfl, show hiOf maxW = 9223372036854775807 from rfl, show loOf maxW = 18446744073709551615 from rfl]
    go_enter Tryd.func29, Tryd.ntmps29
    go_wp2
    go_ret
    exact ⟨rfl, by (repeat (first | exact Below.refl _ _ | assumption | (refine Below.drew ?_) | (refine Below.alloc ?_ (by first | (simp; done) | (simp; omega) | omega) _) | (refine Below.setCell ?_ (by first | (simp; done) | (simp; omega) | omega) _) | (refine Below.trans ?_ (Below.mono (by assumption) (by first | (simp; done) | (simp; omega) | omega)))))⟩
  · rw [show endsB minW = true from rfl, show hiOf minW = -9223372036854775808 from rfl, show loOf minW = 0 from rfl]
    go_enter Tryd.func29, Tryd.ntmps29
    go_wp2
    go_ret
    exact ⟨rfl, by (repeat (first | exact Below.refl _ _ | assumption | (refine Below.drew ?_) | (refine Below.alloc ?_ (by first | (simp; done) | (simp; omega) | omega) _) | (refine Below.setCell ?_ (by first | (simp; done) | (simp; omega) | omega) _) | (refine Below.trans ?_ (Below.mono (by assumption) (by first | (simp; done) | (simp; omega) | omega)))))⟩
  · rw [e]
    have k1 : (hiOf x == 9223372036854775807) = false := by simpa using h1
    have k2 : (hiOf x == -9223372036854775808) = false := by simpa using h2
    clear e h1 h2
    go_enter Tryd.func29, Tryd.ntmps29
    go_wp2
    go_ret
    exact ⟨rfl, by (repeat (first | exact Below.refl _ _ | assumption | (refine Below.drew ?_) | (refine Below.alloc ?_ (by first | (simp; done) | (simp; omega) | omega) _) | (refine Below.setCell ?_ (by first | (simp; done) | (simp; omega) | omega) _) | (refine Below.trans ?_ (Below.mono (by assumption) (by first | (simp; done) | (simp; omega) | omega)))))⟩
  · rw [e, h2]
    have k3 : (loOf x == 0) = false := by simpa using h3
    clear e h1 h2 h3
    go_enter Tryd.func29, Tryd.ntmps29
    go_wp2
    go_ret
    exact ⟨rfl, by (repeat (first | exact Below.refl _ _ | assumption | (refine Below.drew ?_) | (refine Below.alloc ?_ (by first | (simp; done) | (simp; omega) | omega) _) | (refine Below.setCell ?_ (by first | (simp; done) | (simp; omega) | omega) _) | (refine Below.trans ?_ (Below.mono (by assumption) (by first | (simp; done) | (simp; omega) | omega)))))⟩
  · rw [e, h1]
    have k3 : (loOf x == 18446744073709551615) = false := by simpa using h2
    clear e h1 h2
    go_enter Tryd.func29, Tryd.ntmps29
    go_wp2
    go_ret
    exact ⟨rfl, by (repeat (first | exact Below.refl _ _ | assumption | (refine Below.drew ?_) | (refine Below.alloc ?_ (by first | (simp; done) | (simp; omega) | omega) _) | (refine Below.setCell ?_ (by first | (simp; done) | (simp; omega) | omega) _) | (refine Below.trans ?_ (Below.mono (by assumption) (by first | (simp; done) | (simp; omega) | omega)))))⟩
theorem g_ends (x : Int) : Gives 29 #[.agg #[.int .i64 (hiOf x), .int .u64 (loOf x)]] (.bool (endsB x)) := fun w _ => ends_any x w
theorem g_ends_at (x : Int) (b : Bool) (h : endsB x = b) : Gives 29 #[.agg #[.int .i64 (hiOf x), .int .u64 (loOf x)]] (.bool b) := h ▸ g_ends x
theorem g_known : Gives 8 #[] (.bool true) := fun w hg => known_any w hg
/-! ### The plain laws -/
theorem sat_not_end {t : Int} (h : endsB (sat t) = false) : sat t = t ∧ In t := by
  unfold endsB sat minW maxW at h
  simp only [Bool.or_eq_false_iff, decide_eq_false_iff_not] at h
  unfold sat minW maxW In
  split <;> (try split) <;> simp_all <;> omega
theorem law_back (x y : Int) (hx : In x) (hy : In y) (h : endsB (sat (x + y)) = false) : sat (sat (x + y) - y) = x ∧ sat (sat (x + y) - x) = y := by
  obtain ⟨e, _⟩ := sat_not_end h
  rw [e]
  exact ⟨by rw [show x + y - y = x by omega]; exact sat_id hx, by rw [show x + y - x = y by omega]; exact sat_id hy⟩
theorem law_assoc (x y z : Int) (h1 : endsB (sat (x + y)) = false) (h2 : endsB (sat (y + z)) = false) : sat (sat (x + y) + z) = sat (x + sat (y + z)) := by
  rw [(sat_not_end h1).1, (sat_not_end h2).1, Int.add_assoc]
theorem sat_mono {s t : Int} (h : s ≤ t) : sat s ≤ sat t := by unfold sat minW maxW; split <;> split <;> (try split) <;> (try split) <;> omega
theorem law_mono (x y z : Int) (h : x < y) : ¬ sat (y + z) < sat (x + z) := by have := sat_mono (show x + z ≤ y + z by omega); omega
theorem law_cmp (x y z : Int) (h1 : endsB (sat (x + z)) = false) (h2 : endsB (sat (y + z)) = false) : sgn (sat (x + z)) (sat (y + z)) = sgn x y := by
  rw [(sat_not_end h1).1, (sat_not_end h2).1]
  unfold sgn
  split <;> split <;> (try split) <;> (try split) <;> omega
theorem law_div (x n : Int) (hx : In x) (hn : 0 < n) (hn2 : n ≤ 4294967295) (h : -9223372036854775808 < hiOf x) : sat (sat (x / n * n) + x % n) = x := by
  have m0 := Int.emod_nonneg x (show n ≠ 0 by omega)
  have m1 := Int.emod_lt_of_pos x hn
  have e := Int.ediv_mul_add_emod x n
  have e2 : x / n * n = x - x % n := by omega
  rw [e2]
  have : In (x - x % n) := by unfold In at *; unfold hiOf at h; omega
  rw [sat_id this, show x - x % n + x % n = x by omega, sat_id hx]
theorem law_half (x : Int) (hx : In x) : sat (x - sat (x / 2 + x / 2)) = x % 2 := by
  have : In (x / 2 + x / 2) := by unfold In at *; omega
  rw [sat_id this, show x - (x / 2 + x / 2) = x % 2 by omega, sat_id (by unfold In; omega)]
end Go.Proofs.YtleccjahkphocaaDoor
