/-
  Plain arithmetic of stamps and eras: the nearest moment of a stamp. No walk here.
-/
import Derived.Test.YtcpnlifcjdahgaaDoorUnix
namespace Go.Proofs.YtcpnlifcjdahgaaDoor
open Go.RowKit
theorem unfold_plain {s x : Int} (hs : 0 ≤ s ∧ s ≤ 18446744073709551615) (hx : In x) :
    unfoldI s x = if loOf x < s ∧ -9223372036854775808 < hiOf x then (if 18446744073709551616 - (s - loOf x) ≤ s - loOf x then x + (s - loOf x) - 18446744073709551616 else x + (s - loOf x))
      else if s < loOf x ∧ hiOf x < 9223372036854775807 then (if loOf x - s ≤ 18446744073709551616 - (loOf x - s) then x - (loOf x - s) else x - (loOf x - s) + 18446744073709551616)
      else x + (s - loOf x) := by
  have e := split_eq x
  have hh := hi_bd hx
  have hl := lo_bd x
  unfold unfoldI nearer eraI
  generalize hiOf x = h at *
  generalize loOf x = l at *
  subst e
  by_cases c1 : l < s ∧ -9223372036854775808 < h
  · rw [if_pos c1, if_pos c1, sat_id (by unfold In; omega), sat_id (by unfold In; omega)]
    by_cases c : 18446744073709551616 - (s - l) ≤ s - l
    · rw [if_pos c, if_pos (by omega)]; omega
    · rw [if_neg c, if_neg (by omega)]; omega
  · rw [if_neg c1, if_neg c1]
    by_cases c2 : s < l ∧ h < 9223372036854775807
    · rw [if_pos c2, if_pos c2, sat_id (by unfold In; omega), sat_id (by unfold In; omega)]
      by_cases c : l - s ≤ 18446744073709551616 - (l - s)
      · rw [if_pos c, if_pos (by omega)]; omega
      · rw [if_neg c, if_neg (by omega)]; omega
    · rw [if_neg c2, if_neg c2]; omega
theorem unfold_words {s x : Int} (hs : 0 ≤ s ∧ s ≤ 18446744073709551615) (hx : In x) : In (unfoldI s x) ∧ loOf (unfoldI s x) = s := by
  have hh := hi_bd hx
  have hl := lo_bd x
  unfold unfoldI nearer
  have f : ∀ h : Int, -9223372036854775808 ≤ h ∧ h ≤ 9223372036854775807 → In (eraI h s) ∧ loOf (eraI h s) = s := fun h b => ⟨era_in b hs, (era_words hs).2⟩
  split
  · rename_i c; split
    · exact f _ (by omega)
    · exact f _ (by omega)
  · split
    · rename_i c; split
      · exact f _ (by omega)
      · exact f _ (by omega)
    · exact f _ (by omega)
theorem unfold_close {s x : Int} (hs : 0 ≤ s ∧ s ≤ 18446744073709551615) (hx : In x) (h : -9223372036854775808 < hiOf x ∧ hiOf x < 9223372036854775807) :
    -9223372036854775808 ≤ unfoldI s x - x ∧ unfoldI s x - x ≤ 9223372036854775808 := by
  rw [unfold_plain hs hx]
  have hl := lo_bd x
  generalize loOf x = l at *
  (repeat' split) <;> omega
theorem unfold_eq {w x : Int} (hw : In w) (hx : In x) (h : -9223372036854775808 < w - x ∧ w - x < 9223372036854775808) : unfoldI (loOf w) x = w := by
  rw [unfold_plain (lo_bd w) hx]
  have hl := lo_bd x
  have e := split_eq x
  have hh := hi_bd hx
  have hl2 := lo_bd w
  have e2 := split_eq w
  have hh2 := hi_bd hw
  generalize loOf x = l at *
  generalize hiOf x = k at *
  generalize loOf w = m at *
  generalize hiOf w = j at *
  subst e e2
  have : j = k ∨ j = k - 1 ∨ j = k + 1 := by omega
  rcases this with rfl | rfl | rfl
  all_goals (repeat' split) <;> omega
/-- How far two numbers are apart, as the statements ask it. -/
def distI (w x : Int) : Int := sat (if sat (w - x) < 0 then -sat (w - x) else sat (w - x))
theorem dist_lt {w x : Int} (h : distI w x < 9223372036854775808) : -9223372036854775808 < w - x ∧ w - x < 9223372036854775808 := by
  unfold distI sat minW maxW at h
  (repeat' split at h) <;> omega
theorem dist_le {w x : Int} (h : -9223372036854775808 ≤ w - x ∧ w - x ≤ 9223372036854775808) : distI w x ≤ 9223372036854775808 := by
  unfold distI
  rw [sat_id (x := w - x) (by unfold In; omega), sat_id (by unfold In; split <;> omega)]
  split <;> omega
/-- Of a greater moment a stamp's is not less. -/
theorem unfold_mono {s a b : Int} (hs : 0 ≤ s ∧ s ≤ 18446744073709551615) (ha : In a) (hb : In b) (h : a ≤ b) : unfoldI s a ≤ unfoldI s b := by
  rw [unfold_plain hs ha, unfold_plain hs hb]
  have hl := lo_bd a
  have e := split_eq a
  have hh := hi_bd ha
  have hl2 := lo_bd b
  have e2 := split_eq b
  have hh2 := hi_bd hb
  generalize loOf a = l at *
  generalize hiOf a = k at *
  generalize loOf b = m at *
  generalize hiOf b = j at *
  subst e e2
  have : k = j ∨ k + 1 = j ∨ k + 2 ≤ j := by omega
  rcases this with rfl | rfl | g
  all_goals (repeat' split) <;> omega
/-- .. and one era at least is between two that are not one. -/
theorem era_apart {s x y : Int} (hx : loOf x = s) (hy : loOf y = s) (h : x ≤ y) : x = y ∨ hiOf x < hiOf y := by
  have e := split_eq x
  have e2 := split_eq y
  rw [hx] at e; rw [hy] at e2
  omega
theorem unix_back {s f : Int} (hs : 0 ≤ s ∧ s ≤ 18446744073709551615) (hf : 0 ≤ f ∧ f ≤ 4294967295) : backS (unixI s f) = s ∧ backF (unixI s f) = f ∧ backOk (unixI s f) = true := by
  have d : backD (unixI s f) = s * 4294967296 + f := by unfold backD; rw [sat_id (by unfold In unixI; omega)]; unfold unixI; omega
  have q : (s * 4294967296 + f) / 4294967296 = s := by omega
  have r : (s * 4294967296 + f) % 4294967296 = f := by omega
  have h0 : hiOf s = 0 := by unfold hiOf; omega
  have l0 : loOf s = s := by unfold loOf; omega
  unfold backS backF backOk
  rw [d, q, r, h0, l0]
  exact ⟨rfl, rfl, rfl⟩
theorem unix_lt {s f t g : Int} (hf : 0 ≤ f ∧ f ≤ 4294967295) (hg : 0 ≤ g ∧ g ≤ 4294967295) : unixI s f < unixI t g ↔ (s < t ∨ (s = t ∧ f < g)) := by unfold unixI; omega
end Go.Proofs.YtcpnlifcjdahgaaDoor
