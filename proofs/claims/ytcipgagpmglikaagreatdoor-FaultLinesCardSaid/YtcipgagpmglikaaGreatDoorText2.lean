/-
  Plain lemmas: the digits of a number summed downwards, with the bounds; when a text is no number's.
-/
import Derived.Test.YtcipgagpmglikaaGreatDoorText
import Derived.Test.YtcipgagpmglikaaGreatDoorSay
namespace Go.Proofs.YtcipgagpmglikaaGreatDoor
open Go.Lib
def stepW (a : Int) (c : Int) : Int := sat (sat (a * 10) - digV c)
def accW (l : List UInt8) : Int := l.foldl (fun a c => stepW a (c.toNat : Int)) 0
theorem accW_append (l : List UInt8) (c : UInt8) : accW (l ++ [c]) = stepW (accW l) (c.toNat : Int) := by simp [accW, List.foldl_append]
theorem accW_in (l : List UInt8) : In (accW l) := by
  unfold accW
  have : ∀ (l : List UInt8) (a : Int), In a → In (l.foldl (fun a c => stepW a (c.toNat : Int)) a) := by
    intro l
    induction l with
    | nil => exact fun a h => h
    | cons c l ih => exact fun a _ => ih _ (sat_in _)
  exact this l 0 (by unfold In; omega)
theorem digV_dec {c : Int} (h : 48 ≤ c ∧ c ≤ 57) : digV c = c - 48 := by unfold digV; rw [if_neg (by omega), if_pos h]
theorem stepW_dec (u : Nat) (d : Nat) (h : 10 * u + d ≤ 170141183460469231731687303715884105728) (hd : d < 10) : stepW (-(u : Int)) (48 + d) = -((10 * u + d : Nat) : Int) := by
  unfold stepW
  rw [digV_dec (by omega)]
  rw [sat_id (x := -(u : Int) * 10) (by unfold In; omega), sat_id (by unfold In; omega)]
  omega
theorem accW_dec (u : Nat) (h : u ≤ 170141183460469231731687303715884105728) : accW (decDigits u) = -(u : Int) := by
  induction u using Nat.strongRecOn with
  | _ u ih =>
    by_cases hu : u < 10
    · rw [decDigits, dif_pos hu]
      have e := stepW_dec 0 u (by omega) hu
      have := dig_toNat u hu
      show stepW 0 ((UInt8.ofNat (48 + u)).toNat : Int) = _
      rw [this]
      simpa using e
    · rw [dec_big hu, accW_append, ih (u / 10) (by omega) (by omega), dig_toNat _ (by omega)]
      have e := stepW_dec (u / 10) (u % 10) (by omega) (by omega)
      rw [show 10 * (u / 10) + u % 10 = u by omega] at e
      simpa using e
/-- A wide number's text. -/
def numW (l : List UInt8) : Option Int := num? (-170141183460469231731687303715884105728) 170141183460469231731687303715884105727 l
theorem in_iff {n : Int} : In n ↔ -170141183460469231731687303715884105728 ≤ n ∧ n ≤ 170141183460469231731687303715884105727 := by unfold In; omega
/-- What the loop leaves, with its sign. -/
def endW (l : List UInt8) : Int := if minus l then accW (bare l) else sat (-(accW (bare l)))
theorem endW_itoa {n : Int} (h : In n) : endW (itoa n) = n := by
  have hn := in_iff.1 h
  unfold endW
  rw [bare_itoa, minus_itoa, accW_dec _ (by omega)]
  by_cases c : n < 0
  · simp [c]; omega
  · have : sat (- -(n.natAbs : Int)) = n := by rw [sat_id (by unfold In; omega)]; omega
    simp [c]
    simpa using this
theorem numW_end {l : List UInt8} : numW l = if itoa (endW l) = l then some (endW l) else none := by
  split
  · rename_i h
    have hi : In (endW l) := by unfold endW; split; exact accW_in _; exact sat_in _
    have := num?_itoa (in_iff.1 hi)
    rw [h] at this
    exact this
  · rename_i h
    refine num?_of_not fun n hn e => h ?_
    rw [← e, endW_itoa (in_iff.2 hn)]
theorem numW_long {l : List UInt8} (h : 40 < l.length) : numW l = none :=
  num?_of_not fun n hn e => by have := itoa_length_le hn; rw [e] at this; omega
/-- A letter that is none of the ten. -/
theorem numW_bad {l : List UInt8} {c : UInt8} (hc : c ∈ bare l) (h : c.toNat < 48 ∨ 57 < c.toNat) : numW l = none :=
  num?_of_not fun n hn e => by
    rw [← e, bare_itoa] at hc
    have := dec_all _ c hc
    omega
end Go.Proofs.YtcipgagpmglikaaGreatDoor
