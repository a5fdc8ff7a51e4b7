/-
  Plain lemmas (no model): a frame whose second length is harmed in one byte.
-/
import Derived.Test.YtjdnekkbmanmdaaDoorBlock
namespace Go.Proofs.YtjdnekkbmanmdaaDoor
/-- The second length, one byte of it turned. -/
def harmB (b : Bool) (n j : Nat) (h : UInt8) : List UInt8 := (ord b (lowB n 4)).set j ((ord b (lowB n 4)).getD j 0 ^^^ h)
theorem harmB_length (b : Bool) (n j : Nat) (h : UInt8) : (harmB b n j h).length = 4 := by unfold harmB; rw [List.length_set, four_length]
theorem xor_self8 {x h : UInt8} (e : x ^^^ h = x) : h = 0 := by
  have : x ^^^ h = x ^^^ 0 := by rw [e]; simp
  exact (UInt8.xor_right_inj x).1 this
theorem harmB_ne (b : Bool) (n j : Nat) (h : UInt8) (hj : j < 4) (hh : h ≠ 0) : harmB b n j h ≠ ord b (lowB n 4) := by
  intro e
  have L := four_length n b
  have e1 : (harmB b n j h)[j]? = some ((ord b (lowB n 4)).getD j 0 ^^^ h) := by unfold harmB; rw [List.getElem?_set_self (by rw [L]; exact hj)]
  have e2 : (ord b (lowB n 4))[j]? = some ((ord b (lowB n 4)).getD j 0) := by
    rw [List.getD_eq_getElem?_getD, List.getElem?_eq_getElem (by rw [L]; exact hj)]; rfl
  rw [e, e2, Option.some.injEq] at e1
  exact hh (xor_self8 e1.symm)
section
variable (kind : Nat) (body : List UInt8) (b : Bool) (more : List UInt8) (j : Nat) (hj : j < 4)
include hj
theorem harm_get : (frameB kind body b ++ more)[8 + body.length + j]? = some ((ord b (lowB (12 + body.length) 4)).getD j 0) := by
  have e : frameB kind body b ++ more = (ord b (lowB kind 4) ++ ord b (lowB (12 + body.length) 4) ++ body) ++ (ord b (lowB (12 + body.length) 4) ++ more) := by unfold frameB; simp only [List.append_assoc]
  have P : (ord b (lowB kind 4) ++ ord b (lowB (12 + body.length) 4) ++ body).length = 8 + body.length := by simp [four_length]; omega
  have L := four_length (12 + body.length) b
  rw [e, List.getElem?_append_right (by rw [P]; omega), P, show 8 + body.length + j - (8 + body.length) = j by omega, List.getElem?_append_left (by rw [L]; exact hj)]
  rw [List.getD_eq_getElem?_getD, List.getElem?_eq_getElem (by rw [L]; exact hj)]; rfl
theorem harm_set (y : UInt8) : (frameB kind body b ++ more).set (8 + body.length + j) y = ord b (lowB kind 4) ++ ord b (lowB (12 + body.length) 4) ++ body ++ (ord b (lowB (12 + body.length) 4)).set j y ++ more := by
  have e : frameB kind body b ++ more = (ord b (lowB kind 4) ++ ord b (lowB (12 + body.length) 4) ++ body) ++ (ord b (lowB (12 + body.length) 4) ++ more) := by unfold frameB; simp only [List.append_assoc]
  have P : (ord b (lowB kind 4) ++ ord b (lowB (12 + body.length) 4) ++ body).length = 8 + body.length := by simp [four_length]; omega
  have L := four_length (12 + body.length) b
  rw [e, List.set_append_right _ _ (by rw [P]; omega), P, show 8 + body.length + j - (8 + body.length) = j by omega, List.set_append_left _ _ (by rw [L]; exact hj)]
  simp only [List.append_assoc]
end
end Go.Proofs.YtjdnekkbmanmdaaDoor
