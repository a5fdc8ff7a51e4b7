/-
  The bytes of a text.
-/
import Derived.Test.YtjdnekkbmanmdaaDoorLow
import Derived.Laws.RangeAny
import Derived.Lib.OthersKept
namespace Go.Proofs.YtjdnekkbmanmdaaDoor
set_option maxRecDepth 8000
theorem len_list (s : ByteArray) : s.data.toList.length = s.size := by simp
theorem byte_mem (s : ByteArray) (p : Nat) (h : p < s.size) : s[p] ∈ s.data.toList := by
  have : s[p] = s.data.toList[p]'(by simpa using h) := rfl
  rw [this]; exact List.getElem_mem _
theorem take_byte (s : ByteArray) (p : Nat) (h : p < s.size) : s.data.toList.take (p + 1) = s.data.toList.take p ++ [s[p]] := by
  rw [List.take_succ_eq_append_getElem (by simpa using h)]; rfl
theorem take_all (s : ByteArray) (p : Nat) (h : ¬ p < s.size) : s.data.toList.take p = s.data.toList := List.take_of_length_le (by rw [len_list]; omega)
end Go.Proofs.YtjdnekkbmanmdaaDoor
