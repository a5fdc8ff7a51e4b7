/-
  A row of bytes as a string.
-/
import Derived.Test.YtjdnekkbmanmdaaDoorBytes
import Derived.Lib.BytesEntry
namespace Go.Proofs.YtjdnekkbmanmdaaDoor
open Go.RowKit Go.Sort
set_option maxRecDepth 8000
theorem conv_bytes {w : World} {v : Value} {l : List UInt8} (h : Bytes w v l) : (convert 23 9 v).run Tryd.prog w = .ok (.string ⟨l.toArray⟩) w := by
  obtain ⟨a, c, rfl, h⟩ := h
  rcases h with rfl | ⟨b, o, rfl, _, hc⟩
  · rw [run_convert_bytes_string w 23 9 5 a _ c Tryd.underlying23 Tryd.underlying5 Tryd.underlying9]
    cases a <;> simp [Conv.bytesToString] <;> rfl
  · exact run_convert_bytes_back (P := Tryd.prog) w 23 9 5 ⟨b, o, none⟩ c l Tryd.underlying23 Tryd.underlying5 Tryd.underlying9 (fun j hj => by
      rw [addr_add]; exact hc j hj)
end Go.Proofs.YtjdnekkbmanmdaaDoor
