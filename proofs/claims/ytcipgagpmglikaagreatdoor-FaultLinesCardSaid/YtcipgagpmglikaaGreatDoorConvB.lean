/-
  A row of bytes as a string.
-/
import Derived.Test.YtcipgagpmglikaaGreatDoorHex
import Derived.Lib.BytesEntry
namespace Go.Proofs.YtcipgagpmglikaaGreatDoor
open Go.RowKit Go.Sort
set_option maxRecDepth 8000
theorem conv_bytes {w : World} {v : Value} {l : List UInt8} (h : Bytes w v l) : (convert 49 9 v).run Tryz.prog w = .ok (.string ⟨l.toArray⟩) w := by
  obtain ⟨a, c, rfl, h⟩ := h
  rcases h with rfl | ⟨b, o, rfl, _, hc⟩
  · rw [run_convert_bytes_string w 49 9 5 a _ c Tryz.underlying49 Tryz.underlying5 Tryz.underlying9]
    cases a <;> simp [Conv.bytesToString] <;> rfl
  · exact run_convert_bytes_back (P := Tryz.prog) w 49 9 5 ⟨b, o, none⟩ c l Tryz.underlying49 Tryz.underlying5 Tryz.underlying9 (fun j hj => by
      rw [Lib.add_plain]; exact hc j hj)
end Go.Proofs.YtcipgagpmglikaaGreatDoor
