/-
  errors.Unwrap of whatever is made; a note's own.
-/
import Derived.Test.YtjdnekkbmanmdaaDoorErr
namespace Go.Proofs.YtjdnekkbmanmdaaDoor
open Go.RowKit Go.Sort
set_option maxRecDepth 8000
/-- What lies there, or nil. -/
def IsOpt (w : World) (o : Option Er) (v : Value) : Prop := match o with | none => v = .nilIface | some e => IsEr w e v
theorem IsOpt.on {w w' : World} {o : Option Er} {v : Value} (h : IsOpt w o v) (hb : Below w.heap.size w w') : IsOpt w' o v := by
  cases o with
  | none => exact h
  | some e => exact IsEr.on hb h
theorem un_note (b : Nat) (s : ByteArray) (u : Value) (w : World) (h : Blk w b 79 #[.string s, u]) : Calls Tryd.prog 39 #[.iface 76 (.pointer (some ⟨b, 0, none⟩))] w fun e w' => e = .returned u ∧ w' = w := by
  have H := Lib.hid h
  have a := uwN
  clear h
  go_enter Tryd.func39, Tryd.ntmps39
  go_wp2_with (go_at_call 65; refine (m_note _ _ _ _ H.out).mono ?_; rintro e w1 ⟨rfl, rfl⟩)
  go_ret
  exact ⟨rfl, rfl⟩
theorem t_unwrap (e : Er) (v : Value) (w : World) (h : IsEr w e v) : Calls Tryd.prog 39 #[v] w fun ex w' => (∃ u, ex = .returned u ∧ IsOpt w' e.un u) ∧ Below w.heap.size w w' := by
  cases e with
  | sort k =>
    cases h
    have a := uwS
    go_enter Tryd.func39, Tryd.ntmps39
    go_wp2
    go_ret
    exact ⟨⟨_, rfl, rfl⟩, Below.refl _ _⟩
  | fault k o =>
    cases h
    have a := uwF
    go_enter Tryd.func39, Tryd.ntmps39
    go_wp2_with (go_at_call 63; refine (m_sort _ _ _).mono ?_; rintro e w1 ⟨rfl, hb⟩)
    go_ret
    exact ⟨⟨_, rfl, rfl⟩, hb⟩
  | note s e =>
    obtain ⟨b, u, rfl, h1, h2⟩ := h
    exact (un_note b s u w h1).mono fun ex w' ⟨h, hw⟩ => by subst hw; exact ⟨⟨u, h, h2⟩, Below.refl _ _⟩
end Go.Proofs.YtjdnekkbmanmdaaDoor
