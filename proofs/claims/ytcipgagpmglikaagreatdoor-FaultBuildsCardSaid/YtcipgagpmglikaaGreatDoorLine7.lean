/-
  fault.Line.
-/
import Derived.Test.YtcipgagpmglikaaGreatDoorLine6
namespace Go.Proofs.YtcipgagpmglikaaGreatDoor
open Go.RowKit Go.Sort
set_option maxRecDepth 8000
theorem Er.core_plain {e : Er} (h : e.plain) : ∃ k o, e.core = .fault k o := by
  induction e with
  | note s e ih => exact ih h.2
  | fault k o => exact ⟨k, o, rfl⟩
  | sort k => cases h
  | own a => cases h
  | around e ih => cases h
  | join a e ih => cases h
/-- What a chain of notes is around, where it is no fault. -/
def bareO : Option Er → Bool
  | none => true
  | some (.fault _ _) => false
  | some (.note _ _) => false
  | some _ => true
theorem ft_bare (o : Option Er) (v : Value) (w : World) (h : IsOpt w o v) (hb : bareO o = true) : ∀ xT w', (Instr.typeAssert v xT 63 true).run Tryz.prog w' = .ok (.tuple #[.agg #[.int .i64 0, .int .i64 0], .bool false]) w' := by
  cases o with
  | none => cases h; exact ftnil
  | some e =>
    cases e with
    | sort k => cases h; exact ftS _
    | fault k o => cases hb
    | own a => obtain ⟨rfl, -⟩ := h; exact ftO _
    | note s e => cases hb
    | around e => obtain ⟨u, rfl, -⟩ := h; exact ftA _
    | join a e => obtain ⟨b, g, c, u, s, rfl, -⟩ := h; exact ftJ _
theorem line_no (o : Option Er) (v : Value) (w : World) (ho : IsOpt w o v) (hsz : sizO o ≤ 4000) (hb : bareO (coreO o) = true) :
    Calls Tryz.prog 11 #[v] w fun ex w' => ex = .returned (.tuple #[.string ⟨#[]⟩, .bool false]) ∧ Below w.heap.size w w' := by
  have P := Lib.hid (t_peel o v w ho hsz)
  have F := Lib.hid (fun u (h : IsOpt w (coreO o) u) => ft_bare _ u w h hb)
  clear ho hsz hb
  go_enter Tryz.func11, Tryz.ntmps11
  go_wp2_with (refine P.out.mono ?_; rintro q w1 ⟨⟨l, u, rfl, h1, h2⟩, hb1⟩; have f := F.out u h2; clear h1 h2)
  go_ret2
  exact ⟨rfl, hb1.alloc hb1.size _⟩
set_option maxHeartbeats 1000000 in
theorem line_yes (e : Er) (v : Value) (w : World) (he : IsEr w e v) (hp : e.plain) (hsz : e.size ≤ 4000) (hw : Env w) :
    Calls Tryz.prog 11 #[v] w fun ex w' => ex = .returned (.tuple #[.string e.line, .bool true]) ∧ Below w.heap.size w w' := by
  obtain ⟨k, o, hc⟩ := e.core_plain hp
  have P := Lib.hid (t_peel (some e) v w he hsz)
  have F := Lib.hid (show ∀ u, IsOpt w (coreO (some e)) u → u = .iface 63 (.agg #[.int .i64 k, .int .i64 o]) from fun u h => by
    rw [show coreO (some e) = some (.fault k o) from congrArg some hc] at h; exact h)
  have f := ftF (.agg #[.int .i64 k, .int .i64 o])
  obtain ⟨vt, vx, rfl⟩ := he.iface
  have M := Lib.hid (fun w' (hb : Below w.heap.size w w') => m_error e vt vx w' hp hsz (IsEr.on hb he) (hw.below hb))
  clear hc
  cases e with
  | sort k => cases hp
  | own a => cases hp
  | around e => cases hp
  | join a e => cases hp
  | fault k' o' =>
    cases he
    unfold Er.errF at M
    generalize (Er.fault k' o').line = l at *
    clear hp hsz hw
    go_enter Tryz.func11, Tryz.ntmps11
    go_wp2_with (first
      | (go_at_call 28; refine P.out.mono ?_; rintro q w1 ⟨⟨l1, u, rfl, h1, h2⟩, hb1⟩; have hu := F.out u h2; subst hu; clear h1 h2; have hb2 := hb1.alloc hb1.size (.cells #[.int .i64 k, .int .i64 o] 63))
      | (refine (M.out _ hb2).mono ?_; rintro q w3 ⟨rfl, hb3⟩))
    go_ret2
    exact ⟨rfl, hb2.trans (hb3.mono hb2.size)⟩
  | note s e =>
    obtain ⟨b, u, he, -⟩ := he
    cases he
    unfold Er.errF at M
    generalize (Er.note s e).line = l at *
    clear hp hsz hw
    go_enter Tryz.func11, Tryz.ntmps11
    go_wp2_with (first
      | (go_at_call 28; refine P.out.mono ?_; rintro q w1 ⟨⟨l1, u, rfl, h1, h2⟩, hb1⟩; have hu := F.out u h2; subst hu; clear h1 h2; have hb2 := hb1.alloc hb1.size (.cells #[.int .i64 k, .int .i64 o] 63))
      | (refine (M.out _ hb2).mono ?_; rintro q w3 ⟨rfl, hb3⟩))
    go_ret2
    exact ⟨rfl, hb2.trans (hb3.mono hb2.size)⟩
end Go.Proofs.YtcipgagpmglikaaGreatDoor
