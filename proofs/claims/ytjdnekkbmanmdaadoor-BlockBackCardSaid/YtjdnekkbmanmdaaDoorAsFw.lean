/-
  errors.As where a fault is looked for; fault.Off.
-/
import Derived.Test.YtjdnekkbmanmdaaDoorAsF
namespace Go.Proofs.YtjdnekkbmanmdaaDoor
open Go.RowKit Go.Sort Go.Extern
set_option maxRecDepth 8000
/-- What a variable of the fault's type gets: the first one's, if there is one. -/
def Er.asF : Er → Option (Array Value)
  | .sort _ => none
  | .fault k o => some #[.int .i64 k, .int .i64 o]
  | .note _ e => e.asF
namespace AsF
/-- How the call ends: the target is left alone, or holds what was found. -/
def Out (w : World) (p : Nat) (o : Option (Array Value)) (ex : Ending) (w' : World) : Prop := match o with
  | none => ex = .returned (.bool false) ∧ Below w.heap.size w w'
  | some cs => ex = .returned (.bool true) ∧ ∃ W, Below w.heap.size w W ∧ w' = W.setRow p cs
/-- The package's variable errorType. -/
def Ty (w : World) : Prop := w.cell? ⟨0, 0, none⟩ = some (ty 32)
theorem Ty.lt {w : World} (h : Ty w) : 0 < w.heap.size := by
  rcases Nat.lt_or_ge 0 w.heap.size with l | l
  · exact l
  · unfold Ty at h; simp [World.cell?, Array.getElem?_eq_none l] at h
theorem Ty.on {w w' : World} (h : Ty w) (hb : Below w.heap.size w w') : Ty w' := (hb.cell (p := ⟨0, 0, none⟩) h.lt).trans h
abbrev C0 : Array Value := #[.int .i64 0, .int .i64 0]
set_option maxHeartbeats 4000000 in
theorem as_in (p a : Nat) : ∀ (n : Nat) (e : Er) (v : Value) (w : World), e.size ≤ n → IsEr w e v → Blk w a 70 #[.pointer (some ⟨p, 0, none⟩)] → Blk w p 69 C0 →
    Calls Tryd.prog 36 #[v, .iface 70 (.pointer (some ⟨p, 0, none⟩)), vl 70 ⟨a, 0, none⟩ 150, ty 69] w (Out w p e.asF) := by
  have h38 := @run_callFunc_extern Tryd.prog 37 _ xTypeOf Tryd.func37 (by kernel_rfl) (by kernel_rfl) (by kernel_rfl) (by kernel_rfl)
  have hag := @run_callFunc_extern Tryd.prog 70 _ xAsg Tryd.func70 (by kernel_rfl) (by kernel_rfl) (by kernel_rfl) (by kernel_rfl)
  have hvo := @run_callFunc_extern Tryd.prog 33 _ xValueOf Tryd.func33 (by kernel_rfl) (by kernel_rfl) (by kernel_rfl) (by kernel_rfl)
  have hel := @run_callFunc_extern Tryd.prog 41 _ xElemV Tryd.func41 (by kernel_rfl) (by kernel_rfl) (by kernel_rfl) (by kernel_rfl)
  have hse := @run_callFunc_extern Tryd.prog 42 _ xSet Tryd.func42 (by kernel_rfl) (by kernel_rfl) (by kernel_rfl) (by kernel_rfl)
  intro n
  induction n with
  | zero => intro e v w h; cases e <;> simp [Er.size] at h
  | succ n ih =>
    intro e v w hn he ha hp
    obtain ⟨r, hr⟩ : ∃ r, r = e.asF := ⟨_, rfl⟩
    rw [← hr]
    have IH := Lib.hid ih
    have HN := Lib.hid hn
    have HE := Lib.hid he
    have HA := Lib.hid ha
    have HP := Lib.hid hp
    have HR := Lib.hid hr
    clear ih hn he ha hp hr
    go_enter Tryd.func36, Tryd.ntmps36
    go_wp2
    go_loopg [0] (e.size) (fun k v' wr => ∃ e', IsEr wr e' v' ∧ e'.size ≤ k ∧ k ≤ n + 1 ∧ r = e'.asF ∧ Blk wr w.heap.size 83 #[.pointer (some ⟨1, 70, none⟩), .pointer (some ⟨a, 0, none⟩), .int .u64 150] ∧ Below w.heap.size w wr)
    case atStart => exact ⟨e, IsEr.on (below_alloc _ _) HE.out, Nat.le_refl _, HN.out, HR.out, Blk.new _ _ _ rfl, below_alloc _ _⟩
    case round =>
      obtain ⟨e', he, hk, hkn, hr, ht, hb⟩ := hrel
      have K := Lib.hid (And.intro hk hkn)
      have R := Lib.hid hr
      have T := Lib.hid ht
      have c0 := ht.cell (j := 0) rfl
      have c1 := ht.cell (j := 1) rfl
      have c2 := ht.cell (j := 2) rfl
      clear hk hkn hr ht
      cases e' with
      | sort k' =>
        cases he
        have b1 := tyS
        have b2 := agS
        have a1 := asS
        have a2 := uwS
        have a3 := usS
        go_wp2
        go_ret
        rw [show r = none from R.out]
        exact ⟨rfl, hb⟩
      | fault k' o =>
        cases he
        have b1 := tyF
        have b2 := agF
        have e1 := eleV wr ⟨a, 0, none⟩ ⟨p, 0, none⟩ ((HA.out.on hb).cell (j := 0) rfl)
        have e2 := valE wr k' o
        have e3 := setE (wr.alloc (.cells #[.int .i64 k', .int .i64 o] 69)) p wr.heap.size k' o _ _ _ (Blk.new _ _ _ rfl) ((HP.out.on hb).alloc _) rfl
        go_wp2
        go_ret
        rw [show r = some #[.int .i64 k', .int .i64 o] from R.out]
        exact ⟨rfl, _, hb.trans ((below_alloc _ _).mono hb.size), rfl⟩
      | note s e' =>
        obtain ⟨b, u, rfl, h1, h2⟩ := he
        obtain ⟨ut, ux, rfl⟩ := h2.iface
        have H1 := Lib.hid h1
        have H2 := Lib.hid h2
        have a1 := asN
        have a2 := uwN
        have b1 := tyN
        have b2 := agN
        clear h1 h2
        go_wp2_with (go_at_call 65; refine (m_note _ _ _ _ H1.out).mono ?_; rintro e w1 ⟨rfl, hw⟩)
        subst hw
        go_roundg (e'.size)
        case measure => have := K.out; simp [Er.size] at this; omega
        case rel => exact ⟨e', H2.out, Nat.le_refl _, by have := K.out; simp [Er.size] at this; omega, R.out, T.out, hb⟩
end AsF
end Go.Proofs.YtjdnekkbmanmdaaDoor
