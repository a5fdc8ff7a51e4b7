/-
  errors.As where a sort is looked for; fault.Kind.
-/
import Derived.Test.YtcipgagpmglikaaGreatDoorAsS
namespace Go.Proofs.YtcipgagpmglikaaGreatDoor
open Go.RowKit Go.Sort Go.Extern
set_option maxRecDepth 8000
/-- What a variable of the sort's type gets: the first one's, if there is one. -/
def Er.asS : Er → Option (Array Value)
  | .sort k => some #[.int .i64 k]
  | .fault k _ => some #[.int .i64 k]
  | .note _ e => e.asS
  | .own _ => none
  | .around e => e.asS
  | .join _ e => e.asS
namespace AsS
/-- How the call ends: the target is left alone, or holds what was found. -/
def Out (w : World) (p : Nat) (o : Option (Array Value)) (ex : Ending) (w' : World) : Prop := match o with
  | none => ex = .returned (.bool false) ∧ Below w.heap.size w w'
  | some cs => ex = .returned (.bool true) ∧ ∃ W, Below w.heap.size w W ∧ w' = W.setRow p cs
/-- The package's variable errorType. -/
def Ty (w : World) : Prop := w.cell? ⟨0, 0, none⟩ = some (ty 27)
theorem Ty.lt {w : World} (h : Ty w) : 0 < w.heap.size := by
  rcases Nat.lt_or_ge 0 w.heap.size with l | l
  · exact l
  · unfold Ty at h; simp [World.cell?, Array.getElem?_eq_none l] at h
theorem Ty.on {w w' : World} (h : Ty w) (hb : Below w.heap.size w w') : Ty w' := (hb.cell (p := ⟨0, 0, none⟩) h.lt).trans h
abbrev C0 : Array Value := #[.int .i64 0]
set_option maxHeartbeats 4000000 in
theorem as_in (p a : Nat) : ∀ (n : Nat) (e : Er) (v : Value) (w : World), e.size ≤ n → IsEr w e v → Blk w a 59 #[.pointer (some ⟨p, 0, none⟩)] → Blk w p 41 C0 →
    Calls Tryz.prog 43 #[v, .iface 59 (.pointer (some ⟨p, 0, none⟩)), vl 59 ⟨a, 0, none⟩ 150, ty 41] w (Out w p e.asS) := by
  have h38 := @run_callFunc_extern Tryz.prog 38 _ xTypeOf Tryz.func38 (by kernel_rfl) (by kernel_rfl) (by kernel_rfl) (by kernel_rfl)
  have hag := @run_callFunc_extern Tryz.prog 121 _ xAsg Tryz.func121 (by kernel_rfl) (by kernel_rfl) (by kernel_rfl) (by kernel_rfl)
  have hvo := @run_callFunc_extern Tryz.prog 40 _ xValueOf Tryz.func40 (by kernel_rfl) (by kernel_rfl) (by kernel_rfl) (by kernel_rfl)
  have hel := @run_callFunc_extern Tryz.prog 51 _ xElemV Tryz.func51 (by kernel_rfl) (by kernel_rfl) (by kernel_rfl) (by kernel_rfl)
  have hse := @run_callFunc_extern Tryz.prog 52 _ xSet Tryz.func52 (by kernel_rfl) (by kernel_rfl) (by kernel_rfl) (by kernel_rfl)
  intro n
  induction n with
  | zero => intro e v w h; cases e <;> simp [Er.size] at h
  | succ n ih =>
    intro e v w hn he ha hp
    obtain ⟨r, hr⟩ : ∃ r, r = e.asS := ⟨_, rfl⟩
    rw [← hr]
    have IH := Lib.hid ih
    have HN := Lib.hid hn
    have HE := Lib.hid he
    have HA := Lib.hid ha
    have HP := Lib.hid hp
    have HR := Lib.hid hr
    clear ih hn he ha hp hr
    go_enter Tryz.func43, Tryz.ntmps43
    go_wp2
    go_loopg [0] (e.size) (fun k v' wr => ∃ e', IsEr wr e' v' ∧ e'.size ≤ k ∧ k ≤ n + 1 ∧ r = e'.asS ∧ Blk wr w.heap.size 97 #[.pointer (some ⟨8, 59, none⟩), .pointer (some ⟨a, 0, none⟩), .int .u64 150] ∧ Below w.heap.size w wr)
    case atStart => exact ⟨e, IsEr.on (below_alloc _ _) HE.out, Nat.le_refl _, HN.out, HR.out, Blk.new _ _ _ rfl, below_alloc _ _⟩
    case round =>
      obtain ⟨e', he, hk, hkn, hr, ht, hb⟩ := hrel
      have K := Lib.hid (And.intro hk hkn)
      have R := Lib.hid hr
      have T := Lib.hid ht
      have c0 := ht.cell (j := 0) rfl
      have c1 := ht.cell (j := 1) rfl
      have c2 := ht.cell (j := 2) rfl
      clear hk hkn hr ht
      cases e' with
      | sort k' =>
        cases he
        have b1 := tyS
        have b2 := agS
        have e1 := eleV wr ⟨a, 0, none⟩ ⟨p, 0, none⟩ ((HA.out.on hb).cell (j := 0) rfl)
        have e2 := valE wr k'
        have e3 := setE (wr.alloc (.cells #[.int .i64 k'] 41)) p wr.heap.size k' _ _ _ (Blk.new _ _ _ rfl) ((HP.out.on hb).alloc _)
        go_wp2
        go_ret
        rw [show r = some #[.int .i64 k'] from R.out]
        exact ⟨rfl, _, hb.trans ((below_alloc _ _).mono hb.size), rfl⟩
      | own k' =>
        obtain ⟨rfl, -⟩ := he
        have a1 := asO
        have a2 := uwO
        have a3 := usO
        have b1 := tyO
        have b2 := agO
        go_wp2
        go_ret
        rw [show r = none from R.out]
        exact ⟨rfl, hb⟩
      | fault k' o =>
        cases he
        have b1 := tyF
        have b2 := agF
        have a1 := asF
        have a2 := uwF
        go_wp2_with (go_at_call 111; refine (m_sort _ _ _).mono ?_; rintro e w1 ⟨rfl, hb1⟩)
        go_roundg 1
        case measure => have := K.out; simp [Er.size] at this; omega
        case rel => exact ⟨.sort k', rfl, Nat.le_refl _, by have := K.out; simp [Er.size] at this; omega, R.out, T.out.on hb1, hb.trans (hb1.mono hb.size)⟩
      | note s e' =>
        obtain ⟨b, u, rfl, h1, h2⟩ := he
        obtain ⟨ut, ux, rfl⟩ := h2.iface
        have H1 := Lib.hid h1
        have H2 := Lib.hid h2
        have a1 := asN
        have a2 := uwN
        have b1 := tyN
        have b2 := agN
        clear h1 h2
        go_wp2_with (go_at_call 113; refine (m_note _ _ _ _ H1.out).mono ?_; rintro e w1 ⟨rfl, hw⟩)
        subst hw
        go_roundg (e'.size)
        case measure => have := K.out; simp [Er.size] at this; omega
        case rel => exact ⟨e', H2.out, Nat.le_refl _, by have := K.out; simp [Er.size] at this; omega, R.out, T.out, hb⟩
      | around e' =>
        obtain ⟨u, rfl, h2⟩ := he
        obtain ⟨ut, ux, rfl⟩ := h2.iface
        have H2 := Lib.hid h2
        have a1 := asA
        have a2 := uwA
        have b1 := tyA
        have b2 := agA
        clear h2
        go_wp2_with (go_at_call 109; refine (m_around _ _).mono ?_; rintro e w1 ⟨rfl, hb1⟩)
        go_roundg (e'.size)
        case measure => have := K.out; simp [Er.size] at this; omega
        case rel => exact ⟨e', IsEr.on hb1 H2.out, Nat.le_refl _, by have := K.out; simp [Er.size] at this; omega, R.out, T.out.on hb1, hb.trans (hb1.mono hb.size)⟩
      | join k' e' =>
        obtain ⟨b, g, c, u, s, rfl, h1, h3, h4, h2⟩ := he
        obtain ⟨ut, ux, rfl⟩ := h2.iface
        have d0 := h3.2.1
        have d1 := h3.2.2
        have H1 := Lib.hid h1
        have H2 := Lib.hid h2
        have H3 := Lib.hid h3
        have H4 := Lib.hid h4
        have a1 := asJ
        have a2 := uwJ
        have a3 := usJ
        have b1 := tyJ
        have b2 := agJ
        clear h1 h2 h3 h4
        have X1 := Lib.hid (IH.out (.own k') _ wr (by have := K.out; simp [Er.size] at this ⊢; omega) ⟨rfl, s, H4.out⟩ (HA.out.on hb) (HP.out.on hb))
        have X2 := Lib.hid (fun w1 (h : Below wr.heap.size wr w1) => IH.out e' _ w1 (by have := K.out; simp [Er.size] at this ⊢; omega) (IsEr.on h H2.out) (HA.out.on (hb.trans (h.mono hb.size))) (HP.out.on (hb.trans (h.mono hb.size))))
        rw [show e'.asS = r from R.out.symm] at X2
        have keep : ∀ w1, Below wr.heap.size wr w1 → w1.cell? ⟨g, 1, none⟩ = some (.iface ut ux) ∧ w1.cell? ⟨w.heap.size, 0, none⟩ = some (.pointer (some ⟨8, 59, none⟩)) ∧ w1.cell? ⟨w.heap.size, 1, none⟩ = some (.pointer (some ⟨a, 0, none⟩)) ∧ w1.cell? ⟨w.heap.size, 2, none⟩ = some (.int .u64 150) :=
          fun w1 h => ⟨(h.cell (p := ⟨g, 1, none⟩) H3.out.1).trans d1, (T.out.on h).cell (j := 0) rfl, (T.out.on h).cell (j := 1) rfl, (T.out.on h).cell (j := 2) rfl⟩
        go_wp2_with (go_at_call 115; refine (m_join _ _ _ H1.out).mono ?_; rintro e w1 ⟨rfl, hw⟩)
        subst hw
        refine wp_loop_rounds 3 ?_
        rw [rounds_succ]
        go_wp2_with fail
        refine X1.out.mono ?_
        rintro e w2 ⟨rfl, hb2⟩
        have kp := keep _ hb2
        obtain ⟨d2, d3, d4, d5⟩ := kp
        clear keep
        go_wp2
        rw [rounds_succ]
        cases r with
        | some cs =>
          go_wp2_with fail
          refine (X2.out _ hb2).mono ?_
          rintro e w3 ⟨rfl, W3, hb3, hw⟩
          subst hw
          go_wp2
          go_ret
          exact ⟨rfl, W3, hb.trans ((hb2.trans (hb3.mono hb2.size)).mono hb.size), rfl⟩
        | none =>
          go_wp2_with fail
          refine (X2.out _ hb2).mono ?_
          rintro e w3 ⟨rfl, hb3⟩
          go_wp2
          rw [rounds_succ]
          go_wp2
          go_ret
          exact ⟨rfl, hb.trans ((hb2.trans (hb3.mono hb2.size)).mono hb.size)⟩
end AsS
end Go.Proofs.YtcipgagpmglikaaGreatDoor
