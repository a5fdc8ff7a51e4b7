/-
  fault.New, fault.Wrap.
-/
import Derived.Test.YtjdnekkbmanmdaaDoorUnw
import Derived.Test.YtjdnekkbmanmdaaDoorMay6
import Derived.Test.YtjdnekkbmanmdaaDoorClone
import Derived.Deep.LoopGhost
namespace Go.Proofs.YtjdnekkbmanmdaaDoor
open Go.RowKit Go.Sort
set_option maxRecDepth 8000
/-- How many notes are in the chain. -/
def Er.cnt : Er → Nat
  | .note _ e => e.cnt + 1
  | _ => 0
def cntO : Option Er → Nat | none => 0 | some e => e.cnt
def sizO : Option Er → Nat | none => 0 | some e => e.size
theorem Er.cnt_un (e : Er) : (∀ s x, e ≠ .note s x) → e.cnt = cntO e.un := by
  intro h
  cases e with
  | note s e => exact absurd rfl (h s e)
  | _ => rfl
theorem Er.siz_un (e : Er) : sizO e.un < e.size := by
  cases e with
  | sort k => exact Nat.zero_lt_one
  | fault k o => exact Nat.lt_succ_self 1
  | note s e => exact Nat.lt_succ_self _
/-- Whether it is a note. -/
theorem nt_er (e : Er) (v : Value) (w : World) (h : IsEr w e v) :
    (∃ s x p, e = .note s x ∧ v = .iface 76 p ∧ ∀ xT w', (Instr.typeAssert v xT 76 true).run Tryd.prog w' = .ok (.tuple #[p, .bool true]) w') ∨
    ((∀ s x, e ≠ .note s x) ∧ ∀ xT w', (Instr.typeAssert v xT 76 true).run Tryd.prog w' = .ok (.tuple #[.pointer none, .bool false]) w') := by
  cases e with
  | sort k => cases h; exact Or.inr ⟨by simp, ntS _⟩
  | fault k o => cases h; exact Or.inr ⟨by simp, ntF _⟩
  | note s e => obtain ⟨b, u, rfl, -⟩ := h; exact Or.inl ⟨s, e, _, rfl, rfl, ntN _⟩
set_option maxHeartbeats 2000000 in
theorem t_full (e : Er) (v : Value) (w : World) (he : IsEr w e v) : Calls Tryd.prog 30 #[v] w fun ex w' => ex = .returned (.bool (decide (8 ≤ e.cnt))) ∧ Below w.heap.size w w' := by
  have HE := Lib.hid he
  obtain ⟨r, hr⟩ : ∃ r, r = decide (8 ≤ e.cnt) := ⟨_, rfl⟩
  rw [← hr]
  have R := Lib.hid hr
  clear he hr
  go_enter Tryd.func30, Tryd.ntmps30
  go_wp2
  go_loopg [0, 3] (e.size) (fun k v0 v3 wr => ∃ (o : Option Er) (j : Nat), IsOpt wr o v0 ∧ v3 = .int .i64 j ∧ Hid (j ≤ 8 ∧ sizO o ≤ k ∧ min 8 e.cnt = min 8 (j + cntO o)) ∧ Below w.heap.size w wr)
  case atStart => exact ⟨some e, 0, HE.out, rfl, Lib.hid ⟨by omega, Nat.le_refl _, by simp [cntO]⟩, Below.refl _ _⟩
  case round =>
    obtain ⟨o, j, ho, rfl, A, hb⟩ := hrel
    cases o with
    | none =>
      cases ho
      have K := Lib.hid (show r = ((j : Int) == 8) by
        have := A.out
        rw [R.out, Bool.eq_iff_iff]
        simp only [cntO] at this
        simp
        omega)
      go_wp2
      go_ret
      exact ⟨by rw [K.out]; rfl, hb⟩
    | some x =>
      have ho : IsEr wr x _ := ho
      obtain ⟨xt, xv, rfl⟩ := ho.iface
      by_cases h8 : j = 8
      · subst h8
        have K := Lib.hid (show r = true by have := A.out; rw [R.out]; simp; omega)
        go_wp2
        go_ret
        exact ⟨by rw [K.out]; rfl, hb⟩
      · have h8' : (j : Int) < 8 := by have := A.out; omega
        have X := Lib.hid (t_unwrap x (.iface xt xv) wr ho)
        rcases nt_er x _ wr ho with ⟨s, y, p, rfl, h1, h2⟩ | ⟨h1, h2⟩
        · clear ho h1 h8
          go_wp2_with (refine X.out.mono ?_; rintro q w1 ⟨⟨u, rfl, hu⟩, hb1⟩)
          go_roundg (y.size)
          case measure => have := A.out.2.1; simp only [sizO, Er.size] at this; omega
          case rel => exact ⟨some y, j + 1, hu, by go_num, Lib.hid ⟨by omega, Nat.le_refl _, by have := A.out.2.2; simp only [cntO, Er.cnt] at this ⊢; omega⟩, hb.trans (hb1.mono hb.size)⟩
        · have U := Lib.hid (And.intro (x.cnt_un h1) x.siz_un)
          clear ho h1 h8
          go_wp2_with (refine X.out.mono ?_; rintro q w1 ⟨⟨u, rfl, hu⟩, hb1⟩)
          go_roundg (sizO x.un)
          case measure => have := A.out.2.1; have := U.out.2; simp only [sizO] at *; omega
          case rel => exact ⟨x.un, j, hu, rfl, Lib.hid ⟨A.out.1, Nat.le_refl _, by have := A.out.2.2; rw [this]; show min 8 (j + x.cnt) = _; rw [U.out.1]⟩, hb.trans (hb1.mono hb.size)⟩
theorem t_new (k o : Int) (w : World) (hk : k ≠ 0) : Calls Tryd.prog 24 #[.int .i64 k, .int .i64 o] w fun ex w' => ex = .returned (.iface 69 (.agg #[.int .i64 k, .int .i64 o])) ∧ w' = w := by
  have hk' : (k == 0) = false := by simpa using hk
  clear hk
  go_enter Tryd.func24, Tryd.ntmps24
  go_wp2
  go_ret
  exact ⟨rfl, rfl⟩
theorem new_ok (o : Int) (w : World) : Calls Tryd.prog 24 #[.int .i64 0, .int .i64 o] w fun ex w' => ex = .returned .nilIface ∧ w' = w := by
  go_enter Tryd.func24, Tryd.ntmps24
  go_wp2
  go_ret
  exact ⟨rfl, rfl⟩
/-- The word that a note has. -/
def wordW (s : ByteArray) : ByteArray := if mayW s.data.toList then s else ⟨#[63]⟩
def wrapE (s : ByteArray) (e : Er) : Er := if 8 ≤ e.cnt then e else .note (wordW s) e
def Wrapped (w : World) (s : ByteArray) (e : Er) (v : Value) (ex : Ending) (w' : World) : Prop :=
  (8 ≤ e.cnt ∧ ex = .returned v ∨ e.cnt < 8 ∧ ∃ b, ex = .returned (.iface 76 (.pointer (some ⟨b, 0, none⟩))) ∧ Blk w' b 79 #[.string (wordW s), v]) ∧ Below w.heap.size w w'
theorem Wrapped.is {w w' : World} {s : ByteArray} {e : Er} {v : Value} {ex : Ending} (h : Wrapped w s e v ex w') (he : IsEr w e v) : ∃ u, ex = .returned u ∧ IsEr w' (wrapE s e) u := by
  obtain ⟨⟨h, rfl⟩ | ⟨h, b, rfl, hb⟩, hw⟩ := h
  · exact ⟨v, rfl, by rw [wrapE, if_pos h]; exact IsEr.on hw he⟩
  · exact ⟨_, rfl, by rw [wrapE, if_neg (by omega)]; exact ⟨b, v, rfl, hb, IsEr.on hw he⟩⟩
theorem wrap_nil (s : Value) (w : World) : Calls Tryd.prog 23 #[.nilIface, s] w fun ex w' => ex = .returned .nilIface ∧ w' = w := by
  go_enter Tryd.func23, Tryd.ntmps23
  go_wp2
  go_ret
  exact ⟨rfl, rfl⟩
set_option maxHeartbeats 2000000 in
theorem t_wrap (s : ByteArray) (hs : s.size ≤ 4000) (e : Er) (v : Value) (w : World) (he : IsEr w e v) : Calls Tryd.prog 23 #[v, .string s] w (Wrapped w s e v) := by
  have F := Lib.hid (t_full e v w he)
  have M := Lib.hid (fun w => t_may s w)
  have C := Lib.hid (fun (x : ByteArray) (h0 : 0 < x.size) (h : x.size ≤ 4000) w => t_clone' x h0 h w)
  obtain ⟨vt, vx, rfl⟩ := he.iface
  clear he
  by_cases h8 : 8 ≤ e.cnt
  · have H := Lib.hid h8
    rw [decide_eq_true h8] at F
    clear h8
    go_enter Tryd.func23, Tryd.ntmps23
    go_wp2_with (refine F.out.mono ?_; rintro q w1 ⟨rfl, hb⟩)
    go_ret
    exact ⟨Or.inl ⟨H.out, rfl⟩, hb⟩
  · have H := Lib.hid (show e.cnt < 8 by omega)
    rw [decide_eq_false h8] at F
    clear h8
    cases hm : mayW s.data.toList with
    | true =>
      rw [hm] at M
      have W := Lib.hid (show wordW s = s by rw [wordW, if_pos hm])
      have C1 := Lib.hid (C.out s (by
        rcases Nat.eq_zero_or_pos s.size with z | z
        · exfalso
          have e : s.data.toList = [] := List.length_eq_zero_iff.1 (by rw [len_list]; exact z)
          rw [e] at hm
          exact absurd hm (by decide)
        · exact z) hs)
      clear hm hs C
      go_enter Tryd.func23, Tryd.ntmps23
      go_wp2_with (first
        | (go_at_call 30; refine F.out.mono ?_; rintro q w1 ⟨rfl, hb1⟩)
        | (go_at_call 31; refine (M.out _).mono ?_; rintro q w2 ⟨rfl, hb2⟩)
        | (go_at_call 32; refine (C1.out _).mono ?_; rintro q w3 ⟨rfl, hb3⟩))
      go_ret
      have h2 := hb1.trans (hb2.mono hb1.size)
      have h3 := h2.trans (hb3.mono h2.size)
      exact ⟨Or.inr ⟨H.out, _, rfl, by rw [W.out]; exact Blk.new _ _ _ rfl⟩, h3.alloc h3.size _⟩
    | false =>
      rw [hm] at M
      have W := Lib.hid (show wordW s = ⟨#[63]⟩ by rw [wordW, if_neg (by rw [hm]; exact Bool.false_ne_true)])
      have C1 := Lib.hid (C.out ⟨#[63]⟩ (by decide) (by decide))
      clear hm hs C
      go_enter Tryd.func23, Tryd.ntmps23
      go_wp2_with (first
        | (go_at_call 30; refine F.out.mono ?_; rintro q w1 ⟨rfl, hb1⟩)
        | (go_at_call 31; refine (M.out _).mono ?_; rintro q w2 ⟨rfl, hb2⟩)
        | (go_at_call 32; refine (C1.out _).mono ?_; rintro q w3 ⟨rfl, hb3⟩))
      go_ret
      have h2 := hb1.trans (hb2.mono hb1.size)
      have h3 := h2.trans (hb3.mono h2.size)
      exact ⟨Or.inr ⟨H.out, _, rfl, by rw [W.out]; exact Blk.new _ _ _ rfl⟩, h3.alloc h3.size _⟩
end Go.Proofs.YtjdnekkbmanmdaaDoor
