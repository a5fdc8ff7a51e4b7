/-
  The words of an error's notes, and what they are around.
-/
import Derived.Test.YtcipgagpmglikaaGreatDoorWrap6
import Derived.Test.YtcipgagpmglikaaGreatDoorOwn
namespace Go.Proofs.YtcipgagpmglikaaGreatDoor
open Go.RowKit Go.Sort
set_option maxRecDepth 8000
def Er.words : Er → List ByteArray
  | .note s e => s :: e.words
  | _ => []
def Er.core : Er → Er
  | .note _ e => e.core
  | e => e
def wordsO : Option Er → List ByteArray | none => [] | some e => e.words
def coreO : Option Er → Option Er | none => none | some e => some e.core
theorem Er.rest (e : Er) (h : ∀ s x, e ≠ .note s x) : e.words = [] ∧ e.core = e := by
  cases e with
  | note s x => exact absurd rfl (h s x)
  | _ => exact ⟨rfl, rfl⟩
theorem Er.words_size (e : Er) : e.words.length < e.size := by
  induction e with
  | note s e ih => simp only [Er.words, Er.size, List.length_cons]; omega
  | sort k => exact Nat.zero_lt_one
  | fault k o => exact Nat.zero_lt_succ _
  | own a => exact Nat.zero_lt_one
  | around e ih => exact Nat.zero_lt_succ _
  | join a e ih => exact Nat.zero_lt_succ _
/-- What the assertion tells. -/
def NtO (w : World) (o : Option Er) (p : Value) (ok : Bool) : Prop :=
  (ok = true ∧ ∃ s x b u, o = some (.note s x) ∧ p = .pointer (some ⟨b, 0, none⟩) ∧ Blk w b 79 #[.string s, u] ∧ IsEr w x u) ∨ (ok = false ∧ wordsO o = [] ∧ coreO o = o)
theorem nt_opt (o : Option Er) (v : Value) (w : World) (h : IsOpt w o v) :
    ∃ p ok, (∀ xT w', (Instr.typeAssert v xT 77 true).run Tryz.prog w' = .ok (.tuple #[p, .bool ok]) w') ∧ NtO w o p ok := by
  cases o with
  | none => cases h; exact ⟨_, _, ntnil, Or.inr ⟨rfl, rfl, rfl⟩⟩
  | some e =>
    rcases nt_er e v w h with ⟨s, x, p, rfl, rfl, h1⟩ | ⟨h1, h2⟩
    · obtain ⟨b, u, h3, h4, h5⟩ := h
      cases h3
      exact ⟨_, _, h1, Or.inl ⟨rfl, s, x, b, u, rfl, rfl, h4, h5⟩⟩
    · obtain ⟨a, b⟩ := e.rest h1
      exact ⟨_, _, h2, Or.inr ⟨rfl, a, congrArg some b⟩⟩
theorem Own.strs {w wr : World} {xs : List ByteArray} {v : Value} (h : Own w wr 9 (xs.map .string) v) : Strs wr v xs := by
  have h1 := h.1
  rw [List.length_map] at h1
  exact Strs.of_owns h1
theorem wp_append_one {ops : Array Oper} {rest : List Oper} {o : Oper} {a : Act} {Q : Exit → Act → World → Prop} (hgd : o.guard = none) (sl x : Operand)
    (ho : o.op = .call { callee := .builtin .append, args := #[sl, x], argTypes := #[23, 23] }) (w wr : World) (xs : List ByteArray) (v : Value) (hs : a.eval sl = v) (R : Own w wr 9 (xs.map .string) v)
    (y : ByteArray) (hx : a.eval x = .slice (some ⟨wr.heap.size, 0, none⟩) 1 1) (hl : xs.length ≤ 4000)
    (h : ∀ v' w', Own w w' 9 ((xs ++ [y]).map .string) v' → wpList Tryz.prog ops Q rest (a.put o.dst v') w') : wpList Tryz.prog ops Q (o :: rest) a (wr.alloc (.cells #[.string y] 9)) := by
  refine wp_append_any hgd sl x 23 9 (.string ⟨#[]⟩) 16 Tryz.underlying23 info_str rfl (by decide) ho w _ (xs.map .string) v hs (R.on (below_alloc _ _)) ⟨wr.heap.size, 0, none⟩ 1 1 [.string y] hx rfl (fun j u hj => ?_) (fun u hu => ?_) (by rw [List.length_map]; omega) (fun v' w' hown _ _ => h v' w' ?_)
  · match j, hj with
    | 0, hj => simp at hj; subst hj; rw [Lib.add_plain]; exact World.cell?_alloc_at _ _ _ _ rfl
    | j + 1, hj => simp at hj
  · simp at hu; subst hu; rfl
  · rw [List.map_append]; exact hown
theorem strs_snoc (xs : List ByteArray) (s : ByteArray) : xs.map Value.string ++ [Value.string s] = (xs ++ [s]).map Value.string := by simp
set_option maxHeartbeats 2000000 in
theorem t_peel (o : Option Er) (v : Value) (w : World) (ho : IsOpt w o v) (hsz : sizO o ≤ 4000) :
    Calls Tryz.prog 28 #[v] w fun ex w' => (∃ l u, ex = .returned (.tuple #[l, u]) ∧ Strs w' l (wordsO o) ∧ IsOpt w (coreO o) u) ∧ Below w.heap.size w w' := by
  have HS := Lib.hid hsz
  have HO := Lib.hid ho
  obtain ⟨p, ok, hA, hN⟩ := nt_opt o v w ho
  have NN := Lib.hid hN
  clear hsz ho hN
  go_enter Tryz.func28, Tryz.ntmps28
  go_wp2
  go_loopg [0, 4, 5, 6] (sizO o) (fun k v0 v4 v5 v6 wr => ∃ (o' : Option Er) (xs : List ByteArray) (q : Bool), v6 = .bool q ∧ Hid (IsOpt w o' v0) ∧ Hid (NtO w o' v5 q) ∧ Hid (wordsO o = xs ++ wordsO o' ∧ coreO o = coreO o' ∧ sizO o' ≤ k ∧ k + xs.length ≤ 4000) ∧ Hid (Own w wr 9 (xs.map .string) v4))
  case atStart => exact ⟨o, [], ok, rfl, HO, NN, Lib.hid ⟨rfl, rfl, Nat.le_refl _, HS.out⟩, Lib.hid (Own.nil w _)⟩
  case round =>
    obtain ⟨o', xs, q, rfl, O, N, A, W⟩ := hrel
    rcases N.out with ⟨rfl, s, x, b, u, ho, rfl, h1, h2⟩ | ⟨rfl, h1, h2⟩
    · have hb := W.out.2
      have B := Lib.hid (h1.on hb)
      have H1 := Lib.hid h1
      have H2 := Lib.hid h2
      have A1 := Lib.hid (show wordsO o = xs ++ s :: x.words ∧ coreO o = some x.core ∧ x.size < gk ∧ gk + xs.length ≤ 4000 from by
        have := A.out
        subst ho
        exact ⟨this.1, this.2.1, this.2.2.1, this.2.2.2⟩)
      obtain ⟨p', ok', hA', hN'⟩ := nt_opt (some x) u w h2
      have N' := Lib.hid hN'
      have c0 := (h1.on hb).cell (j := 0) rfl
      clear ho A O N h1 h2 hb hA hN'
      go_wp2_with (at_builtin; refine wp_append_one rfl _ _ rfl w _ xs _ rfl W.out s rfl (by have := A1.out.2.2.2; omega) ?_)
      intro v' w2 W2
      have W2 := Lib.hid W2
      have c1 := (H1.out.on W2.out.2).cell (j := 1) rfl
      clear W B c0
      go_wp2
      go_roundg (x.size)
      case measure => exact A1.out.2.2.1
      case rel => exact ⟨some x, xs ++ [s], ok', rfl, Lib.hid H2.out, N', Lib.hid ⟨by rw [A1.out.1]; simp [wordsO], A1.out.2.1, Nat.le_refl _, by have := A1.out.2.2; simp; omega⟩, Lib.hid (by rw [List.map_append]; exact W2.out)⟩
    · have A1 := Lib.hid (show wordsO o = xs ∧ coreO o = o' from ⟨by rw [A.out.1, h1, List.append_nil], by rw [A.out.2.1, h2]⟩)
      clear A h1 h2 N
      go_wp2
      go_ret2
      rw [A1.out.1, A1.out.2]
      exact ⟨⟨_, _, rfl, W.out.strs, O.out⟩, W.out.2⟩
theorem t_notes (o : Option Er) (v : Value) (w : World) (ho : IsOpt w o v) (hsz : sizO o ≤ 4000) :
    Calls Tryz.prog 14 #[v] w fun ex w' => (∃ l, ex = .returned l ∧ Strs w' l (wordsO o)) ∧ Below w.heap.size w w' := by
  have P := Lib.hid (t_peel o v w ho hsz)
  clear ho hsz
  go_enter Tryz.func14, Tryz.ntmps14
  go_wp2_with (refine P.out.mono ?_; rintro q w1 ⟨⟨l, u, rfl, h1, h2⟩, hb⟩; have H := Lib.hid h1; clear h1 h2)
  go_ret
  exact ⟨⟨_, rfl, H.out⟩, hb⟩
end Go.Proofs.YtcipgagpmglikaaGreatDoor
