/-
  slices.Clone and slices.Reverse of bytes.
-/
import Derived.Test.YtldgfaoiepnemaaOctC
import Derived.Laws.OwnMore
import Derived.RegionTactic
import Derived.ChangeAlike
namespace Go.Proofs.Ytldgfaoiepnemaa
open Go.RowKit Go.Sort
set_option maxRecDepth 8000
/-! ### Clone -/
theorem ownB_empty (w : World) : OwnB w (w.alloc (.cells #[] 5)) [] (.slice (some ⟨w.heap.size, 0, none⟩) 0 0) :=
  ⟨⟨rfl, Or.inr ⟨w.heap.size, 0, #[], rfl, Nat.le_refl _, row_new _ _ rfl, Nat.le_refl _, by simp [maxLen], rfl, rfl⟩⟩, below_alloc _ _⟩
set_option maxHeartbeats 1000000 in
theorem t_clone (v : Value) (l : List UInt8) (hl : l.length ≤ 1000000) (w : World) (hB : Byt w v l) : Calls Try.prog 19 #[v] w (AppOut w l) := by
  obtain ⟨a, c, rfl, _, hA⟩ := hB.open
  cases a with
  | none =>
    have q0 : l = [] := by
      rcases hA with h | ⟨_, _, e, _⟩
      · exact h
      · cases e
    subst q0
    have O := Lib.hid (show OwnB w w [] (.slice none 0 0) from Own.nil w _)
    have eq := fun w => Lib.run_eql_slice_nil (P := Try.prog) w 22 5 none 0 c 0 0 Try.underlying22
    clear hB hA
    go_enter Try.func19, Try.ntmps19
    go_wp2
    go_ret
    exact ⟨_, rfl, O.out⟩
  | some ad =>
    have O := Lib.hid (ownB_empty w)
    have HA := Lib.hid (hA.on (below_alloc w (.cells #[] 5)))
    have HL := Lib.hid (show ([] : List UInt8).length + l.length ≤ 3000000 by simp; omega)
    have eq := fun w => Lib.run_eql_slice_nil (P := Try.prog) w 22 5 (some ad) l.length c 0 0 Try.underlying22
    clear hB hA
    go_enter Try.func19, Try.ntmps19
    go_wp2_with (at_builtin; refine wp_append_bytes rfl (.tmp 5) (.tmp 6) rfl w _ [] _ rfl O.out (some ad) l l.length c rfl rfl HA.out HL.out ?_)
    intro v' w' O'
    have O' := Lib.hid O'
    clear O
    go_wp2
    go_ret
    exact ⟨_, rfl, by simpa using O'.out⟩
/-! ### Reverse -/
/-- The bytes, when so many from either end have changed places. -/
def turnedTo (l : List UInt8) (i : Nat) : List UInt8 := (List.range l.length).map fun p => if p < i ∨ l.length - i ≤ p then l.getD (l.length - 1 - p) 0 else l.getD p 0
theorem turnedTo_length (l : List UInt8) (i : Nat) : (turnedTo l i).length = l.length := by simp [turnedTo]
theorem getD_at (l : List UInt8) (p : Nat) (h : p < l.length) : l.getD p 0 = l[p] := by simp [List.getD, h]
theorem turnedTo_zero (l : List UInt8) : turnedTo l 0 = l := by
  apply List.ext_getElem
  · exact turnedTo_length l 0
  · intro p h1 h2
    simp only [turnedTo, List.getElem_map, List.getElem_range]
    rw [if_neg (by omega), getD_at _ _ h2]
theorem turnedTo_end (l : List UInt8) (i : Nat) (h : l.length ≤ 2 * i + 1) : turnedTo l i = l.reverse := by
  apply List.ext_getElem
  · rw [turnedTo_length, List.length_reverse]
  · intro p h1 h2
    rw [turnedTo_length] at h1
    simp only [turnedTo, List.getElem_map, List.getElem_range, List.getElem_reverse]
    by_cases e : p < i ∨ l.length - i ≤ p
    · rw [if_pos e, getD_at _ _ (by omega)]
    · rw [if_neg e, getD_at _ _ h1]
      congr 1; omega
theorem turnedTo_get (l : List UInt8) (i p : Nat) (h : p < l.length) : (turnedTo l i)[p]'(by rw [turnedTo_length]; exact h) = if p < i ∨ l.length - i ≤ p then l.getD (l.length - 1 - p) 0 else l.getD p 0 := by
  simp [turnedTo]
theorem turnedTo_step (l : List UInt8) (i j : Nat) (hj : j = l.length - 1 - i) (h : 2 * i + 1 < l.length) (a b : UInt8) (ha : (turnedTo l i)[j]? = some a) (hb : (turnedTo l i)[i]? = some b) :
    ((turnedTo l i).set i a).set j b = turnedTo l (i + 1) := by
  subst hj
  rw [List.getElem?_eq_getElem (by rw [turnedTo_length]; omega), turnedTo_get l i _ (by omega)] at ha hb
  simp only [Option.some.injEq] at ha hb
  rw [if_neg (by omega)] at ha hb
  apply List.ext_getElem
  · simp [turnedTo_length]
  · intro p h1 h2
    rw [turnedTo_length] at h2
    rw [List.getElem_set, List.getElem_set, turnedTo_get l (i + 1) p h2, turnedTo_get l i p h2]
    by_cases e1 : l.length - 1 - i = p
    · rw [if_pos e1, if_pos (by omega), ← hb]
      congr 1; omega
    · rw [if_neg e1]
      by_cases e2 : i = p
      · rw [if_pos e2, if_pos (by omega), ← ha]
        congr 1; omega
      · rw [if_neg e2]
        by_cases e3 : p < i ∨ l.length - i ≤ p
        · rw [if_pos e3, if_pos (by omega)]
        · rw [if_neg e3, if_neg (by omega)]
theorem OwnB.cell {W w : World} {L : List UInt8} {g n c : Nat} (h : OwnB W w L (.slice (some ⟨g, 0, none⟩) n c)) {j : Nat} (hj : j < L.length) : w.cell? ⟨g, j, none⟩ = some (.int .u8 (L[j]).toNat) := by
  obtain ⟨a, c', e, _, h⟩ := Own.row h
  injection e with e1 _ _
  rcases h with h | ⟨g', e, _, _, hx⟩
  · cases L with
    | nil => simp at hj
    | cons _ _ => simp [cellsOf] at h
  · rw [← e1] at e
    cases e
    exact hx j _ (by simp [cellsOf, hj])
theorem OwnB.put {W w : World} {L : List UInt8} {g n c : Nat} (h : OwnB W w L (.slice (some ⟨g, 0, none⟩) n c)) (i : Nat) (b : UInt8) : OwnB W (w.setCell ⟨g, i, none⟩ (.int .u8 (b.toNat : Int))) (L.set i b) (.slice (some ⟨g, 0, none⟩) n c) := by
  have hn : n = (cellsOf L).length := by
    obtain ⟨a, c', e, _⟩ := Own.row h
    injection e
  obtain ⟨h1, h2⟩ := h
  rw [← hn] at h1
  have st := (h1.stored i (.int .u8 (b.toNat : Int))).1
  have lt := h1.lt g rfl
  refine ⟨?_, h2.setCell (by exact lt.1) _⟩
  have e : cellsOf (L.set i b) = (cellsOf L).set i (.int .u8 (b.toNat : Int)) := by simp [cellsOf]
  rw [e, List.length_set, ← hn]
  exact st
theorem OwnB.free {W w : World} {L : List UInt8} {g n c : Nat} (h : OwnB W w L (.slice (some ⟨g, 0, none⟩) n c)) (j : Nat) : w.frozen? ⟨g, j, none⟩ = false := by
  obtain ⟨⟨_, h | ⟨g', cap, cur, e, _, hg, _⟩⟩, _⟩ := h
  · cases h.1
  · cases e; exact frozen_of_row _ _ _ _ _ hg
theorem OwnB.at {W w : World} {L : List UInt8} {a : Option Addr} {n c : Nat} (h : OwnB W w L (.slice a n c)) (h0 : 0 < L.length) : ∃ g, a = some ⟨g, 0, none⟩ := by
  obtain ⟨a', c', e, _, h⟩ := Own.row h
  injection e with e1 _ _
  rcases h with h | ⟨g, ea, _⟩
  · cases L with
    | nil => simp at h0
    | cons _ _ => simp [cellsOf] at h
  · exact ⟨g, e1.trans ea⟩
def RevOut (W : World) (L : List UInt8) (v : Value) (e : Ending) (w' : World) : Prop := e = .returned (.tuple #[]) ∧ OwnB W w' L v
set_option maxHeartbeats 2000000 in
theorem t_reverse (W : World) (v : Value) (L : List UInt8) (hl : L.length ≤ 1000000) (w : World) (h : OwnB W w L v) : Calls Try.prog 20 #[v] w (RevOut W L.reverse v) := by
  obtain ⟨a, c, rfl, _, h0⟩ := h.byt.open
  have TZ := Lib.hid (show Hid (OwnB W w (turnedTo L 0) (.slice a L.length c)) by rw [turnedTo_zero]; exact h)
  clear h
  go_enter Try.func20, Try.ntmps20
  go_wp2
  go_loopw [2, 3] (fun iv jv wr => ∃ i : Nat, 2 * i ≤ L.length ∧ iv = .int .i64 i ∧ jv = .int .i64 ((L.length : Int) - 1 - i) ∧ Hid (OwnB W wr (turnedTo L i) (.slice a L.length c))) (fun iv _ _ => L.length - (intOf iv).toNat)
  case atStart => exact ⟨0, by omega, rfl, by simp, TZ.out⟩
  case round =>
    clear TZ
    obtain ⟨i, hi, rfl, rfl, R⟩ := hrel
    by_cases hlt : 2 * i + 1 < L.length
    · have hlt' : (i : Int) < (L.length : Int) - 1 - i := by omega
      have TL := turnedTo_length L i
      obtain ⟨g, rfl⟩ := R.out.at (by rw [TL]; omega)
      obtain ⟨j, hj⟩ : ∃ j : Nat, (L.length : Int) - 1 - i = j := ⟨L.length - 1 - i, by omega⟩
      have hj' : j = L.length - 1 - i := by omega
      have hjn : j < L.length := by omega
      have hij : i < j := by omega
      have cj := R.out.cell (j := j) (by rw [TL]; omega)
      have ci := R.out.cell (j := i) (by rw [TL]; omega)
      have fj := R.out.free j
      have fi := R.out.free i
      have ST := Lib.hid (turnedTo_step L i j hj' hlt ((turnedTo L i)[j]'(by rw [TL]; omega)) ((turnedTo L i)[i]'(by rw [TL]; omega)) (List.getElem?_eq_getElem _) (List.getElem?_eq_getElem _))
      generalize (turnedTo L i)[j]'(by rw [TL]; omega) = bj at *
      generalize (turnedTo L i)[i]'(by rw [TL]; omega) = bi at *
      have NX := Lib.hid (show (L.length : Int) - 1 - ((i + 1 : Nat) : Int) = (j : Int) - 1 by omega)
      rw [hj]
      clear hj hj' hlt' TL
      generalize hn : L.length = n at *
      have HN := Lib.hid hn
      clear hn
      have i1 : (i : Int) < (n : Nat) := by omega
      have j1 : (j : Int) < (n : Nat) := by omega
      go_wp2_with fail
      go_region
      have R2 := Lib.hid (((R.out.put i bj).put j bi).drew)
      rw [ST.out] at R2
      go_wp2
      go_roundw
      case rel => exact ⟨i + 1, by omega, by go_num, by rw [NX.out], R2⟩
      case measure => simp [intOf]; omega
    · have E := Lib.hid (turnedTo_end L i (by omega))
      rw [E.out] at R
      have hlt' : ¬ (i : Int) < (L.length : Int) - 1 - i := by omega
      go_wp2
      go_end0
      exact ⟨rfl, R.out⟩
end Go.Proofs.Ytldgfaoiepnemaa
