/-
  horologelaw06.build: a fault of a kind and a place, with notes around it.
  FaultBuilds' law, walked.
-/
import Derived.Test.YtcipgagpmglikaaGreatDoorRLine6
import Derived.Test.YtcipgagpmglikaaGreatDoorPeel6
import Derived.Test.YtcipgagpmglikaaGreatDoorHeavy6
import Derived.Test.YtcipgagpmglikaaGreatDoorKnown6
namespace Go.Proofs.YtcipgagpmglikaaGreatDoor
open Go.RowKit Go.Sort
set_option maxRecDepth 8000
/-- The error that is built of the words. -/
def bE (k o : Int) (xs : List ByteArray) : Er := xs.foldl (fun e s => wrapE s e) (.fault k o)
theorem bE_snoc (k o : Int) (xs : List ByteArray) (s : ByteArray) : bE k o (xs ++ [s]) = wrapE s (bE k o xs) := by simp [bE, List.foldl_append]
/-- Notes around that fault. -/
def Er.no (k o : Int) : Er → Prop
  | .fault k' o' => k' = k ∧ o' = o
  | .note _ e => e.no k o
  | _ => False
theorem wordW_size (s : ByteArray) : (wordW s).size ≤ 32 := by
  rw [wordW_may]
  split
  · rename_i h
    simp only [Bool.and_eq_true, decide_eq_true_eq] at h
    exact h.1.2
  · decide
theorem bE_all (k o : Int) (xs : List ByteArray) : (bE k o xs).no k o ∧ (bE k o xs).cnt = min xs.length 8 ∧ (bE k o xs).words.length = min xs.length 8 ∧ (bE k o xs).size = min xs.length 8 + 2 ∧ (∀ s ∈ (bE k o xs).words, s.size ≤ 32) ∧ (W64 k → W64 o → (bE k o xs).plain) := by
  have g : ∀ (n : Nat) (xs : List ByteArray), xs.length = n → (bE k o xs).no k o ∧ (bE k o xs).cnt = min xs.length 8 ∧ (bE k o xs).words.length = min xs.length 8 ∧ (bE k o xs).size = min xs.length 8 + 2 ∧ (∀ s ∈ (bE k o xs).words, s.size ≤ 32) ∧ (W64 k → W64 o → (bE k o xs).plain) := by
    intro n
    induction n with
    | zero => intro xs h; obtain rfl := List.length_eq_zero_iff.1 h; exact ⟨⟨rfl, rfl⟩, rfl, rfl, rfl, fun s h => (by cases h), fun a b => ⟨a, b⟩⟩
    | succ n ih =>
      intro xs h
      have hne : xs ≠ [] := by rintro rfl; cases h
      rw [← List.dropLast_concat_getLast hne, bE_snoc]
      obtain ⟨h1, h2, h3, h4, h5, h6⟩ := ih xs.dropLast (by rw [List.length_dropLast]; omega)
      generalize bE k o xs.dropLast = e at *
      rw [List.length_append, List.length_singleton]
      unfold wrapE
      split
      · exact ⟨h1, by omega, by omega, by omega, h5, h6⟩
      · refine ⟨h1, by simp only [Er.cnt]; omega, by simp only [Er.words, List.length_cons]; omega, by simp only [Er.size]; omega, fun s hs => ?_, fun a b => ⟨by have := wordW_size (xs.getLast hne); omega, h6 a b⟩⟩
        rcases List.mem_cons.1 hs with rfl | hs
        · exact wordW_size _
        · exact h5 s hs
  exact g _ xs rfl
theorem no_line {k o : Int} {e : Er} (h : e.no k o) : e.line = lineW k o e.words := by
  induction e with
  | fault k' o' => obtain ⟨rfl, rfl⟩ := h; rfl
  | note s e ih => simp only [Er.line, Er.words, lineW, ih h]
  | sort k => cases h
  | own a => cases h
  | around e ih => cases h
  | join a e ih => cases h
theorem own_row1 (w : World) (s : ByteArray) : Own w (w.alloc (.cells #[.string s] 9)) 9 [.string s] (.slice (some ⟨w.heap.size, 0, none⟩) 1 1) :=
  ⟨⟨rfl, Or.inr ⟨w.heap.size, 1, #[.string s], rfl, Nat.le_refl _, Blk.new _ _ _ rfl, Nat.le_refl _, by decide, rfl, rfl⟩⟩, below_alloc _ _⟩
theorem wp_append_strs {ops : Array Oper} {rest : List Oper} {o : Oper} {a : Act} {Q : Exit → Act → World → Prop} (hgd : o.guard = none) (sl x : Operand)
    (ho : o.op = .call { callee := .builtin .append, args := #[sl, x], argTypes := #[23, 23] }) (w : World) (s : ByteArray) (hs : a.eval sl = .slice (some ⟨w.heap.size, 0, none⟩) 1 1)
    (v : Value) (ys : List ByteArray) (hx : a.eval x = v) (hy : Strs w v ys) (hne : ys ≠ []) (hl : ys.length ≤ 4000)
    (h : ∀ v' w', Strs w' v' (s :: ys) → Below w.heap.size w w' → wpList Tryz.prog ops Q rest (a.put o.dst v') w') : wpList Tryz.prog ops Q (o :: rest) a (w.alloc (.cells #[.string s] 9)) := by
  obtain ⟨ad, c, rfl, hc, hy⟩ := hy
  rcases hy with hy | ⟨b, p, rfl, hb, hy⟩
  · exact absurd hy hne
  · refine wp_append_any hgd sl x 23 9 (.string ⟨#[]⟩) 16 Tryz.underlying23 info_str rfl (by decide) ho w _ [.string s] _ hs (own_row1 w s) ⟨b, p, none⟩ ys.length c (ys.map .string) hx (by simp) (fun j u hj => ?_) (fun u hu => ?_) (by simp; omega) (fun v' w' hown _ _ => h v' w' ?_ hown.2)
    · rw [List.getElem?_map] at hj
      cases hq : ys[j]? with
      | none => rw [hq] at hj; cases hj
      | some y =>
        rw [hq] at hj
        cases hj
        rw [Lib.add_plain]
        exact ((below_alloc w _).cell (p := ⟨b, p + j, none⟩) hb).trans (hy j y hq)
    · obtain ⟨y, -, rfl⟩ := List.mem_map.1 hu; rfl
    · have e : [Value.string s] ++ ys.map Value.string = (s :: ys).map Value.string := rfl
      rw [e] at hown
      exact hown.strs
/-- What is carried on: the error, and its words, the outermost first. -/
def Bld (w wr : World) (xs : List ByteArray) (vs : Value) (e : Er) (v l : Value) (j : Nat) : Prop :=
  Strs wr vs xs ∧ IsEr wr e v ∧ (j = 0 ∧ l = .slice none 0 0 ∧ e.words = [] ∨ 0 < j ∧ e.words ≠ [] ∧ Strs wr l e.words) ∧ Below w.heap.size w wr
theorem Bld.on {w wr w2 : World} {xs : List ByteArray} {vs v l : Value} {e : Er} {j : Nat} (h : Bld w wr xs vs e v l j) (hb : Below wr.heap.size wr w2) : Bld w w2 xs vs e v l j :=
  ⟨h.1.on hb, IsEr.on hb h.2.1, h.2.2.1.imp id fun q => ⟨q.1, q.2.1, q.2.2.on hb⟩, h.2.2.2.trans (hb.mono h.2.2.2.size)⟩
set_option maxHeartbeats 4000000 in
theorem t_build (k o : Int) (hk : k ≠ 0) (xs : List ByteArray) (v : Value) (w : World) (h : Strs w v xs) (hl : xs.length ≤ 20) (hz : ∀ x ∈ xs, x.size ≤ 1000) :
    Calls Tryz.prog 8 #[.int .i64 k, .int .i64 o, v] w fun ex w' => (∃ u l, ex = .returned (.tuple #[u, l]) ∧ IsEr w' (bE k o xs) u ∧ Strs w' l (bE k o xs).words) ∧ Below w.heap.size w w' := by
  have N := Lib.hid (t_new k o w hk)
  have H := Lib.hid h
  have HZ := Lib.hid hz
  have HL := Lib.hid hl
  obtain ⟨a, c, rfl, hc, -⟩ := id h
  have hl' : (xs.length : Int) ≤ 20 := by omega
  clear h hz hl hk
  go_enter Tryz.func8, Tryz.ntmps8
  go_wp2_with fail
  refine N.out.mono ?_
  rintro q w1 ⟨rfl, hw⟩
  subst hw
  go_wp2
  have S : Hid (Bld w1 w1 xs (.slice a xs.length c) (bE k o (xs.take 0)) (.iface 63 (.agg #[.int .i64 k, .int .i64 o])) (.slice none 0 0) 0) := Lib.hid ⟨H.out, rfl, Or.inl ⟨rfl, rfl, rfl⟩, Below.refl _ _⟩
  go_loopg [8, 9, 17] (xs.length) (fun g v8 v9 v17 wr => ∃ j : Nat, j ≤ xs.length ∧ g = xs.length - j ∧ v17 = .int .i64 j ∧ Hid (Bld w1 wr xs (.slice a xs.length c) (bE k o (xs.take j)) v8 v9 j))
  case atStart => exact ⟨0, Nat.zero_le _, rfl, rfl, S⟩
  case round =>
    obtain ⟨j, hj, rfl, rfl, T⟩ := hrel
    clear S
    by_cases hlt : j < xs.length
    · obtain ⟨a', c', hv, -, hx⟩ := T.out.1.at
      cases hv
      obtain ⟨b, p, x, rfl, hx1, hcell⟩ := hx j hlt
      have hlt' : (j : Int) < xs.length := by omega
      have LT := Lib.hid hlt
      have sx := HZ.out x (List.mem_of_getElem? hx1)
      have E1 := Lib.hid (show bE k o (xs.take (j + 1)) = wrapE x (bE k o (xs.take j)) by
        rw [List.take_succ_eq_append_getElem hlt, bE_snoc, (List.getElem?_eq_some_iff.1 hx1).2])
      have CN := Lib.hid (show (bE k o (xs.take j)).cnt = min j 8 by rw [(bE_all k o (xs.take j)).2.1, List.length_take]; omega)
      have WL := Lib.hid (show (bE k o (xs.take j)).words.length ≤ 8 by rw [(bE_all k o (xs.take j)).2.2.1]; omega)
      have W := Lib.hid (t_wrap x (by omega) (bE k o (xs.take j)) u8 wr T.out.2.1)
      have RW := Lib.hid (fun w => r_word x (by omega) w)
      generalize bE k o (xs.take j) = e at *
      clear hx hx1 hlt sx
      go_wp2_with fail
      refine W.out.mono ?_
      rintro q w2 hq
      have hb := hq.2
      obtain ⟨u, rfl, hu⟩ := hq.is T.out.2.1
      replace T := Lib.hid (T.out.on hb)
      have U := Lib.hid hu
      clear hq hb hu W
      by_cases h8 : j < 8
      · have h8' : (j : Int) < 8 := by omega
        have EW := Lib.hid (show (wrapE x e).words = wordW x :: e.words by rw [wrapE, if_neg (by have := CN.out; omega)]; rfl)
        clear h8
        go_wp2_with fail
        refine (RW.out _).mono ?_
        rintro q w3 ⟨rfl, hb⟩
        replace T := Lib.hid (T.out.on hb)
        replace U := Lib.hid (IsEr.on hb U.out)
        clear hb
        rcases T.out.2.2.1 with ⟨rfl, rfl, he⟩ | ⟨j0, hne, hst⟩
        · have B3 := Lib.hid (below_alloc w3 (.cells #[.string (wordW x)] 9))
          have N3 := Lib.hid (own_row1 w3 (wordW x))
          have EW2 := Lib.hid (show (wrapE x e).words = [wordW x] by rw [EW.out, he])
          clear he
          go_wp2
          go_roundg (xs.length - 1)
          case measure => have := LT.out; omega
          case rel =>
            refine ⟨1, LT.out, rfl, by go_num, Lib.hid ⟨(T.out.on B3.out).1, by rw [E1.out]; exact IsEr.on B3.out U.out, Or.inr ⟨by decide, by rw [E1.out, EW2.out]; simp, ?_⟩, (T.out.on B3.out).2.2.2⟩⟩
            rw [E1.out, EW2.out]
            exact Own.strs (xs := [wordW x]) N3.out
        · have NE := Lib.hid hne
          have ST := Lib.hid hst
          clear hne hst
          go_wp2_with (at_builtin; refine wp_append_strs rfl _ _ rfl w3 (wordW x) rfl u9 e.words rfl ST.out NE.out (by have := WL.out; omega) ?_)
          intro v' w4 h4 hb
          replace T := Lib.hid (T.out.on hb)
          have U4 := Lib.hid (IsEr.on hb U.out)
          have S4 := Lib.hid h4
          clear h4 hb U ST
          go_wp2
          go_roundg (xs.length - (j + 1))
          case measure => have := LT.out; omega
          case rel => exact ⟨j + 1, LT.out, rfl, by go_num, Lib.hid ⟨T.out.1, by rw [E1.out]; exact U4.out, Or.inr ⟨by omega, by rw [E1.out, EW.out]; simp, by rw [E1.out, EW.out]; exact S4.out⟩, T.out.2.2.2⟩⟩
      · have h8' : ¬ (j : Int) < 8 := by omega
        have EW := Lib.hid (show wrapE x e = e by rw [wrapE, if_pos (by have := CN.out; omega)])
        have T1 := Lib.hid (show 0 < j ∧ e.words ≠ [] ∧ Strs w2 u9 e.words by
          rcases T.out.2.2.1 with ⟨h0, -⟩ | h0
          · omega
          · exact h0)
        clear h8
        go_wp2
        go_roundg (xs.length - (j + 1))
        case measure => have := LT.out; omega
        case rel => exact ⟨j + 1, LT.out, rfl, by go_num, Lib.hid ⟨T.out.1, by rw [E1.out]; exact U.out, Or.inr ⟨by omega, by rw [E1.out, EW.out]; exact T1.out.2.1, by rw [E1.out, EW.out]; exact T1.out.2.2⟩, T.out.2.2.2⟩⟩
    · obtain rfl : j = xs.length := by omega
      rw [List.take_of_length_le (Nat.le_refl _)] at T
      clear hlt hj
      go_wp2
      go_ret2
      refine ⟨⟨_, _, rfl, T.out.2.1, ?_⟩, T.out.2.2.2⟩
      rcases T.out.2.2.1 with ⟨_, rfl, he⟩ | ⟨_, _, h⟩
      · rw [he]; exact ⟨none, 0, rfl, Nat.le_refl _, Or.inl rfl⟩
      · exact h
/-- .. of the kind OK: there is none. -/
def Bl0 (w wr : World) (xs : List ByteArray) (vs l : Value) (j : Nat) : Prop :=
  Strs wr vs xs ∧ (j = 0 ∧ l = .slice none 0 0 ∨ 0 < j ∧ ∃ ys, ys ≠ [] ∧ ys.length ≤ j ∧ Strs wr l ys) ∧ Below w.heap.size w wr
theorem Bl0.on {w wr w2 : World} {xs : List ByteArray} {vs l : Value} {j : Nat} (h : Bl0 w wr xs vs l j) (hb : Below wr.heap.size wr w2) : Bl0 w w2 xs vs l j :=
  ⟨h.1.on hb, h.2.1.imp id fun ⟨q, ys, h1, h2, h3⟩ => ⟨q, ys, h1, h2, h3.on hb⟩, h.2.2.trans (hb.mono h.2.2.size)⟩
set_option maxHeartbeats 4000000 in
theorem t_build0 (o : Int) (xs : List ByteArray) (v : Value) (w : World) (h : Strs w v xs) (hl : xs.length ≤ 20) (hz : ∀ x ∈ xs, x.size ≤ 1000) :
    Calls Tryz.prog 8 #[.int .i64 0, .int .i64 o, v] w fun ex w' => (∃ l, ex = .returned (.tuple #[.nilIface, l])) ∧ Below w.heap.size w w' := by
  have N := Lib.hid (new_ok o w)
  have H := Lib.hid h
  have HZ := Lib.hid hz
  have HL := Lib.hid hl
  obtain ⟨a, c, rfl, hc, -⟩ := id h
  have hl' : (xs.length : Int) ≤ 20 := by omega
  clear h hz hl
  go_enter Tryz.func8, Tryz.ntmps8
  go_wp2_with fail
  refine N.out.mono ?_
  rintro q w1 ⟨rfl, hw⟩
  subst hw
  go_wp2
  have S : Hid (Bl0 w1 w1 xs (.slice a xs.length c) (.slice none 0 0) 0) := Lib.hid ⟨H.out, Or.inl ⟨rfl, rfl⟩, Below.refl _ _⟩
  go_loopg [8, 9, 17] (xs.length) (fun g v8 v9 v17 wr => ∃ j : Nat, j ≤ xs.length ∧ g = xs.length - j ∧ v17 = .int .i64 j ∧ v8 = .nilIface ∧ Hid (Bl0 w1 wr xs (.slice a xs.length c) v9 j))
  case atStart => exact ⟨0, Nat.zero_le _, rfl, rfl, rfl, S⟩
  case round =>
    obtain ⟨j, hj, rfl, rfl, rfl, T⟩ := hrel
    clear S
    by_cases hlt : j < xs.length
    · obtain ⟨a', c', hv, -, hx⟩ := T.out.1.at
      cases hv
      obtain ⟨b, p, x, rfl, hx1, hcell⟩ := hx j hlt
      have hlt' : (j : Int) < xs.length := by omega
      have LT := Lib.hid hlt
      have sx := HZ.out x (List.mem_of_getElem? hx1)
      have W := Lib.hid (fun w => wrap_nil (.string x) w)
      have RW := Lib.hid (fun w => r_word x (by omega) w)
      clear hx hx1 hlt sx
      go_wp2_with fail
      refine (W.out _).mono ?_
      rintro q w2 ⟨rfl, hw2⟩
      subst hw2
      by_cases h8 : j < 8
      · have h8' : (j : Int) < 8 := by omega
        have H8 := Lib.hid h8
        clear h8
        go_wp2_with fail
        refine (RW.out _).mono ?_
        rintro q w3 ⟨rfl, hb⟩
        replace T := Lib.hid (T.out.on hb)
        clear hb
        rcases T.out.2.1 with ⟨rfl, rfl⟩ | ⟨j0, ys, hne, hyl, hst⟩
        · have B3 := Lib.hid (below_alloc w3 (.cells #[.string (wordW x)] 9))
          have N3 := Lib.hid (own_row1 w3 (wordW x))
          go_wp2
          go_roundg (xs.length - 1)
          case measure => have := LT.out; omega
          case rel => exact ⟨1, LT.out, rfl, by go_num, rfl, Lib.hid ⟨(T.out.on B3.out).1, Or.inr ⟨by decide, [wordW x], by simp, by simp, Own.strs (xs := [wordW x]) N3.out⟩, (T.out.on B3.out).2.2⟩⟩
        · have NE := Lib.hid (And.intro hne hyl)
          have ST := Lib.hid hst
          clear hne hst hyl
          go_wp2_with (at_builtin; refine wp_append_strs rfl _ _ rfl w3 (wordW x) rfl u9 ys rfl ST.out NE.out.1 (by have := NE.out.2; have := H8.out; omega) ?_)
          intro v' w4 h4 hb
          replace T := Lib.hid (T.out.on hb)
          have S4 := Lib.hid h4
          clear h4 hb ST
          go_wp2
          go_roundg (xs.length - (j + 1))
          case measure => have := LT.out; omega
          case rel => exact ⟨j + 1, LT.out, rfl, by go_num, rfl, Lib.hid ⟨T.out.1, Or.inr ⟨by omega, wordW x :: ys, by simp, by have := NE.out.2; simp; omega, S4.out⟩, T.out.2.2⟩⟩
      · have h8' : ¬ (j : Int) < 8 := by omega
        have T1 := Lib.hid (show 0 < j ∧ ∃ ys, ys ≠ [] ∧ ys.length ≤ j + 1 ∧ Strs w2 u9 ys by
          rcases T.out.2.1 with ⟨h0, -⟩ | ⟨h0, ys, h1, h2, h3⟩
          · omega
          · exact ⟨h0, ys, h1, by omega, h3⟩)
        clear h8
        go_wp2
        go_roundg (xs.length - (j + 1))
        case measure => have := LT.out; omega
        case rel => exact ⟨j + 1, LT.out, rfl, by go_num, rfl, Lib.hid ⟨T.out.1, Or.inr ⟨by omega, T1.out.2⟩, T.out.2.2⟩⟩
    · obtain rfl : j = xs.length := by omega
      clear hlt hj
      go_wp2
      go_ret2
      exact ⟨⟨_, rfl⟩, T.out.2.2⟩
end Go.Proofs.YtcipgagpmglikaaGreatDoor
namespace Go.Proofs.YtcipgagpmglikaaGreatDoor
open Go.RowKit Go.Sort
set_option maxRecDepth 8000
theorem no_all {k o : Int} {e : Er} (h : e.no k o) : e.kind = some k ∧ e.place = some (k, o) ∧ ∀ t, e.has (.sort t) = (t == k) := by
  induction e with
  | fault k' o' =>
    obtain ⟨rfl, rfl⟩ := h
    exact ⟨rfl, rfl, fun t => by
      simp only [Er.has, Er.is, Bool.false_or]
      rw [Bool.eq_iff_iff]; simp only [beq_iff_eq]; omega⟩
  | note s e ih => exact ih h
  | sort k => cases h
  | own a => cases h
  | around e ih => cases h
  | join a e ih => cases h
theorem t_equal (v1 v2 : Value) (xs ys : List ByteArray) (w : World) (h1 : Strs w v1 xs) (h2 : Strs w v2 ys) (hx : xs.length ≤ 4000) (hy : ys.length ≤ 4000) :
    Calls Tryz.prog 13 #[v1, v2] w fun ex w' => ex = .returned (.bool (decide (xs = ys))) ∧ Below w.heap.size w w' := by
  obtain ⟨a1, c1, rfl, hc1, h1⟩ := h1
  obtain ⟨a2, c2, rfl, hc2, h2⟩ := h2
  rcases h1 with rfl | ⟨b1, o1, rfl, hb1, h1⟩
  · refine (Tryz.slices_Equal_string_empty a1 a2 c1 ys.length c2 w (by omega)).mono ?_
    rintro e w' ⟨rfl, rfl⟩
    refine ⟨?_, Below.refl _ _⟩
    have e : decide (ys.length = 0) = decide (([] : List ByteArray) = ys) := by
      rw [decide_eq_decide, List.length_eq_zero_iff]; exact ⟨fun h => h.symm, fun h => h.symm⟩
    rw [e]
  · rcases h2 with rfl | ⟨b2, o2, rfl, hb2, h2⟩
    · by_cases h0 : xs.length = 0
      · obtain rfl := List.length_eq_zero_iff.1 h0
        refine (Tryz.slices_Equal_string_empty (some ⟨b1, o1, none⟩) a2 c1 0 c2 w (by omega)).mono ?_
        rintro e w' ⟨rfl, rfl⟩
        exact ⟨rfl, Below.refl _ _⟩
      · refine (Tryz.slices_Equal_string_lens (some ⟨b1, o1, none⟩) a2 xs.length c1 0 c2 w h0).mono ?_
        rintro e w' ⟨rfl, rfl⟩
        exact ⟨by rw [decide_eq_false (fun q => h0 (by rw [q]; rfl))], Below.refl _ _⟩
    · refine (Tryz.slices_Equal_string b1 o1 xs.length c1 b2 o2 ys.length c2 xs ys w (Nat.le_refl _) (Nat.le_refl _) (by omega) (by omega)
        (fun j hj => by rw [h1 j _ (List.getElem?_eq_getElem hj), List.getD_eq_getElem?_getD, List.getElem?_eq_getElem hj]; rfl)
        (fun j hj => by rw [h2 j _ (List.getElem?_eq_getElem hj), List.getD_eq_getElem?_getD, List.getElem?_eq_getElem hj]; rfl)).mono ?_
      rintro e w' ⟨rfl, q, rfl⟩
      exact ⟨by rw [List.take_length, List.take_length], below_drewN (Below.refl _ _) q⟩
theorem meth_er (e : Er) (et : TypeId) (ex : Value) (w : World) (h : IsEr w e (.iface et ex)) (hp : e.plain) : ∀ w', (Go.method 291 et ex "Error").run Tryz.prog w' = .ok (e.errF, ex) w' := by
  intro w'
  cases e with
  | fault k o => cases h; kernel_rfl
  | note s e => obtain ⟨b, u, h, -⟩ := h; cases h; kernel_rfl
  | sort k => cases hp
  | own a => cases hp
  | around e => cases hp
  | join a e => cases hp
/-- What is carried on. -/
def Bui (w wr : World) (e : Er) (u l : Value) : Prop := IsEr wr e u ∧ Strs wr l e.words ∧ Ev wr ∧ Below w.heap.size w wr
theorem Bui.on {w wr w2 : World} {e : Er} {u l : Value} (h : Bui w wr e u l) (hb : Below wr.heap.size wr w2) : Bui w w2 e u l :=
  ⟨IsEr.on hb h.1, h.2.1.on hb, h.2.2.1.below hb, h.2.2.2.trans (hb.mono h.2.2.2.size)⟩
theorem heavy_sized {xs : List ByteArray} (h : heavyB xs = false) : xs.length ≤ 20 ∧ ∀ x ∈ xs, x.size ≤ 1000 := by
  unfold heavyB at h
  have h := of_decide_eq_false h
  refine ⟨by omega, fun x hx => ?_⟩
  have g : ∀ (l : List ByteArray), x ∈ l → x.size ≤ total l := by
    intro l
    induction l with
    | nil => intro h; cases h
    | cons y r ih =>
      intro h
      simp only [total, List.map_cons, List.sum_cons] at *
      rcases List.mem_cons.1 h with rfl | h
      · omega
      · have := ih h; omega
  have := g xs hx
  omega
set_option maxHeartbeats 8000000 in
theorem faultBuilds_any (k t o : Int) (xs : List ByteArray) (v : Value) (w : World) (h : Strs w v xs) (hz : Sized xs) (hk : W64 k) (ht : W64 t) (ho : W64 o) (hw : Ev w) :
    Calls Tryz.prog 3 #[.int .i64 k, .int .i64 t, .int .i64 o, v] w fun ex w' => ex = .returned (.bool true) ∧ Below w.heap.size w w' := by
  have N := Lib.hid (t_known w hw)
  have H := Lib.hid (fun w1 (hb : Below w.heap.size w w1) => t_heavy v xs w1 (h.on hb) hz)
  have G := Lib.hid (And.intro h hw)
  have KO := Lib.hid (And.intro hk (And.intro ht ho))
  clear h hz hw hk ht ho
  cases hh : heavyB xs with
  | true =>
    rw [hh] at H
    clear hh
    go_enter Tryz.func3, Tryz.ntmps3
    go_wp2_with fail
    refine N.out.mono ?_
    rintro q w1 ⟨rfl, hb1⟩
    go_wp2_with fail
    refine (H.out _ hb1).mono ?_
    rintro q w2 ⟨rfl, hb2⟩
    go_wp2
    go_ret
    exact ⟨rfl, hb1.trans (hb2.mono hb1.size)⟩
  | false =>
    rw [hh] at H
    have Q := Lib.hid (heavy_sized hh)
    clear hh
    by_cases hk0 : k = 0
    · subst hk0
      go_enter Tryz.func3, Tryz.ntmps3
      go_wp2_with fail
      refine N.out.mono ?_
      rintro q w1 ⟨rfl, hb1⟩
      go_wp2_with fail
      refine (H.out _ hb1).mono ?_
      rintro q w2 ⟨rfl, hb2⟩
      have B2 := Lib.hid (hb1.trans (hb2.mono hb1.size))
      clear hb1 hb2
      go_wp2_with fail
      refine (t_build0 o xs v w2 (G.out.1.on B2.out) Q.out.1 Q.out.2).mono ?_
      rintro q w3 ⟨⟨l, rfl⟩, hb3⟩
      go_wp2
      go_ret
      exact ⟨rfl, B2.out.trans (hb3.mono B2.out.size)⟩
    have hk' : (k == 0) = false := by simpa using hk0
    have BE := Lib.hid (bE_all k o xs)
    have BU := Lib.hid (fun w1 (h : Strs w1 v xs) => t_build k o hk0 xs v w1 h Q.out.1 Q.out.2)
    generalize bE k o xs = e at *
    clear hk0
    have A := Lib.hid (no_all BE.out.1)
    have PL := Lib.hid (BE.out.2.2.2.2.2 KO.out.1 KO.out.2.2)
    have SZ := Lib.hid (show e.size ≤ 4000 by have := BE.out.2.2.2.1; omega)
    have WL := Lib.hid (show e.words.length ≤ 100 by have := BE.out.2.2.1; omega)
    have K := Lib.hid (fun u l w1 (h : Bui w w1 e u l) => t_kind e u w1 h.1 h.2.2.1.2)
    have O := Lib.hid (fun u l w1 (h : Bui w w1 e u l) => t_off e u w1 h.1 h.2.2.1.place)
    have L := Lib.hid (fun u l w1 (h : Bui w w1 e u l) => line_yes e u w1 h.1 PL.out SZ.out h.2.2.1.1)
    have RL := Lib.hid (fun u l w1 (h : Bui w w1 e u l) => r_line e.words l k o KO.out.1 KO.out.2.2 w1 h.2.1 WL.out (fun s hs => by have := BE.out.2.2.2.2.1 s hs; omega))
    have EE := Lib.hid (fun et ex l w1 (h : Bui w w1 e (.iface et ex) l) => m_error e et ex w1 PL.out SZ.out h.1 h.2.2.1.1)
    have NN := Lib.hid (fun u l w1 (h : Bui w w1 e u l) => t_notes (some e) u w1 h.1 SZ.out)
    have I1 := Lib.hid (fun u l w1 (h : Bui w w1 e u l) => t_faultIs e u k w1 h.1)
    have I2 := Lib.hid (fun u l w1 (h : Bui w w1 e u l) => t_faultIs e u t w1 h.1)
    have SE := Lib.hid (fun w1 (h : Env w1) => m_sortE t KO.out.2.1 w1 h)
    have RN := Lib.hid (fun w1 => r_number t KO.out.2.1 w1)
    rw [A.out.1, kindV] at K
    rw [A.out.2.1, offV] at O
    rw [A.out.2.2 k, show (k == k) = true by simp] at I1
    rw [A.out.2.2 t] at I2
    rw [no_line BE.out.1] at L EE
    have st := txt_small KO.out.2.1
    generalize lineW k o e.words = r at *
    obtain ⟨kt, hkt⟩ : ∃ kt, kt = kindB ++ txt t := ⟨_, rfl⟩
    rw [← hkt] at SE
    generalize txt t = tt at *
    have f1 : ∀ W, (Op.stringOp .add ⟨#[107, 105, 110, 100, 32]⟩ tt).run Tryz.prog W = .ok (.string kt) W := fun W => by rw [hkt]; exact run_string_add_sum W _ _ (by have e : (⟨#[107, 105, 110, 100, 32]⟩ : ByteArray).size = 5 := rfl; omega)
    have er : (r.toList == r.toList) = true := by simp
    have ek : (kt.toList == kt.toList) = true := by simp
    clear hkt st
    go_enter Tryz.func3, Tryz.ntmps3
    go_wp2_with fail
    refine N.out.mono ?_
    rintro q w1 ⟨rfl, hb1⟩
    go_wp2_with fail
    refine (H.out _ hb1).mono ?_
    rintro q w2 ⟨rfl, hb2⟩
    have B2 := Lib.hid (hb1.trans (hb2.mono hb1.size))
    clear hb1 hb2
    go_wp2_with fail
    refine (BU.out _ (G.out.1.on B2.out)).mono ?_
    rintro q w3 ⟨⟨u, l, rfl, hu, hl⟩, hb3⟩
    have hb := B2.out.trans (hb3.mono B2.out.size)
    obtain ⟨ut, ux, rfl⟩ := hu.iface
    have S := Lib.hid (show Bui w w3 e (.iface ut ux) l from ⟨hu, hl, G.out.2.below hb, hb⟩)
    have MF := meth_er e ut ux w3 hu PL.out
    have hF : e.errF = 112 ∨ e.errF = 110 := by cases e <;> simp [Er.errF]
    rcases hF with hF | hF <;> rw [hF] at MF EE
    all_goals
      clear hu hl hb hb3 B2 BU N H G
      go_wp2_with fail
      refine (K.out _ _ _ S.out).mono ?_
      rintro q w4 ⟨rfl, hb⟩
      replace S := Lib.hid (S.out.on hb)
      clear hb
      go_wp2_with fail
      refine (O.out _ _ _ S.out).mono ?_
      rintro q w5 ⟨rfl, hb⟩
      replace S := Lib.hid (S.out.on hb)
      clear hb
      go_wp2_with fail
      refine (L.out _ _ _ S.out).mono ?_
      rintro q w6 ⟨rfl, hb⟩
      replace S := Lib.hid (S.out.on hb)
      clear hb
      go_wp2_with fail
      refine (RL.out _ _ _ S.out).mono ?_
      rintro q w7 ⟨rfl, hb⟩
      replace S := Lib.hid (S.out.on hb)
      clear hb
      go_wp2_with fail
      refine (EE.out _ _ _ _ S.out).mono ?_
      rintro q w8 ⟨rfl, hb⟩
      replace S := Lib.hid (S.out.on hb)
      clear hb
      go_wp2_with fail
      refine (NN.out _ _ _ S.out).mono ?_
      rintro q w9 ⟨⟨l2, rfl, hl2⟩, hb⟩
      replace S := Lib.hid (S.out.on hb)
      have EQ := Lib.hid (t_equal l2 l e.words e.words w9 hl2 S.out.2.1 (by have := WL.out; omega) (by have := WL.out; omega))
      rw [decide_eq_true (rfl : e.words = e.words)] at EQ
      clear hb hl2
      go_wp2_with fail
      refine EQ.out.mono ?_
      rintro q x1 ⟨rfl, hb⟩
      replace S := Lib.hid (S.out.on hb)
      clear hb EQ
      go_wp2_with fail
      refine (I1.out _ _ _ S.out).mono ?_
      rintro q x2 ⟨rfl, hb⟩
      replace S := Lib.hid (S.out.on hb)
      clear hb
      go_wp2_with fail
      refine (I2.out _ _ _ S.out).mono ?_
      rintro q x3 ⟨rfl, hb⟩
      replace S := Lib.hid (S.out.on hb)
      clear hb
      go_wp2_with fail
      refine (SE.out _ S.out.2.2.1.1).mono ?_
      rintro q x4 ⟨rfl, hb⟩
      replace S := Lib.hid (S.out.on hb)
      clear hb
      go_wp2_with fail
      refine (RN.out _).mono ?_
      rintro q x5 ⟨rfl, hb⟩
      replace S := Lib.hid (S.out.on hb)
      clear hb
      go_wp2
      go_ret
      exact ⟨rfl, S.out.2.2.2⟩
end Go.Proofs.YtcipgagpmglikaaGreatDoor
