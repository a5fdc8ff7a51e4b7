/-
  Fields: the words of a line.
-/
import Derived.Test.YtcipgagpmglikaaGreatDoorHexL
import Derived.Laws.RangeAny
import Derived.Lib.Join
import Derived.Lib.CountLaws
import Derived.Test.YtcipgagpmglikaaGreatDoorUndec2
import Derived.Test.YtcipgagpmglikaaGreatDoorBoxes
import Derived.OwnWalk
namespace Go.Proofs.YtcipgagpmglikaaGreatDoor
/-- The words that have ended, and the one that has not. -/
def fin (l : List UInt8) : List (List UInt8) × List UInt8 := l.foldl (fun p c => if c = 32 then (p.1 ++ [p.2], []) else (p.1, p.2 ++ [c])) ([], [])
theorem fin_blank (l : List UInt8) : fin (l ++ [32]) = ((fin l).1 ++ [(fin l).2], []) := by simp [fin, List.foldl_append]
theorem fin_seg (l : List UInt8) : ∀ seg : List UInt8, (∀ c ∈ seg, c ≠ 32) → fin (l ++ seg) = ((fin l).1, (fin l).2 ++ seg) := by
  intro seg
  induction seg generalizing l with
  | nil => intro _; simp
  | cons c r ih =>
    intro h
    have e : l ++ c :: r = (l ++ [c]) ++ r := by simp
    rw [e, ih (l ++ [c]) fun x hx => h x (List.mem_cons_of_mem _ hx)]
    have hc := h c List.mem_cons_self
    simp [fin, List.foldl_append, hc]
def fieldsL (l : List UInt8) : List (List UInt8) := if l = [] then [] else (fin l).1 ++ [(fin l).2]
theorem fin_count (l : List UInt8) : (fin l).1.length = l.count 32 := by
  have h : ∀ (l : List UInt8) (p : List (List UInt8) × List UInt8), (l.foldl (fun p c => if c = 32 then (p.1 ++ [p.2], []) else (p.1, p.2 ++ [c])) p).1.length = p.1.length + l.count 32 := by
    intro l
    induction l with
    | nil => intro p; simp
    | cons c r ih =>
      intro p
      rw [List.foldl_cons, ih]
      by_cases e : c = 32
      · subst e; simp; omega
      · rw [if_neg e, List.count_cons_of_ne e]
  rw [fin, h]; simp
/-- The words joined by blanks. -/
def joinB : List (List UInt8) → List UInt8
  | [] => []
  | [a] => a
  | a :: b :: r => a ++ 32 :: joinB (b :: r)
theorem joinB_snoc (ps : List (List UInt8)) (a b : List UInt8) : joinB (ps ++ [a] ++ [b]) = joinB (ps ++ [a]) ++ 32 :: b := by
  induction ps with
  | nil => rfl
  | cons p r ih =>
    cases r with
    | nil => simp [joinB]
    | cons q r => simp [joinB] at ih ⊢; exact ih
theorem joinB_more (ps : List (List UInt8)) (a : List UInt8) (c : List UInt8) : joinB (ps ++ [a ++ c]) = joinB (ps ++ [a]) ++ c := by
  induction ps with
  | nil => rfl
  | cons p r ih =>
    cases r with
    | nil => simp [joinB]
    | cons q r => simp [joinB] at ih ⊢; exact ih
theorem fin_join (l : List UInt8) : joinB ((fin l).1 ++ [(fin l).2]) = l := by
  have h : ∀ (n : Nat) (l : List UInt8), l.length = n → joinB ((fin l).1 ++ [(fin l).2]) = l := by
    intro n
    induction n with
    | zero => intro l hl; obtain rfl := List.length_eq_zero_iff.1 hl; rfl
    | succ n ih =>
      intro l hl
      have hne : l ≠ [] := by rintro rfl; cases hl
      have e := List.dropLast_concat_getLast hne
      have i := ih l.dropLast (by rw [List.length_dropLast]; omega)
      rw [← e]
      by_cases hc : l.getLast hne = 32
      · rw [hc, fin_blank, joinB_snoc, i]
      · rw [fin_seg _ [l.getLast hne] (by intro c h; obtain rfl := List.mem_singleton.1 h; exact hc), joinB_more, i]
  exact h _ l rfl
theorem fields_join (l : List UInt8) : joinB (fieldsL l) = l := by
  unfold fieldsL
  split
  · rename_i h; rw [h]; rfl
  · exact fin_join l
theorem fields_length (l : List UInt8) : (fieldsL l).length ≤ l.count 32 + 1 ∧ ((fieldsL l).length = 0 ↔ l = []) := by
  unfold fieldsL
  split
  · rename_i h; rw [h]; simp
  · rename_i h
    rw [List.length_append, fin_count]
    simp [h]
theorem get_at (s : ByteArray) (p : Nat) (h : p < s.size) : s.get! p = s[p] := by simp [ByteArray.get!, getElem!_pos, h]; rfl
/-- What a step passes by beyond ASCII: bytes beyond ASCII alone. -/
theorem decode_span (s : ByteArray) (pos : Nat) (h : pos < s.size) (ha : 128 ≤ (s[pos]'h).toNat) :
    pos + (Utf8.decode s pos).2 ≤ s.size ∧ ∀ j, j < (Utf8.decode s pos).2 → 128 ≤ (s.get! (pos + j)).toNat := by
  have h0 : (s.get! (pos + 0)).toNat = (s[pos]'h).toNat := by rw [Nat.add_zero, get_at s pos h]
  have hn : ¬ (s.get! (pos + 0)).toNat < 128 := by omega
  simp only [Utf8.decode, hn, if_false]
  have hz : ∀ j, j < 1 → 128 ≤ (s.get! (pos + j)).toNat := fun j hj => by obtain rfl : j = 0 := by omega
                                                                          omega
  (repeat' split) <;> rename_i c <;> simp only [Bool.and_eq_true, decide_eq_true_eq, beq_iff_eq] at *
  all_goals first
    | exact ⟨by omega, hz⟩
    | (refine ⟨by omega, fun j hj => ?_⟩
       rcases (show j = 0 ∨ j = 1 ∨ j = 2 ∨ j = 3 by omega) with rfl | rfl | rfl | rfl <;> omega)
open Go.RowKit Go.Sort
set_option maxRecDepth 8000
theorem info_str : (Tryz.prog.info? 9).map (fun i => (i.zero, i.size, i.bytes)) = some (some (.string ⟨#[]⟩), 1, 16) := by kernel_rfl
/-- A slice that holds these strings. -/
def Strs (w : World) (v : Value) (xs : List ByteArray) : Prop :=
  ∃ a c, v = .slice a xs.length c ∧ xs.length ≤ c ∧ (xs = [] ∨ ∃ b o, a = some ⟨b, o, none⟩ ∧ b < w.heap.size ∧ ∀ j x, xs[j]? = some x → w.cell? ⟨b, o + j, none⟩ = some (.string x))
theorem Strs.on {w w' : World} {v : Value} {xs : List ByteArray} (h : Strs w v xs) (hb : Below w.heap.size w w') : Strs w' v xs := by
  obtain ⟨a, c, e, hc, h⟩ := h
  refine ⟨a, c, e, hc, h.imp id ?_⟩
  rintro ⟨b, o, ea, hl, hx⟩
  exact ⟨b, o, ea, Nat.lt_of_lt_of_le hl hb.size, fun j x hj => (hb.cell (by exact hl)).trans (hx j x hj)⟩
theorem Strs.of_owns {w : World} {B : Nat} {v : Value} {xs : List ByteArray} (h : w.ownsRow B 9 1 v xs.length (xs.map .string)) : Strs w v xs := by
  obtain ⟨_, ⟨rfl, h0⟩ | ⟨g, cap, cur, rfl, _, hg, hn, _, hs, ht⟩⟩ := h
  · have : xs = [] := List.length_eq_zero_iff.1 h0
    subst this
    exact ⟨none, 0, rfl, Nat.le_refl _, Or.inl rfl⟩
  · refine ⟨some ⟨g, 0, none⟩, cap, rfl, hn, Or.inr ⟨g, 0, rfl, (Array.getElem?_eq_some_iff.1 hg).1, fun j x hj => ?_⟩⟩
    have hl : j < xs.length := (List.getElem?_eq_some_iff.1 hj).1
    have e : cur[j]? = (xs.map Value.string)[j]? := by
      rw [← ht, List.getElem?_take_of_lt (by omega)]; simp
    rw [Nat.zero_add, cell_of_row w g j cur _ _ hg, e, List.getElem?_map, hj]
    rfl
theorem owns_on {w w' : World} {B : Nat} {e : TypeId} {size : Nat} {v : Value} {n : Nat} {xs : List Value} (h : w.ownsRow B e size v n xs) (hb : Below w.heap.size w w') : w'.ownsRow B e size v n xs := by
  obtain ⟨a, h⟩ := h
  refine ⟨a, h.imp id ?_⟩
  rintro ⟨g, cap, cur, e1, e2, hg, r⟩
  exact ⟨g, cap, cur, e1, e2, (hb.block g (Array.getElem?_eq_some_iff.1 hg).1).trans hg, r⟩
set_option maxHeartbeats 400000 in
theorem t_clone (s : ByteArray) (hs : s.size ≤ 4000) (w : World) : Calls Tryz.prog 37 #[.string s] w fun e w' => e = .returned (.string s) ∧ Below w.heap.size w w' := by
  go_enter Tryz.func37, Tryz.ntmps37
  go_wp2_with (go_at_call 50; refine (Tryz.stringslite_Clone s _ (by omega)).mono ?_; rintro e w1 ⟨rfl, hb⟩)
  go_ret
  exact ⟨rfl, hb⟩
theorem extract_list (s : ByteArray) (a b : Nat) : (s.extract a b).data.toList = (s.data.toList.take b).drop a := by
  simp [List.drop_take]
theorem t_piece (s x : ByteArray) (a b : Nat) (hs : s.size ≤ 4000) (hab : a ≤ b) (hb : b ≤ s.size) (hx : x.data.toList = (s.data.toList.take b).drop a) (w : World) :
    Calls Tryz.prog 45 #[.string s, .int .i64 a, .int .i64 b] w fun e w' => e = .returned (.string x) ∧ Below w.heap.size w w' := by
  have e : s.extract a b = x := bytes_eq (by rw [extract_list, hx])
  have C := Lib.hid (fun w => t_clone x (by rw [← e]; simp; omega) w)
  have hab' : (a : Int) ≤ b := by omega
  have hb' : (b : Int) ≤ s.size := by omega
  go_enter Tryz.func45, Tryz.ntmps45
  go_wp2_with fail
  refine (C.out _).mono ?_
  rintro e w1 ⟨rfl, hb⟩
  go_wp2
  go_ret
  exact ⟨rfl, hb⟩
/-- The words so far, in a row of the call's own; the iterator; below them all is as it was. -/
def Fld (w wr : World) (s : ByteArray) (at_ : Nat) (xs : List ByteArray) (v : Value) : Prop :=
  wr.heap[w.heap.size]? = some (.stringIter s at_) ∧ wr.ownsRow (w.heap.size + 1) 9 1 v xs.length (xs.map .string) ∧ Below w.heap.size w wr
theorem Fld.on {w w1 w2 : World} {s : ByteArray} {at_ : Nat} {xs : List ByteArray} {v : Value} (h : Fld w w1 s at_ xs v) (hb : Below w1.heap.size w1 w2) : Fld w w2 s at_ xs v :=
  ⟨(hb.block _ (Array.getElem?_eq_some_iff.1 h.1).1).trans h.1, owns_on h.2.1 hb, h.2.2.trans (hb.mono h.2.2.size)⟩
theorem Fld.next {w w1 : World} {s : ByteArray} {at_ : Nat} {xs : List ByteArray} {v : Value} (h : Fld w w1 s at_ xs v) (q : Nat) : Fld w (w1.iterAt w.heap.size s q) s q xs v := by
  obtain ⟨hi, ⟨a, ho⟩, hb⟩ := h
  refine ⟨Lib.iterAt_heap w1 _ s at_ q hi, ⟨a, ho.imp id ?_⟩, Lib.below_iterAt hb (Nat.le_refl _) s q⟩
  rintro ⟨g, cap, cur, e1, e2, hg, r⟩
  exact ⟨g, cap, cur, e1, e2, (Lib.iterAt_other w1 _ _ s q (by omega)).trans hg, r⟩
theorem wp_append_str {ops : Array Oper} {rest : List Oper} {o : Oper} {a : Act} {Q : Exit → Act → World → Prop} (hgd : o.guard = none) (sl x : Operand)
    (ho : o.op = .call { callee := .builtin .append, args := #[sl, x], argTypes := #[23, 23] }) (w wr : World) (s : ByteArray) (at_ : Nat) (xs : List ByteArray) (v : Value) (hs : a.eval sl = v) (R : Fld w wr s at_ xs v)
    (y : ByteArray) (hx : a.eval x = .slice (some ⟨wr.heap.size, 0, none⟩) 1 1) (hl : xs.length ≤ 4000)
    (h : ∀ v' w', Fld w w' s at_ (xs ++ [y]) v' → wpList Tryz.prog ops Q rest (a.put o.dst v') w') : wpList Tryz.prog ops Q (o :: rest) a (wr.alloc (.cells #[.string y] 9)) := by
  obtain ⟨i0, hi, hz0, hz1, hz2⟩ := info_parts info_str
  have lo := R.2.1.lt
  have sz := R.2.2.size
  have lt := (Array.getElem?_eq_some_iff.1 R.1).1
  refine wpList_append_own _ hgd sl x 23 ho (w.heap.size + 1) 9 i0 (.string ⟨#[]⟩) 1 16 Tryz.underlying23 hi hz0 hz1 hz2 rfl (by decide) v xs.length _ hs (R.2.1.alloc _) ⟨wr.heap.size, 0, none⟩ 1 1 [.string y] hx rfl (fun j u hj => ?_) (fun u hu => ?_) (by simp only [maxLen]; omega) (by omega) (by simp; omega) (fun v' w' hown hgrow _ => h v' w' ⟨?_, ?_, (R.2.2.alloc sz _).grown hgrow (by simp; omega) (fun k hk => by have := (lo k hk).1; omega)⟩)
  · match j, hj with
    | 0, hj => simp at hj; subst hj; rw [Lib.add_plain]; exact World.cell?_alloc_at _ _ _ _ rfl
    | j + 1, hj => simp at hj
  · simp at hu; subst hu; rfl
  · have := hgrow.block w.heap.size (by simp; omega) (fun e => by have := (lo _ e.symm).1; omega)
    rw [this, heap_alloc_old _ _ lt]; exact R.1
  · rw [List.map_append, List.length_append]; exact hown
theorem lists_snoc {xs : List ByteArray} {y : ByteArray} {ps : List (List UInt8)} {q : List UInt8} (h : xs.map (·.data.toList) = ps) (hy : y.data.toList = q) : (xs ++ [y]).map (·.data.toList) = ps ++ [q] := by simp [h, hy]
theorem lists_length {xs : List ByteArray} {ps : List (List UInt8)} (h : xs.map (·.data.toList) = ps) : xs.length = ps.length := by rw [← h]; simp
/-- What the call answers. -/
def FieldsOut (w : World) (l : List UInt8) (v : Value) : Prop := ∃ xs, xs.map (·.data.toList) = fieldsL l ∧ Strs w v xs
theorem width_pos (s : ByteArray) (pos : Nat) (h : pos < s.size) : 1 ≤ (Utf8.decode s pos).2 := by
  by_cases ha : (s[pos]'h).toNat < 128
  · rw [decode_ascii s pos h ha]; exact Nat.le_refl _
  · exact (decode_high s pos h (by omega)).2
/-- What a step over no blank passes by. -/
theorem step_seg (s : ByteArray) (pos : Nat) (h : pos < s.size) (hb : ¬ s[pos] = 32) : pos + (Utf8.decode s pos).2 ≤ s.size ∧ (Utf8.decode s pos).1 ≠ 32 ∧
    ∃ seg, s.data.toList.take (pos + (Utf8.decode s pos).2) = s.data.toList.take pos ++ seg ∧ (∀ c ∈ seg, c ≠ 32) := by
  by_cases ha : (s[pos]'h).toNat < 128
  · rw [decode_ascii s pos h ha]
    refine ⟨h, fun e => hb (UInt8.toNat_inj.1 e), [s[pos]], take_byte s pos h, fun c hc => ?_⟩
    obtain rfl := List.mem_singleton.1 hc
    exact hb
  · have d := decode_high s pos h (by omega)
    have sp := decode_span s pos h (by omega)
    generalize (Utf8.decode s pos).2 = k at *
    refine ⟨sp.1, by omega, (s.data.toList.drop pos).take k, List.take_add, fun c hc => ?_⟩
    obtain ⟨j, hj, rfl⟩ := List.mem_iff_getElem.1 hc
    rw [List.length_take, List.length_drop, len_list] at hj
    have hl : pos + j < s.size := by omega
    have e : ((s.data.toList.drop pos).take k)[j] = s[pos + j] := by
      rw [List.getElem_take, List.getElem_drop]; rfl
    have g := sp.2 j (by omega)
    rw [get_at s _ hl] at g
    rw [e]
    intro q
    rw [q] at g
    revert g
    decide
set_option maxHeartbeats 1000000 in
theorem t_fields (s : ByteArray) (hs : s.size ≤ 4000) (w : World) : Calls Tryz.prog 31 #[.string s] w fun e w' => (∃ v, e = .returned v ∧ FieldsOut w' s.data.toList v) ∧ Below w.heap.size w w' := by
  by_cases h0 : s.size = 0
  · have e : s.data.toList = [] := List.length_eq_zero_iff.1 (by rw [len_list]; exact h0)
    have k : (s.toList == []) = true := by rw [ByteArray.toList_eq, e]; rfl
    have N := Lib.hid e
    clear h0 e
    go_enter Tryz.func31, Tryz.ntmps31
    go_wp2
    go_ret
    exact ⟨⟨_, rfl, [], by rw [N.out]; rfl, none, 0, rfl, Nat.le_refl _, Or.inl rfl⟩, Below.refl _ _⟩
  · have ne : s.data.toList ≠ [] := fun e => h0 (by rw [← len_list, e]; rfl)
    have k : (s.toList == []) = false := by rw [ByteArray.toList_eq]; simpa using ne
    have NE := Lib.hid ne
    clear h0 ne
    go_enter Tryz.func31, Tryz.ntmps31
    go_wp2
    go_loopw [3, 4] (fun v st wr => ∃ (pos a : Nat) (xs : List ByteArray), a ≤ pos ∧ pos ≤ s.size ∧ st = .int .i64 a ∧ Hid (xs.map (·.data.toList) = (fin (s.data.toList.take pos)).1) ∧ Hid ((s.data.toList.take pos).drop a = (fin (s.data.toList.take pos)).2) ∧ Hid (Fld w wr s pos xs v)) (fun _ _ wr => s.size - wr.iterPos w.heap.size)
    case atStart => exact ⟨0, 0, [], Nat.le_refl _, Nat.zero_le _, rfl, rfl, rfl, row_new _ _ rfl, (World.ownsRow_nil _ _ _ _).alloc _, below_alloc _ _⟩
    case round =>
      obtain ⟨pos, a, xs, hap, hp, rfl, X, D, F⟩ := hrel
      have hit := F.out.1
      have XL := Lib.hid (show xs.length ≤ 4000 by
        rw [lists_length X.out, fin_count]
        have := List.count_le_length (a := (32 : UInt8)) (l := s.data.toList.take pos)
        rw [List.length_take, len_list] at this
        omega)
      by_cases hlt : pos < s.size
      · have hnx : ∀ ty, (Instr.next (.pointer (some ⟨w.heap.size, 0, none⟩)) true ty).run Tryz.prog wr = _ := fun ty => Lib.run_next_any_at wr w.heap.size s pos ty hit hlt
        have hdl := decode_le s pos
        have H0 := Lib.hid hit
        have F1 := Lib.hid (F.out.next (pos + (Utf8.decode s pos).2))
        have HW := Lib.hid (width_pos s pos hlt)
        by_cases hb : s[pos] = 32
        · have ed : Utf8.decode s pos = (32, 1) := by rw [decode_ascii s pos hlt (by rw [hb]; decide), hb]; rfl
          rw [ed] at F1 hnx
          clear hit F hdl
          have P := Lib.hid (fun x hx w => t_piece s x a pos hs hap hp hx w)
          obtain ⟨x, hx⟩ : ∃ x : ByteArray, x.data.toList = (s.data.toList.take pos).drop a := ⟨s.extract a pos, extract_list _ _ _⟩
          have P := Lib.hid (P.out x hx)
          have X1 := Lib.hid (show (xs ++ [x]).map (·.data.toList) = (fin (s.data.toList.take (pos + 1))).1 by rw [take_byte s pos hlt, hb, fin_blank]; exact lists_snoc X.out (hx.trans D.out))
          have D1 := Lib.hid (show (s.data.toList.take (pos + 1)).drop (pos + 1) = (fin (s.data.toList.take (pos + 1))).2 by rw [take_byte s pos hlt, hb, fin_blank, List.drop_of_length_le (by rw [List.length_append, List.length_take, len_list]; simp; omega)])
          clear hx hb ed
          go_upto_region 7 with fail
          clear hnx
          generalize wr.iterAt w.heap.size s (pos + 1) = w1 at *
          go_wp2_with (first
            | (go_at_call 45; refine (P.out _).mono ?_; rintro e w2 ⟨rfl, hb⟩; have F2 := Lib.hid (F1.out.on hb); clear hb F1)
            | (at_builtin; refine wp_append_str rfl _ _ rfl w _ s _ xs _ rfl F2.out x rfl XL.out ?_))
          intro v' w3 F3
          have F3 := Lib.hid F3
          clear F2
          go_wp2
          go_roundw
          case rel => exact ⟨pos + 1, pos + 1, xs ++ [x], Nat.le_refl _, by omega, by go_num, X1, D1, F3⟩
          case measure =>
            simp only [World.iterPos, F3.out.1, H0.out]
            omega
        · have SG := Lib.hid (step_seg s pos hlt hb)
          obtain ⟨q, hq⟩ : ∃ q, q = pos + (Utf8.decode s pos).2 := ⟨_, rfl⟩
          obtain ⟨r, hr⟩ : ∃ r, r = (Utf8.decode s pos).1 := ⟨_, rfl⟩
          have SQ := Lib.hid (show q ≤ s.size ∧ pos < q ∧ r ≠ 32 ∧ ∃ seg, s.data.toList.take q = s.data.toList.take pos ++ seg ∧ (∀ c ∈ seg, c ≠ 32) from by
            rw [hq, hr]; exact ⟨SG.out.1, by have := HW.out; omega, SG.out.2.1, SG.out.2.2⟩)
          rw [← hq] at F1 hnx
          rw [← hr] at hnx hdl
          clear hit F SG HW hq hr hb
          obtain ⟨seg, e1, e2⟩ := SQ.out.2.2.2
          have X1 := Lib.hid (show xs.map (·.data.toList) = (fin (s.data.toList.take q)).1 by rw [e1, fin_seg _ _ e2]; exact X.out)
          have D1 := Lib.hid (show (s.data.toList.take q).drop a = (fin (s.data.toList.take q)).2 by
            rw [e1, fin_seg _ _ e2, List.drop_append_of_le_length (by rw [List.length_take, len_list]; omega), D.out])
          clear e1 e2
          have nr : ((r : Int) == 32) = false := by have := SQ.out.2.2.1; simp; omega
          have hq0 : q ≤ s.size := SQ.out.1
          have hq1 : pos < q := SQ.out.2.1
          go_upto_region 7 with fail
          clear hnx
          generalize wr.iterAt w.heap.size s q = w1 at *
          go_wp2
          go_roundw
          case rel => exact ⟨q, a, xs, by omega, hq0, rfl, X1, D1, F1⟩
          case measure =>
            simp only [World.iterPos, F1.out.1, H0.out]
            omega
      · obtain rfl : pos = s.size := by omega
        have hnx : ∀ ty, (Instr.next (.pointer (some ⟨w.heap.size, 0, none⟩)) true ty).run Tryz.prog wr = _ := fun ty => Lib.run_next_end_at wr w.heap.size s s.size ty hit hlt
        obtain ⟨x, hx⟩ : ∃ x : ByteArray, x.data.toList = (s.data.toList.take s.size).drop a := ⟨s.extract a s.size, extract_list _ _ _⟩
        have P := Lib.hid (fun w => t_piece s x a s.size hs hap (Nat.le_refl _) hx w)
        have TA : s.data.toList.take s.size = s.data.toList := List.take_of_length_le (by rw [len_list]; omega)
        have X1 := Lib.hid (show (xs ++ [x]).map (·.data.toList) = fieldsL s.data.toList by
          unfold fieldsL
          rw [if_neg NE.out]
          have a1 := X.out
          have a2 := hx.trans D.out
          rw [TA] at a1 a2
          exact lists_snoc a1 a2)
        clear hx TA hlt
        go_upto_region 11 with fail
        clear hnx hit
        go_wp2_with (first
          | (go_at_call 45; refine (P.out _).mono ?_; rintro e w2 ⟨rfl, hb⟩; have F2 := Lib.hid (F.out.on hb); clear hb F)
          | (at_builtin; refine wp_append_str rfl _ _ rfl w _ s _ xs _ rfl F2.out x rfl XL.out ?_))
        intro v' w3 F3
        have F3 := Lib.hid F3
        clear F2
        go_wp2
        go_ret
        exact ⟨⟨_, rfl, _, X1.out, Strs.of_owns F3.out.2.1⟩, F3.out.2.2⟩
end Go.Proofs.YtcipgagpmglikaaGreatDoor
