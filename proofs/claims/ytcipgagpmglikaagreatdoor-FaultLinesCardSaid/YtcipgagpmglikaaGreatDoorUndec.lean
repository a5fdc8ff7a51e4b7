/-
  UndecWide, Undec, Ununsigned: the number of a text.
-/
import Derived.Test.YtcipgagpmglikaaGreatDoorText2
import Derived.Test.YtcipgagpmglikaaGreatDoorDecW
import Derived.Lib.OthersKept
import Derived.Laws.RangeAny
namespace Go.Proofs.YtcipgagpmglikaaGreatDoor
open Go.RowKit Go.Sort
set_option maxRecDepth 8000
theorem prefix_minus (l : List UInt8) : Lib.hasPrefix l [45] = minus l := by
  unfold Lib.hasPrefix minus
  cases l with
  | nil => rfl
  | cons a r =>
    by_cases h : a = 45
    · subst h; simp
    · have : (45 : UInt8) ≠ a := fun e => h e.symm
      rw [List.isPrefixOf_cons_cons, beq_eq_false_iff_ne.2 this, Bool.false_and]
      split
      · rename_i e; exact absurd (List.cons.inj e).1 h
      · rfl
theorem trim_bare (l : List UInt8) : Lib.trimPrefix l [45] = bare l := by
  unfold Lib.trimPrefix
  rw [prefix_minus]
  unfold minus bare
  split <;> simp_all
theorem len_list (s : ByteArray) : s.data.toList.length = s.size := by simp
/-- A text without its sign, as the program has it. -/
def bareB (s : ByteArray) : ByteArray := ⟨(bare s.data.toList).toArray⟩
theorem bareB_list (s : ByteArray) : (bareB s).data.toList = bare s.data.toList := by simp [bareB]
theorem byte_mem (s : ByteArray) (p : Nat) (h : p < s.size) : s[p] ∈ s.data.toList := by
  have : s[p] = s.data.toList[p]'(by simpa using h) := rfl
  rw [this]; exact List.getElem_mem _
theorem take_byte (s : ByteArray) (p : Nat) (h : p < s.size) : s.data.toList.take (p + 1) = s.data.toList.take p ++ [s[p]] := by
  rw [List.take_succ_eq_append_getElem (by simpa using h)]; rfl
theorem take_all (s : ByteArray) (p : Nat) (h : ¬ p < s.size) : s.data.toList.take p = s.data.toList := List.take_of_length_le (by rw [len_list]; omega)
theorem digB_high {c : Nat} (h : 128 ≤ c) : digB (c : Int) = false := by unfold digB; simp; omega
theorem digB_not {c : Nat} (h : digB (c : Int) = false) : c < 48 ∨ 57 < c := by unfold digB at h; simp at h; omega
theorem digV_bd {c : Int} : 0 ≤ digV c ∧ digV c ≤ 15 := by unfold digV; (repeat' split) <;> omega
/-- What the call answers. -/
def undW (l : List UInt8) : Value := .tuple #[wideV ((numW l).getD 0), .bool (numW l).isSome]
theorem undW_none {l : List UInt8} (h : numW l = none) : undW l = .tuple #[.agg #[.int .i64 0, .int .u64 0], .bool false] := by unfold undW; rw [h]; rfl
theorem undW_some {l : List UInt8} {x : Int} (h : numW l = some x) : undW l = .tuple #[.agg #[.int .i64 (hiOf x), .int .u64 (loOf x)], .bool true] := by unfold undW; rw [h]; rfl
set_option maxHeartbeats 1600000 in
theorem t_undecw_long (s : ByteArray) (h : 40 < s.size) (w : World) : Calls Tryz.prog 46 #[.string s] w fun e w' => e = .returned (undW s.data.toList) ∧ Below w.heap.size w w' := by
  rw [undW_none (numW_long (by rw [len_list]; omega))]
  go_enter Tryz.func46, Tryz.ntmps46
  go_wp2
  exact bodyPost_ret (v := .tuple #[.agg #[.int .i64 0, .int .u64 0], .bool false]) (by simp [results, Tryz.results46, go_sem]) rfl ⟨rfl, by (repeat (first | exact Below.refl _ _ | assumption | (refine Below.drew ?_) | (refine Below.alloc ?_ (by first | (simp; done) | (simp; omega) | omega) _) | (refine Below.setCell ?_ (by first | (simp; done) | (simp; omega) | omega) _) | (refine Below.trans ?_ (Below.mono (by assumption) (by first | (simp; done) | (simp; omega) | omega)))))⟩
theorem end_cases (l : List UInt8) : In (endW l) ∧ ((Lib.itoa (endW l) = l ∧ numW l = some (endW l)) ∨ (Lib.itoa (endW l) ≠ l ∧ numW l = none)) := by
  refine ⟨by unfold endW; split; exact accW_in _; exact sat_in _, ?_⟩
  rw [numW_end]
  by_cases h : Lib.itoa (endW l) = l
  · exact Or.inl ⟨h, if_pos h⟩
  · exact Or.inr ⟨h, if_neg h⟩
/-- What is carried from round to round. -/
def Und (w wr : World) (t : ByteArray) (pos : Nat) (x : Int) : Prop :=
  wr.heap[w.heap.size + 1 + 1]? = some (.stringIter t pos) ∧ WideAt wr (w.heap.size + 1) x ∧ WideAt wr w.heap.size 0 ∧ Below w.heap.size w wr
theorem Und.on {w w1 w2 : World} {t : ByteArray} {pos : Nat} {x : Int} (h : Und w w1 t pos x) (hb : Below w1.heap.size w1 w2) : Und w w2 t pos x :=
  ⟨(hb.block _ (Array.getElem?_eq_some_iff.1 h.1).1).trans h.1, h.2.1.on hb, h.2.2.1.on hb, h.2.2.2.trans (hb.mono h.2.2.2.size)⟩
theorem Und.next {w wr : World} {t : ByteArray} {pos : Nat} {x : Int} (h : Und w wr t pos x) (p : Nat) : Und w (wr.iterAt (w.heap.size + 1 + 1) t p) t p x :=
  ⟨Lib.iterAt_heap wr _ t pos p h.1, (Lib.iterAt_other wr _ _ t _ (by omega)).trans h.2.1, (Lib.iterAt_other wr _ _ t _ (by omega)).trans h.2.2.1, Lib.below_iterAt h.2.2.2 (by omega) t p⟩
theorem Und.put {w wr : World} {t : ByteArray} {pos : Nat} {x : Int} (h : Und w wr t pos x) (y : Int) : Und w ((wr.setCell ⟨w.heap.size + 1, 0, none⟩ (.int .i64 (hiOf y))).setCell ⟨w.heap.size + 1, 1, none⟩ (.int .u64 (loOf y))) t pos y :=
  ⟨by rw [heap_setCell_other _ _ _ _ (by simp), heap_setCell_other _ _ _ _ (by simp)]; exact h.1, h.2.1.stored, (h.2.2.1.other (by simp) _).other (by simp) _,
    (h.2.2.2.setCell (by simp) _).setCell (by simp) _⟩
def Undec (w wr : World) (t : ByteArray) (pos : Nat) (x : Int) : Prop := Und w wr t pos x ∧ pos ≤ t.size ∧ x = accW (t.data.toList.take pos)
set_option maxHeartbeats 1600000 in
theorem t_undecw (s : ByteArray) : Says 46 #[.string s] (undW s.data.toList) := fun w hw => by
  by_cases hlen : 40 < s.size
  · exact t_undecw_long s hlen w
  have G := Lib.hid hw
  have P := Lib.hid (prefix_minus s.data.toList)
  have T := Lib.hid (trim_bare s.data.toList)
  clear hw
  have hl : (s.size : Int) ≤ 40 := by omega
  clear hlen
  go_enter Tryz.func46, Tryz.ntmps46
  go_upto_region 3 with fail
  go_upto_region 4 with (refine (Tryz.strings_CutPrefix s ⟨#[45]⟩ _).mono ?_; rintro e w' ⟨rfl, rfl⟩)
  obtain ⟨t, ht⟩ : ∃ t, t = bareB s := ⟨_, rfl⟩
  rw [T.out, P.out, show (⟨(bare s.data.toList).toArray⟩ : ByteArray) = t from ht.symm]
  have L := Lib.hid (show t.data.toList = bare s.data.toList from ht ▸ bareB_list s)
  clear ht T P hl
  generalize hm : minus s.data.toList = m at *
  have M := Lib.hid hm
  clear hm
  go_wp2
  go_loopw [] (fun wr => ∃ (pos : Nat) (x : Int), Undec w wr t pos x) (fun wr => t.size - wr.iterPos (w.heap.size + 1 + 1))
  case atStart =>
    refine ⟨0, 0, ⟨?_, ?_, ?_, ?_⟩, by omega, by simp [accW]⟩
    · exact row_new _ _ (by simp)
    · exact (heap_alloc_old _ _ (by first | (simp; done) | (simp; omega) | omega)).trans (row_new _ _ (by first | (simp; done) | (simp; omega) | omega))
    · exact (heap_alloc_old _ _ (by first | (simp; done) | (simp; omega) | omega)).trans ((heap_alloc_old _ _ (by first | (simp; done) | (simp; omega) | omega)).trans (row_new _ _ rfl))
    · unfold World.iter; (repeat (first | (with_reducible exact Below.refl _ _) | (with_reducible assumption) | (with_reducible refine Below.drew ?_) | (with_reducible refine below_drewN ?_ _) | ((with_reducible refine Below.alloc ?_ ?_ _); rotate_left; (focus (first | (simp; done) | (simp; omega) | omega))) | ((with_reducible refine Below.setCell ?_ ?_ _); rotate_left; (focus (first | (simp; done) | (simp; omega) | omega))) | ((with_reducible refine Below.trans ?_ (Below.mono (by assumption) ?_)); rotate_left; (focus (first | (simp; done) | (simp; omega) | omega)))))
  case round =>
    obtain ⟨pos, x, hu, hp, hacc⟩ := hrel
    have hit := hu.1
    have hsz : w.heap.size + 1 + 1 < wr.heap.size := (Array.getElem?_eq_some_iff.1 hit).1
    by_cases hlt : pos < t.size
    · have hd : digB (Utf8.decode t pos).1 = true ∨ digB (Utf8.decode t pos).1 = false := by cases digB (Utf8.decode t pos).1 <;> simp
      have hc : digB (Utf8.decode t pos).1 = true → (t[pos]).toNat < 128 := fun h => by
        rcases Nat.lt_or_ge (t[pos]).toNat 128 with g | g
        · exact g
        · rw [digB_high (decode_high t pos hlt g).1] at h; cases h
      have hdl := decode_le t pos
      have hnx : ∀ ty, (Instr.next (.pointer (some ⟨w.heap.size + 1 + 1, 0, none⟩)) true ty).run Tryz.prog wr = _ := fun ty => Lib.run_next_any_at wr (w.heap.size + 1 + 1) t pos ty hit hlt
      have H0 := Lib.hid hit
      have W1 := Lib.hid (hu.next (pos + (Utf8.decode t pos).2))
      have A := Lib.hid hacc
      have ha : (t[pos]).toNat < 128 → Utf8.decode t pos = ((t[pos]).toNat, 1) := decode_ascii t pos hlt
      clear hit hu hacc
      go_upto_region 7 with fail
      clear hnx
      rcases hd with hd | hd
      · have h128 := hc hd
        have ha := ha h128
        rw [ha] at hd W1 ⊢
        have D := Lib.hid (t_digit ((t[pos]).toNat : Int) (by have := h128; omega))
        clear h128 hc
        generalize wr.iterAt (w.heap.size + 1 + 1) t (pos + 1) = w1 at *
        have A1 : Hid (stepW x (t[pos]).toNat = accW (t.data.toList.take (pos + 1))) := Lib.hid (by rw [take_byte t pos hlt, accW_append, A.out])
        have hI : In x := by rw [A.out]; exact accW_in _
        have hv := digV_bd (c := ((t[pos]).toNat : Int))
        generalize hcc : ((t[pos]).toNat : Int) = c at *
        generalize hvv : digV c = v at *
        have S := Lib.hid ((g_scale x 10 hI (by omega)).as rfl (v' := wideV (sat (x * 10))) rfl)
        have O := Lib.hid ((g_of v (by omega)).as rfl (v' := wideV v) rfl)
        have B := Lib.hid ((g_sub (sat (x * 10)) v (sat_in _) (by unfold In; omega)).as rfl (v' := wideV (stepW x c)) (by unfold stepW; rw [hvv]; rfl))
        generalize stepW x c = y at *
        generalize sat (x * 10) = z at *
        unfold wideV at S O B
        rw [hd] at D
        clear hd hI hcc hvv ha
        go_upto_region 9 with (go_at_call 55; refine (D.out _ (G.out.below W1.out.2.2.2)).mono ?_; rintro e w2 ⟨rfl, hb⟩; have W2 := Lib.hid (W1.out.on hb); clear hb W1 D)
        have b0 := W2.out.2.1.at.1
        have b1 := W2.out.2.1.at.2.1
        go_wp2_with fail
        refine (S.out _ (G.out.1.below W2.out.2.2.2)).mono ?_
        rintro e w3 ⟨rfl, hb⟩
        have W3 := Lib.hid (W2.out.on hb)
        clear hb W2 b0 b1 S
        go_wp2_with fail
        refine (O.out _ (G.out.1.below W3.out.2.2.2)).mono ?_
        rintro e w4 ⟨rfl, hb⟩
        have W4 := Lib.hid (W3.out.on hb)
        clear hb W3 O
        go_wp2_with fail
        refine (B.out _ (G.out.1.below W4.out.2.2.2)).mono ?_
        rintro e w5 ⟨rfl, hb⟩
        have W5 := Lib.hid (W4.out.on hb)
        clear hb W4 B
        have b0 := W5.out.2.1.at.1
        have b1 := W5.out.2.1.at.2.1
        have f0 := W5.out.2.1.free 0
        have f1 := W5.out.2.1.free 1
        go_wp2
        go_roundw
        case rel => exact ⟨pos + 1, y, W5.out.put y, by omega, A1.out⟩
        case measure =>
          simp only [World.iterPos, (W5.out.put y).1, H0.out]
          omega
      · have N := Lib.hid (numW_bad (l := s.data.toList) (c := t[pos]) (by rw [← L.out]; exact byte_mem t pos hlt) (by
          rcases Nat.lt_or_ge (t[pos]).toNat 128 with g | g
          · rw [ha g] at hd; exact digB_not hd
          · omega))
        have D := Lib.hid (t_digit (Utf8.decode t pos).1 (by omega))
        generalize wr.iterAt (w.heap.size + 1 + 1) t (pos + (Utf8.decode t pos).2) = w1 at *
        generalize ((Utf8.decode t pos).1 : Int) = c at *
        rw [hd] at D
        clear hd ha hc hdl
        go_upto_region 9 with (go_at_call 55; refine (D.out _ (G.out.below W1.out.2.2.2)).mono ?_; rintro e w2 ⟨rfl, hb⟩; have W2 := Lib.hid (W1.out.on hb); clear hb W1 D)
        have c0 := W2.out.2.2.1.at.1
        have c1 := W2.out.2.2.1.at.2.1
        have f0 := W2.out.2.2.1.free 0
        have f1 := W2.out.2.2.1.free 1
        have R := Lib.hid ((W2.out.2.2.1.stored (x := 0)).at)
        have S2 := Lib.hid (show Below w.heap.size w ((w2.setCell ⟨w.heap.size, 0, none⟩ (.int .i64 (hiOf 0))).setCell ⟨w.heap.size, 1, none⟩ (.int .u64 (loOf 0))) from (W2.out.2.2.2.setCell (Nat.le_refl _) _).setCell (Nat.le_refl _) _)
        rw [show hiOf 0 = 0 from rfl, show loOf 0 = 0 from rfl] at R S2
        have N := Lib.hid (undW_none N.out)
        clear W2
        go_wp2
        obtain ⟨r0, r1, _⟩ := R.out
        exact bodyPost_ret (v := .tuple #[.agg #[.int .i64 0, .int .u64 0], .bool false]) (by simp [results, Tryz.results46, go_sem, r0, r1]; exact ⟨rfl, rfl⟩) rfl (And.intro (by rw [N.out]) S2.out)
    · have hnx : ∀ ty, (Instr.next (.pointer (some ⟨w.heap.size + 1 + 1, 0, none⟩)) true ty).run Tryz.prog wr = _ := fun ty => Lib.run_next_end_at wr (w.heap.size + 1 + 1) t pos ty hit hlt
      have A1 : Hid (x = accW t.data.toList) := Lib.hid (by rw [hacc, take_all t pos hlt])
      have U := Lib.hid hu
      have hI : In x := by rw [hacc]; exact accW_in _
      clear hacc hp hlt hu hit
      have E := Lib.hid (show endW s.data.toList = if m then x else sat (-x) by unfold endW; rw [M.out, ← L.out, ← A1.out])
      have B := Lib.hid (end_cases s.data.toList)
      clear M L A1
      cases m
      · have E := Lib.hid (show endW s.data.toList = sat (-x) from E.out)
        have Ng := Lib.hid ((g_neg x hI).as rfl (v' := wideV (endW s.data.toList)) (by rw [E.out]; rfl))
        have D := Lib.hid (t_decw (endW s.data.toList) B.out.1)
        have V := B.out.2
        clear B E hI
        generalize endW s.data.toList = y at *
        unfold wideV at Ng D
        have b0 := U.out.2.1.at.1
        have b1 := U.out.2.1.at.2.1
        go_upto_region 13 with fail
        clear hnx
        go_upto_region 14 with (go_at_call 58; refine (Ng.out _ (G.out.1.below U.out.2.2.2)).mono ?_; rintro e w2 ⟨rfl, hb⟩; have U1 := Lib.hid (U.out.on hb); clear hb U Ng b0 b1; have b0 := U1.out.2.1.at.1; have b1 := U1.out.2.1.at.2.1; have f0 := U1.out.2.1.free 0; have f1 := U1.out.2.1.free 1)
        have U2 := Lib.hid (U1.out.put y)
        clear U1 b0 b1 f0 f1
        generalize World.setCell _ _ _ = w2' at *
        have b0 := U2.out.2.1.at.1
        have b1 := U2.out.2.1.at.2.1
        rcases V with ⟨V1, V2⟩ | ⟨V1, V2⟩
        · have k : ((txt y).toList == s.toList) = true := by rw [ByteArray.toList_eq, ByteArray.toList_eq, txt_list, V1]; simp
          have N := Lib.hid (undW_some V2)
          generalize txt y = ty at *
          clear V1 V2
          go_wp2_with (go_at_call 59; refine (D.out _ (G.out.below U2.out.2.2.2)).mono ?_; rintro e w3 ⟨rfl, hb⟩; have U3 := Lib.hid (U2.out.on hb); clear hb U2 D b0 b1; have b0 := U3.out.2.1.at.1; have b1 := U3.out.2.1.at.2.1; have c0 := U3.out.2.2.1.at.1; have c1 := U3.out.2.2.1.at.2.1; have f0 := U3.out.2.2.1.free 0; have f1 := U3.out.2.2.1.free 1; have R := Lib.hid ((U3.out.2.2.1.stored (x := y)).at); have S2 := Lib.hid (show Below w.heap.size w ((w3.setCell ⟨w.heap.size, 0, none⟩ (.int .i64 (hiOf y))).setCell ⟨w.heap.size, 1, none⟩ (.int .u64 (loOf y))) from (U3.out.2.2.2.setCell (Nat.le_refl _) _).setCell (Nat.le_refl _) _))
          obtain ⟨r0, r1, _⟩ := R.out
          exact bodyPost_ret (v := .tuple #[.agg #[.int .i64 (hiOf y), .int .u64 (loOf y)], .bool true]) (by simp [results, Tryz.results46, go_sem, r0, r1]) rfl (And.intro (by rw [N.out]) S2.out)
        · have k : ((txt y).toList == s.toList) = false := by rw [ByteArray.toList_eq, ByteArray.toList_eq, txt_list]; simpa using V1
          have N := Lib.hid (undW_none V2)
          generalize txt y = ty at *
          clear V1 V2
          go_wp2_with (go_at_call 59; refine (D.out _ (G.out.below U2.out.2.2.2)).mono ?_; rintro e w3 ⟨rfl, hb⟩; have U3 := Lib.hid (U2.out.on hb); clear hb U2 D b0 b1; have c0 := U3.out.2.2.1.at.1; have c1 := U3.out.2.2.1.at.2.1; have f0 := U3.out.2.2.1.free 0; have f1 := U3.out.2.2.1.free 1; have R := Lib.hid ((U3.out.2.2.1.stored (x := 0)).at); have S2 := Lib.hid (show Below w.heap.size w ((w3.setCell ⟨w.heap.size, 0, none⟩ (.int .i64 (hiOf 0))).setCell ⟨w.heap.size, 1, none⟩ (.int .u64 (loOf 0))) from (U3.out.2.2.2.setCell (Nat.le_refl _) _).setCell (Nat.le_refl _) _); rw [show hiOf 0 = 0 from rfl, show loOf 0 = 0 from rfl] at R S2)
          obtain ⟨r0, r1, _⟩ := R.out
          exact bodyPost_ret (v := .tuple #[.agg #[.int .i64 0, .int .u64 0], .bool false]) (by simp [results, Tryz.results46, go_sem, r0, r1]; exact ⟨rfl, rfl⟩) rfl (And.intro (by rw [N.out]) S2.out)
      · have D := Lib.hid (t_decw (endW s.data.toList) B.out.1)
        have V := B.out.2
        have E := Lib.hid (show endW s.data.toList = x from E.out)
        rw [E.out] at D V
        generalize x = y at *
        clear B E hI
        unfold wideV at D
        have U2 := U
        clear U
        have b0 := U2.out.2.1.at.1
        have b1 := U2.out.2.1.at.2.1
        rcases V with ⟨V1, V2⟩ | ⟨V1, V2⟩
        · have k : ((txt y).toList == s.toList) = true := by rw [ByteArray.toList_eq, ByteArray.toList_eq, txt_list, V1]; simp
          have N := Lib.hid (undW_some V2)
          generalize txt y = ty at *
          clear V1 V2
          go_wp2_with (go_at_call 59; refine (D.out _ (G.out.below U2.out.2.2.2)).mono ?_; rintro e w3 ⟨rfl, hb⟩; have U3 := Lib.hid (U2.out.on hb); clear hb U2 D b0 b1; have b0 := U3.out.2.1.at.1; have b1 := U3.out.2.1.at.2.1; have c0 := U3.out.2.2.1.at.1; have c1 := U3.out.2.2.1.at.2.1; have f0 := U3.out.2.2.1.free 0; have f1 := U3.out.2.2.1.free 1; have R := Lib.hid ((U3.out.2.2.1.stored (x := y)).at); have S2 := Lib.hid (show Below w.heap.size w ((w3.setCell ⟨w.heap.size, 0, none⟩ (.int .i64 (hiOf y))).setCell ⟨w.heap.size, 1, none⟩ (.int .u64 (loOf y))) from (U3.out.2.2.2.setCell (Nat.le_refl _) _).setCell (Nat.le_refl _) _))
          obtain ⟨r0, r1, _⟩ := R.out
          exact bodyPost_ret (v := .tuple #[.agg #[.int .i64 (hiOf y), .int .u64 (loOf y)], .bool true]) (by simp [results, Tryz.results46, go_sem, r0, r1]) rfl (And.intro (by rw [N.out]) S2.out)
        · have k : ((txt y).toList == s.toList) = false := by rw [ByteArray.toList_eq, ByteArray.toList_eq, txt_list]; simpa using V1
          have N := Lib.hid (undW_none V2)
          generalize txt y = ty at *
          clear V1 V2
          go_wp2_with (go_at_call 59; refine (D.out _ (G.out.below U2.out.2.2.2)).mono ?_; rintro e w3 ⟨rfl, hb⟩; have U3 := Lib.hid (U2.out.on hb); clear hb U2 D b0 b1; have c0 := U3.out.2.2.1.at.1; have c1 := U3.out.2.2.1.at.2.1; have f0 := U3.out.2.2.1.free 0; have f1 := U3.out.2.2.1.free 1; have R := Lib.hid ((U3.out.2.2.1.stored (x := 0)).at); have S2 := Lib.hid (show Below w.heap.size w ((w3.setCell ⟨w.heap.size, 0, none⟩ (.int .i64 (hiOf 0))).setCell ⟨w.heap.size, 1, none⟩ (.int .u64 (loOf 0))) from (U3.out.2.2.2.setCell (Nat.le_refl _) _).setCell (Nat.le_refl _) _); rw [show hiOf 0 = 0 from rfl, show loOf 0 = 0 from rfl] at R S2)
          obtain ⟨r0, r1, _⟩ := R.out
          exact bodyPost_ret (v := .tuple #[.agg #[.int .i64 0, .int .u64 0], .bool false]) (by simp [results, Tryz.results46, go_sem, r0, r1]; exact ⟨rfl, rfl⟩) rfl (And.intro (by rw [N.out]) S2.out)
end Go.Proofs.YtcipgagpmglikaaGreatDoor
