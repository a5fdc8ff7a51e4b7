/-
  PROVED HERE (the walk): the statement TextBack: what is told is read as it was; what is read is told as just that text; a longer text of a number from 0 up is a greater one; the words, joined by a blank, are the line.
  Its lemmas stand first: a longer text of a number from 0 up is a greater one; the words joined.
-/
import Derived.Test.YtednmodeoofbgaaDoorBytesLaw
namespace Go.Proofs.YtednmodeoofbgaaDoor
open Go.RowKit Go.Sort
set_option maxRecDepth 8000
theorem nDigits_mono {a b : Nat} (h : a ≤ b) : Lib.nDigits a ≤ Lib.nDigits b := by
  induction b using Nat.strongRecOn generalizing a with
  | _ b ih =>
    by_cases hb : b < 10
    · rw [Lib.nDigits_small hb, Lib.nDigits_small (by omega)]; exact Nat.le_refl _
    · rw [Lib.nDigits_big hb]
      by_cases ha : a < 10
      · rw [Lib.nDigits_small ha]; omega
      · rw [Lib.nDigits_big ha]
        have := ih (b / 10) (by omega) (a := a / 10) (by omega)
        omega
theorem longer {x y : Int} (hx : 0 ≤ x) (hy : 0 ≤ y) (h : (txt x).size < (txt y).size) : x < y := by
  rw [txt_size, txt_size, itoa_nat _ hx, itoa_nat _ hy, Lib.decDigits_length, Lib.decDigits_length] at h
  rcases (show x < y ∨ y ≤ x by omega) with g | g
  · exact g
  · have := nDigits_mono (a := y.toNat) (b := x.toNat) (by omega)
    omega
theorem und_txt {n : Int} (h : -9223372036854775808 ≤ n ∧ n ≤ 9223372036854775807) : und64 (txt n).data.toList = .tuple #[.int .i64 n, .bool true] := by
  unfold und64 num64; rw [txt_list, num?_itoa h]; rfl
theorem undU_txt {n : Int} (h : 0 ≤ n ∧ n ≤ 18446744073709551615) : undU (txt n).data.toList = .tuple #[.int .u64 n, .bool true] := by
  unfold undU numU; rw [txt_list, num?_itoa h]; rfl
theorem undW_txt {n : Int} (h : In n) : undW (txt n).data.toList = .tuple #[.agg #[.int .i64 (hiOf n), .int .u64 (loOf n)], .bool true] := by
  unfold undW numW; rw [txt_list, num?_itoa (in_iff.1 h)]; rfl
theorem eq_txt {lo hi a : Int} {s : ByteArray} (h : num? lo hi s.data.toList = some a) : txt a = s := txt_eq.2 (num?_some h).1.symm
theorem join_eq (ps : List (List UInt8)) : Lib.join ps [32] = joinB ps := by
  induction ps with
  | nil => rfl
  | cons a r ih =>
    cases r with
    | nil => rw [Lib.join_one]; rfl
    | cons b r =>
      rw [Lib.join_cons] at ih ⊢
      show _ = a ++ 32 :: joinB (b :: r)
      rw [← ih]
      simp [Lib.joinTail]
/-- The words joined by blanks are the line. -/
theorem t_join {s : ByteArray} (hs : s.size ≤ 4000) {v : Value} {w : World} (h : FieldsOut w s.data.toList v) : Calls Tryd.prog 28 #[v, .string ⟨#[32]⟩] w fun e w' => e = .returned (.string s) ∧ Below w.heap.size w w' := by
  obtain ⟨xs, hx, a, c, rfl, hc, h⟩ := h
  have hl := lists_length hx
  have hf := fields_length s.data.toList
  have hcnt := List.count_le_length (a := (32 : UInt8)) (l := s.data.toList)
  rw [len_list] at hcnt
  have hj : Lib.join (xs.map (·.data.toList)) (⟨#[32]⟩ : ByteArray).data.toList = s.data.toList := by
    rw [hx]
    exact (join_eq _).trans (fields_join _)
  rcases h with h | ⟨b, o, rfl, hb, hcell⟩
  · subst h
    have e : s = ⟨#[]⟩ := bytes_eq (by rw [← hj]; rfl)
    subst e
    exact (Tryd.strings_Join_none a c ⟨#[32]⟩ w).mono fun e w' ⟨he, hw⟩ => ⟨he, by subst hw; exact Below.refl _ _⟩
  · refine (Tryd.strings_Join b o c xs ⟨#[32]⟩ w hcell hb (by omega) hc (by rw [hj, len_list]; omega)).mono fun e w' ⟨he, hb⟩ => ⟨?_, hb⟩
    rw [he, hj]
/-- How many words there are. -/
theorem fields_shape {s : ByteArray} {v : Value} {w : World} (h : FieldsOut w s.data.toList v) : ∃ a n c, v = .slice a n c ∧ n ≤ s.data.toList.count 32 + 1 ∧ (n = 0 ↔ s.data.toList = []) := by
  obtain ⟨xs, hx, a, c, rfl, hc, h⟩ := h
  have hf := fields_length s.data.toList
  rw [← lists_length hx] at hf
  exact ⟨a, xs.length, c, rfl, hf⟩
/-- What Hex told is read as it was. -/
theorem unhex_bytes (l : List UInt8) (hl : l.length ≤ 1000) (w : World) (hw : Env w) : Calls Tryd.prog 24 #[.string ⟨(hexL l).toArray⟩] w fun e w' => (∃ u, e = .returned (.tuple #[u, .bool true]) ∧ Bytes w' u l) ∧ Below w.heap.size w w' := by
  have hs : (⟨(hexL l).toArray⟩ : ByteArray).size ≤ 4000 := by show (hexL l).toArray.size ≤ 4000; simp [hexL_length]; omega
  have e : unhexO (⟨(hexL l).toArray⟩ : ByteArray).data.toList = some l := by simpa using unhex_hex l
  refine (t_unhex _ hs w hw).mono fun e' w' ⟨⟨v, he, u, hv, hu⟩, hb⟩ => ?_
  rw [e] at hv hu
  exact ⟨⟨u, by rw [he, hv]; rfl, hu⟩, hb⟩
/-- What the call holds on to. -/
def Bk (w wr : World) (x y : Int) (v : Value) (l : List UInt8) : Prop := WideAt wr w.heap.size x ∧ WideAt wr (w.heap.size + 1) y ∧ Bytes wr v l ∧ Below w.heap.size w wr
theorem Bk.on {w w1 w2 : World} {x y : Int} {v : Value} {l : List UInt8} (h : Bk w w1 x y v l) (hb : Below w1.heap.size w1 w2) : Bk w w2 x y v l :=
  ⟨h.1.on hb, h.2.1.on hb, h.2.2.1.on hb, h.2.2.2.trans (hb.mono h.2.2.2.size)⟩
theorem hi_nonneg (x : Int) : decide (0 ≤ hiOf x) = decide (0 ≤ x) := by unfold hiOf; congr 1; apply propext; omega
set_option maxHeartbeats 4000000 in
theorem textBack_any (n u x y : Int) (l : List UInt8) (v : Value) (s : ByteArray) (w : World) (hn : -9223372036854775808 ≤ n ∧ n ≤ 9223372036854775807) (hu : 0 ≤ u ∧ u ≤ 18446744073709551615) (hx : In x) (hy : In y) (hB : Bytes w v l) (hw : Env w) :
    Calls Tryd.prog 6 #[.int .i64 n, .int .u64 u, wideV x, wideV y, v, .string s] w fun e w' => e = .returned (.bool true) ∧ Below w.heap.size w w' := by
  have G := Lib.hid hw
  have K := Lib.hid (fun w hw => known_any w hw)
  have W : Hid (Bk w ((w.alloc (wideO x)).alloc (wideO y)) x y v l) := Lib.hid ⟨(show WideAt _ _ _ by unfold WideAt; exact row_new _ _ rfl).alloc _, by unfold WideAt; exact row_new _ _ (by simp), (hB.on (below_alloc _ _)).on (below_alloc _ _), by (repeat (first | (with_reducible exact Below.refl _ _) | (with_reducible assumption) | (with_reducible refine Below.drew ?_) | (with_reducible refine below_drewN ?_ _) | ((with_reducible refine Below.alloc ?_ ?_ _); rotate_left; (focus (first | (simp; done) | (simp; omega) | omega))) | ((with_reducible refine Below.setCell ?_ ?_ _); rotate_left; (focus (first | (simp; done) | (simp; omega) | omega))) | ((with_reducible refine Below.trans ?_ (Below.mono (by assumption) ?_)); rotate_left; (focus (first | (simp; done) | (simp; omega) | omega)))))⟩
  obtain ⟨a, c, hv, hc⟩ := id hB
  subst hv
  unfold wideO at W
  unfold wideV
  clear hw hB hc
  by_cases h2 : 1000 < s.size
  · have hs : (1000 : Int) < s.size := by omega
    clear h2
    go_enter Tryd.func6, Tryd.ntmps6
    go_upto_region 1 with fail
    generalize (w.alloc (.cells #[.int .i64 (hiOf x), .int .u64 (loOf x)] 42)).alloc (.cells #[.int .i64 (hiOf y), .int .u64 (loOf y)] 42) = w0 at *
    go_wp2_with (go_at_call 7; refine (K.out _ (G.out.below W.out.2.2.2)).mono ?_; rintro e w1 ⟨rfl, hb⟩; have B1 := Lib.hid (W.out.2.2.2.trans (hb.mono W.out.2.2.2.size)); clear hb)
    go_ret
    exact ⟨rfl, B1.out⟩
  have hs : (s.size : Int) ≤ 1000 := by omega
  by_cases h1 : 1000 < l.length
  · have hl : (1000 : Int) < l.length := by omega
    clear h1 h2
    go_enter Tryd.func6, Tryd.ntmps6
    go_upto_region 1 with fail
    generalize (w.alloc (.cells #[.int .i64 (hiOf x), .int .u64 (loOf x)] 42)).alloc (.cells #[.int .i64 (hiOf y), .int .u64 (loOf y)] 42) = w0 at *
    go_wp2_with (go_at_call 7; refine (K.out _ (G.out.below W.out.2.2.2)).mono ?_; rintro e w1 ⟨rfl, hb⟩; have B1 := Lib.hid (W.out.2.2.2.trans (hb.mono W.out.2.2.2.size)); clear hb)
    go_ret
    exact ⟨rfl, B1.out⟩
  have hl : (l.length : Int) ≤ 1000 := by omega
  have D1 := Lib.hid (t_dec n hn)
  have D2 := Lib.hid (t_unsigned u hu)
  have D3 := Lib.hid (t_decw y hy)
  have D0 := Lib.hid (t_decw x hx)
  have U1 := Lib.hid ((t_undec (txt n)).as rfl (und_txt hn))
  have U2 := Lib.hid ((t_ununsigned (txt u)).as rfl (undU_txt hu))
  have U3 := Lib.hid ((t_undecw (txt y)).as rfl (undW_txt hy))
  have H1 := Lib.hid (fun w hB => t_hex l (by omega) (.slice a l.length c) w hB)
  have U4 := Lib.hid (fun w hw => unhex_bytes l (by omega) w hw)
  have E3 : ∀ W, (binOp .neq 42 (.agg #[.int .i64 (hiOf y), .int .u64 (loOf y)]) (.agg #[.int .i64 (hiOf y), .int .u64 (loOf y)])).run Tryd.prog W = .ok (.bool false) W := fun W => by
    have := neq_wide y y W
    rw [decide_eq_true rfl] at this
    exact this
  have LG := Lib.hid (fun hx hy h => longer (x := x) (y := y) hx hy h)
  have CM := Lib.hid (g_cmp x y)
  have P1 := Lib.hid (t_undec s)
  have P2 := Lib.hid (t_ununsigned s)
  have P3 := Lib.hid (t_undecw s)
  have P4 := Lib.hid (fun w hw => t_unhex s (by omega) w hw)
  have P5 := Lib.hid (fun w => t_fields s (by omega) w)
  have SZ := Lib.hid (show s.size ≤ 4000 by omega)
  unfold wideV at D3 D0
  generalize txt n = tn at *
  generalize txt u = tu at *
  generalize txt y = ty at *
  generalize txt x = tx at *
  generalize hth : (⟨(hexL l).toArray⟩ : ByteArray) = th at *
  clear hn hu hx hy h1 h2 hth
  go_enter Tryd.func6, Tryd.ntmps6
  go_upto_region 1 with fail
  generalize (w.alloc (.cells #[.int .i64 (hiOf x), .int .u64 (loOf x)] 42)).alloc (.cells #[.int .i64 (hiOf y), .int .u64 (loOf y)] 42) = w0 at *
  go_upto_region 3 with (go_at_call 7; refine (K.out _ (G.out.below W.out.2.2.2)).mono ?_; rintro e w1 ⟨rfl, hb⟩; have W1 := Lib.hid (W.out.on hb); clear hb W)
  go_upto_region 5 with fail
  go_upto_region 6 with (first
    | (go_at_call 8; refine (D1.out _ (G.out.below W1.out.2.2.2)).mono ?_; rintro e w2 ⟨rfl, hb⟩; have W2 := Lib.hid (W1.out.on hb); clear hb W1)
    | (go_at_call 13; refine (U1.out _ (G.out.below W2.out.2.2.2)).mono ?_; rintro e w3 ⟨rfl, hb⟩; have W3 := Lib.hid (W2.out.on hb); clear hb W2))
  go_upto_region 7 with (first
    | (go_at_call 11; refine (D2.out _ (G.out.below W3.out.2.2.2)).mono ?_; rintro e w4 ⟨rfl, hb⟩; have W4 := Lib.hid (W3.out.on hb); clear hb W3)
    | (go_at_call 16; refine (U2.out _ (G.out.below W4.out.2.2.2)).mono ?_; rintro e w5 ⟨rfl, hb⟩; have W5 := Lib.hid (W4.out.on hb); clear hb W4))
  --REST
  obtain ⟨b0, b1, _⟩ := W5.out.2.1.at
  go_cut [17, 18] from 54 to 60 (fun p ok wr => ∃ q, p = .pointer (some ⟨q, 0, none⟩) ∧ ok = .bool true ∧ Hid (WideAt wr q y ∧ Bk w wr x y (.slice a l.length c) l))
  case first =>
    go_wp2_with (first
      | (go_at_call 17; refine (D3.out _ (G.out.below W5.out.2.2.2)).mono ?_; rintro e w6 ⟨rfl, hb⟩; have W6 := Lib.hid (W5.out.on hb); clear hb W5 b0 b1)
      | (go_at_call 20; refine (U3.out _ (G.out.below W6.out.2.2.2)).mono ?_; rintro e w7 ⟨rfl, hb⟩; have W7 := Lib.hid (W6.out.on hb); clear hb W6))
    go_meet
    exact ⟨w7.heap.size, rfl, rfl, by unfold WideAt; exact row_new _ _ rfl, W7.out.on (below_alloc _ _)⟩
  case rest =>
  obtain ⟨q, rfl, rfl, hW⟩ := hcut
  obtain ⟨w8, rfl⟩ : ∃ v : World, v = wc := ⟨_, rfl⟩
  clear W5 b0 b1 U1 U2 U3 D1 D2
  go_upto_region 9 with (first
    | (go_at_call 22; refine (H1.out _ hW.out.2.2.2.1).mono ?_; rintro e w9 ⟨rfl, hb⟩; have W9 := Lib.hid (show WideAt w9 q y ∧ Bk w w9 x y (.slice a l.length c) l from ⟨hW.out.1.on hb, hW.out.2.on hb⟩); clear hb)
    | (go_at_call 24; refine (U4.out _ (G.out.below W9.out.2.2.2.2)).mono ?_; rintro e w10 ⟨⟨u4, rfl, hu⟩, hb⟩; have W10 := Lib.hid (show Bytes w10 u4 l ∧ WideAt w10 q y ∧ Bk w w10 x y (.slice a l.length c) l from ⟨hu, W9.out.1.on hb, W9.out.2.on hb⟩); clear hb hu W9))
  go_upto_region 9 with fail
  go_cut [101] from 66 to 102 (fun v wr => v = .bool false ∧ wr = w10)
  case first =>
    have cv1 := conv_bytes W10.out.1
    have cv2 := conv_bytes W10.out.2.2.2.2.1
    obtain ⟨a0, a1, _⟩ := W10.out.2.1.at
    obtain ⟨b0, b1, _⟩ := W10.out.2.2.2.1.at
    go_wp2
    go_meet
    exact ⟨rfl, rfl⟩
  case rest =>
  obtain ⟨rfl, rfl⟩ := hcut
  obtain ⟨w10, rfl⟩ : ∃ v : World, v = wc := ⟨_, rfl⟩
  have W11 := Lib.hid W10.out.2.2
  clear W10 hW H1 U4 E3
  unfold und64 at P1
  unfold undU at P2
  unfold undW wideV at P3
  generalize hN1 : num64 s.data.toList = N1 at *
  have HN1 := Lib.hid hN1
  clear hN1
  go_upto_region 11 with fail
  go_upto_region 12 with (go_at_call 13; refine (P1.out _ (G.out.below W11.out.2.2.2)).mono ?_; rintro e w12 ⟨rfl, hb⟩; have W12 := Lib.hid (W11.out.on hb); clear hb W11 P1)
  go_cut [113] from 107 to 114 (fun v wr => v = .bool false ∧ Hid (Bk w wr x y (.slice a l.length c) l))
  case first =>
    cases N1 with
    | none =>
      simp only [Option.isSome_none, Option.getD_none]
      go_wp2
      go_meet
      exact ⟨rfl, W12⟩
    | some z =>
      have Q := Lib.hid ((t_dec z (num?_some HN1.out).2).as rfl (v' := .string s) (by rw [eq_txt HN1.out]))
      simp only [Option.isSome_some, Option.getD_some]
      go_wp2_with (go_at_call 8; refine (Q.out _ (G.out.below W12.out.2.2.2)).mono ?_; rintro e w13 ⟨rfl, hb⟩; have W13 := Lib.hid (W12.out.on hb); clear hb)
      go_meet
      exact ⟨rfl, W13⟩
  case rest =>
  obtain ⟨rfl, hW⟩ := hcut
  obtain ⟨w13, rfl⟩ : ∃ v : World, v = wc := ⟨_, rfl⟩
  clear W12 HN1
  have W13 := hW
  clear hW
  generalize hN2 : numU s.data.toList = N2 at *
  have HN2 := Lib.hid hN2
  clear hN2
  go_upto_region 14 with fail
  go_upto_region 15 with (go_at_call 16; refine (P2.out _ (G.out.below W13.out.2.2.2)).mono ?_; rintro e w14 ⟨rfl, hb⟩; have W14 := Lib.hid (W13.out.on hb); clear hb W13 P2)
  go_cut [125] from 119 to 126 (fun v wr => v = .bool false ∧ Hid (Bk w wr x y (.slice a l.length c) l))
  case first =>
    cases N2 with
    | none =>
      simp only [Option.isSome_none, Option.getD_none]
      go_wp2
      go_meet
      exact ⟨rfl, W14⟩
    | some z =>
      have Q := Lib.hid ((t_unsigned z (num?_some HN2.out).2).as rfl (v' := .string s) (by rw [eq_txt HN2.out]))
      simp only [Option.isSome_some, Option.getD_some]
      go_wp2_with (go_at_call 11; refine (Q.out _ (G.out.below W14.out.2.2.2)).mono ?_; rintro e w15 ⟨rfl, hb⟩; have W15 := Lib.hid (W14.out.on hb); clear hb)
      go_meet
      exact ⟨rfl, W15⟩
  case rest =>
  obtain ⟨rfl, hW⟩ := hcut
  obtain ⟨w15, rfl⟩ : ∃ v : World, v = wc := ⟨_, rfl⟩
  clear W14 HN2
  have W15 := hW
  clear hW
  generalize hN3 : numW s.data.toList = N3 at *
  have HN3 := Lib.hid hN3
  clear hN3
  go_upto_region 17 with fail
  go_cut [25, 26] from 126 to 131 (fun p ok wr => ∃ q2, p = .pointer (some ⟨q2, 0, none⟩) ∧ ok = .bool N3.isSome ∧ Hid (WideAt wr q2 (N3.getD 0) ∧ Bk w wr x y (.slice a l.length c) l))
  case first =>
    go_wp2_with (go_at_call 20; refine (P3.out _ (G.out.below W15.out.2.2.2)).mono ?_; rintro e w16 ⟨rfl, hb⟩; have W16 := Lib.hid (W15.out.on hb); clear hb)
    go_meet
    exact ⟨w16.heap.size, rfl, rfl, by unfold WideAt; exact row_new _ _ rfl, W16.out.on (below_alloc _ _)⟩
  case rest =>
  obtain ⟨q2, rfl, rfl, hW⟩ := hcut
  obtain ⟨w17, rfl⟩ : ∃ v : World, v = wc := ⟨_, rfl⟩
  clear W15 P3
  go_upto_region 18 with fail
  go_cut [137] from 131 to 138 (fun v wr => v = .bool false ∧ Hid (Bk w wr x y (.slice a l.length c) l))
  case first =>
    cases N3 with
    | none =>
      simp only [Option.isSome_none]
      go_wp2
      go_meet
      exact ⟨rfl, hW.out.2⟩
    | some z =>
      have Q := Lib.hid ((t_decw z (in_iff.2 (num?_some HN3.out).2)).as (args' := #[.agg #[.int .i64 (hiOf z), .int .u64 (loOf z)]]) rfl (v' := .string s) (by rw [eq_txt HN3.out]))
      simp only [Option.isSome_some, Option.getD_some] at hW ⊢
      obtain ⟨a0, a1, _⟩ := hW.out.1.at
      go_wp2_with (go_at_call 17; refine (Q.out _ (G.out.below hW.out.2.2.2.2)).mono ?_; rintro e w18 ⟨rfl, hb⟩; have W18 := Lib.hid (hW.out.2.on hb); clear hb)
      go_meet
      exact ⟨rfl, W18⟩
  case rest =>
  obtain ⟨rfl, W18⟩ := hcut
  obtain ⟨w18, rfl⟩ : ∃ v : World, v = wc := ⟨_, rfl⟩
  clear hW HN3
  go_upto_region 20 with fail
  go_upto_region 21 with (go_at_call 24; refine (P4.out _ (G.out.below W18.out.2.2.2)).mono ?_; rintro e w19 ⟨⟨v4, rfl, u5, rfl, hu⟩, hb⟩; have W19 := Lib.hid (show Bytes w19 u5 _ ∧ Bk w w19 x y (.slice a l.length c) l from ⟨hu, W18.out.on hb⟩); clear hb hu W18 P4)
  generalize hN4 : unhexO s.data.toList = N4 at *
  have HN4 := Lib.hid hN4
  clear hN4
  go_cut [149] from 143 to 150 (fun v wr => v = .bool false ∧ Hid (Bk w wr x y (.slice a l.length c) l))
  case first =>
    cases N4 with
    | none =>
      simp only [Option.isSome_none]
      go_wp2
      go_meet
      exact ⟨rfl, W19.out.2⟩
    | some r =>
      have hr := hex_unhex HN4.out
      have hrl : 2 * r.length = s.size := by rw [← hexL_length, hr, len_list]
      have Q := Lib.hid (fun w hB => t_hex r (by have := SZ.out; omega) u5 w hB)
      have e : (⟨(hexL r).toArray⟩ : ByteArray) = s := bytes_eq (by rw [hr])
      rw [e] at Q
      simp only [Option.isSome_some, Option.getD_some] at W19 ⊢
      clear hr hrl e
      go_wp2_with (go_at_call 22; refine (Q.out _ W19.out.1).mono ?_; rintro e w20 ⟨rfl, hb⟩; have W20 := Lib.hid (W19.out.2.on hb); clear hb)
      go_meet
      exact ⟨rfl, W20⟩
  case rest =>
  obtain ⟨rfl, W20⟩ := hcut
  obtain ⟨w20, rfl⟩ : ∃ v : World, v = wc := ⟨_, rfl⟩
  clear W19 HN4
  go_upto_region 23 with fail
  obtain ⟨a0, a1⟩ := W20.out.1.at.q
  obtain ⟨b0, b1⟩ := W20.out.2.1.at.q
  have GE := Lib.hid (G.out.below W20.out.2.2.2)
  refine wp_region_quiet_below (by kernel_rfl) (by kernel_rfl) ?_
  repeat (go_big_quiet_step (first | (with_reducible exact (D3.out.quiet GE.out _ _)) | (with_reducible exact (D0.out.quiet GE.out _ _))))
  (refine wpQuiet_nil ?_; intro _ hw'; obtain ⟨⟨dq, osq⟩, hw''⟩ := hw'; subst hw'')
  have W21 := Lib.hid (W20.out.on (below_quiet (W := w20) dq osq))
  clear W20 a0 a1 b0 b1 GE D3 D0
  generalize grow (redrawn w20 dq) osq = w21 at *
  go_upto_region 24 with fail
  go_cut [174] from 154 to 175 (fun v wr => v = .bool false ∧ Hid (Bk w wr x y (.slice a l.length c) l))
  case first =>
    obtain ⟨a0, a1, _⟩ := W21.out.1.at
    obtain ⟨b0, b1, _⟩ := W21.out.2.1.at
    by_cases hx : x < 0
    · have k0 : decide (0 ≤ hiOf x) = false := by rw [hi_nonneg]; simp; omega
      clear hx
      go_wp2
      go_meet
      exact ⟨rfl, W21⟩
    · have k0 : decide (0 ≤ hiOf x) = true := by rw [hi_nonneg]; simp; omega
      by_cases hy : y < 0
      · have k1 : decide (0 ≤ hiOf y) = false := by rw [hi_nonneg]; simp; omega
        clear hx hy
        go_wp2
        go_meet
        exact ⟨rfl, W21⟩
      · have k1 : decide (0 ≤ hiOf y) = true := by rw [hi_nonneg]; simp; omega
        by_cases hz : tx.size < ty.size
        · have k2 : ((tx.size : Int) < ty.size) := by omega
          have g := LG.out (by omega) (by omega) hz
          have k3 : decide (0 ≤ sgn x y) = false := by rw [sgn_geq]; simp; omega
          have CM2 := CM
          generalize sgn x y = sg at *
          clear hx hy hz g
          go_wp2_with (go_at_call 26; refine (CM2.out _ (G.out.1.below W21.out.2.2.2)).mono ?_; rintro e w22 ⟨rfl, hb⟩; have W22 := Lib.hid (W21.out.on hb); clear hb)
          go_meet
          exact ⟨rfl, W22⟩
        · have k2 : ¬ ((tx.size : Int) < ty.size) := by omega
          clear hx hy hz
          go_wp2
          go_meet
          exact ⟨rfl, W21⟩
  case rest =>
  obtain ⟨rfl, W22⟩ := hcut
  obtain ⟨w22, rfl⟩ : ∃ v : World, v = wc := ⟨_, rfl⟩
  clear W21 LG CM
  go_upto_region 26 with fail
  go_upto_region 27 with (go_at_call 27; refine (P5.out _).mono ?_; rintro e w23 ⟨⟨v5, rfl, hF⟩, hb⟩; have W23 := Lib.hid (W22.out.2.2.2.trans (hb.mono W22.out.2.2.2.size)); clear hb W22 P5)
  have J := Lib.hid (t_join SZ.out hF)
  obtain ⟨fa, fn, fc, rfl, hf1, hf2⟩ := fields_shape hF
  have hcl := List.count_le_length (a := (32 : UInt8)) (l := s.data.toList)
  rw [len_list] at hcl
  have CN := Lib.hid (fun w => Tryd.strings_Count_one s 32 w)
  unfold Lib.countByte at CN
  generalize s.data.toList.count 32 = cn at *
  have hz : cn ≤ 4000 := by have := SZ.out; omega
  have k5 : (fn : Int) ≤ (cn : Int) + 1 := by omega
  have k6 : (s.toList == []) = decide (fn = 0) := by rw [ByteArray.toList_eq]; rw [Bool.eq_iff_iff]; simp [hf2]
  have k7 : ((fn : Int) == 0) = decide (fn = 0) := by rw [Bool.eq_iff_iff]; simp
  clear hF hf1 hf2 hcl
  generalize decide (fn = 0) = e0 at *
  go_wp2_with (first
    | (go_at_call 28; refine J.out.mono ?_; rintro e w24 ⟨rfl, hb⟩; have W24 := Lib.hid (W23.out.trans (hb.mono W23.out.size)); clear hb W23)
    | (go_at_call 29; refine (CN.out _).mono ?_; rintro e w25 ⟨rfl, rfl⟩))
  go_ret
  exact ⟨rfl, W24.out⟩
end Go.Proofs.YtednmodeoofbgaaDoor
