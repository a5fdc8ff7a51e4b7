/-
  PROVED HERE (the walk): the statement TextNumbers: the text of any number of 64 bits, and the number of any text, are the document's.
-/
import Derived.Test.YtednmodeoofbgaaDoorKnown4
namespace Go.Proofs.YtednmodeoofbgaaDoor
open Go.RowKit Go.Sort
set_option maxRecDepth 8000
/-- Three texts in a row, in block p. -/
def Trio (w : World) (p : Nat) (s t u : ByteArray) : Prop := p < w.heap.size ∧ w.cell? ⟨p, 0, none⟩ = some (.string s) ∧ w.cell? ⟨p, 1, none⟩ = some (.string t) ∧ w.cell? ⟨p, 2, none⟩ = some (.string u)
theorem Trio.on {w w' : World} {p : Nat} {s t u : ByteArray} (h : Trio w p s t u) (hb : Below w.heap.size w w') : Trio w' p s t u :=
  ⟨Nat.lt_of_lt_of_le h.1 hb.size, (hb.cell (by exact h.1)).trans h.2.1, (hb.cell (by exact h.1)).trans h.2.2.1, (hb.cell (by exact h.1)).trans h.2.2.2⟩
theorem Trio.other {w : World} {p : Nat} {s t u : ByteArray} (h : Trio w p s t u) {g : Nat} (hg : p ≠ g) (cs : Array Value) : Trio (w.setRow g cs) p s t u := by
  have e : ∀ j, (w.setRow g cs).cell? ⟨p, j, none⟩ = w.cell? ⟨p, j, none⟩ := fun j => by simp only [World.cell?]; rw [heap_setRow w g p cs hg]
  exact ⟨by simpa [World.setRow] using h.1, by rw [e]; exact h.2.1, by rw [e]; exact h.2.2.1, by rw [e]; exact h.2.2.2⟩
theorem Trio.at {w : World} {p : Nat} {s t u : ByteArray} (h : Trio w p s t u) (k : Nat) (hk : k < 3) : ∃ x, w.cell? ⟨p, k, none⟩ = some (.string x) := by
  rcases (show k = 0 ∨ k = 1 ∨ k = 2 by omega) with rfl | rfl | rfl
  · exact ⟨_, h.2.1⟩
  · exact ⟨_, h.2.2.1⟩
  · exact ⟨_, h.2.2.2⟩
theorem sgn_same (n : Int) : sgn n n = 0 := by unfold sgn; split <;> (try split) <;> omega
theorem of_unnum {lo hi : Int} (hl : -170141183460469231731687303715884105728 ≤ lo) (hh : hi ≤ 170141183460469231731687303715884105727) (hl2 : lo ≤ 170141183460469231731687303715884105727) (hh2 : -170141183460469231731687303715884105728 ≤ hi) (x : ByteArray) (w : World) (hw : Glob w) :
    Calls Tryd.prog 14 #[.string x, .agg (numC (pair0 lo) (dig (absN lo))), .agg (numC (pair0 hi) (dig (absN hi)))] w fun e w' => (∃ v, e = .returned v ∧ UnnumOut lo hi x.data.toList v) ∧ Below w.heap.size w w' :=
  have a := absN_wide (x := lo) ⟨hl, hl2⟩
  have b := absN_wide (x := hi) ⟨hh2, hh⟩
  r_unnum x (pair0 lo) (pair0 hi) (absN lo) (absN hi) lo hi ⟨a.1, Int.lt_of_le_of_lt a.2 (by decide)⟩ ⟨b.1, Int.lt_of_le_of_lt b.2 (by decide)⟩ (vz_pair lo) (vz_pair hi) hl hh w hw
/-- What two readings of a text come to: nothing, or one number. -/
def Read (o : Option Int) (a : Int) (ok : Bool) (b : Bool) (m : Int) : Prop := (o = none ∧ a = 0 ∧ ok = false) ∨ (o = some a ∧ ok = true ∧ vz b m = a)
theorem read_of (o : Option Int) (b : Bool) (m : Int) (h : ∀ n, o = some n → vz b m = n) : Read o (o.getD 0) o.isSome b m := by
  cases o with
  | none => exact Or.inl ⟨rfl, rfl, rfl⟩
  | some n => exact Or.inr ⟨rfl, rfl, h n rfl⟩
theorem unnum_read {lo hi : Int} (hl : -170141183460469231731687303715884105728 ≤ lo) (hh : hi ≤ 170141183460469231731687303715884105727) (hl2 : lo ≤ 170141183460469231731687303715884105727) (hh2 : -170141183460469231731687303715884105728 ≤ hi) (x : ByteArray) (o : Option Int) (ho : num? lo hi x.data.toList = o)
    {v1 v2 : Value} (e1 : v1 = .agg (numC (pair0 lo) (dig (absN lo)))) (e2 : v2 = .agg (numC (pair0 hi) (dig (absN hi)))) (w : World) (hw : Glob w) :
    Calls Tryd.prog 14 #[.string x, v1, v2] w fun e w' => (∃ b m, Sz m ∧ e = .returned (.tuple #[.agg (numC b (dig m)), .bool o.isSome]) ∧ Read o (o.getD 0) o.isSome b m) ∧ Below w.heap.size w w' := by
  subst e1 e2 ho
  exact (of_unnum hl hh hl2 hh2 x w hw).mono fun e w' ⟨⟨v, he, b, m, hm, hv, hr⟩, hb⟩ => ⟨⟨b, m, hm, by rw [he, hv]; rfl, read_of _ b m hr⟩, hb⟩
/-- The texts, and the number in its variable. -/
def Held (w wr : World) (p q : Nat) (s t u : ByteArray) (b : Bool) (m : Int) : Prop := Trio wr p s t u ∧ (p ≠ q ∧ w.heap.size ≤ q) ∧ NumAt wr q b (dig m) ∧ Below w.heap.size w wr
theorem Held.on {w w1 w2 : World} {p q : Nat} {s t u : ByteArray} {b : Bool} {m : Int} (h : Held w w1 p q s t u b m) (hb : Below w1.heap.size w1 w2) : Held w w2 p q s t u b m :=
  ⟨h.1.on hb, h.2.1, h.2.2.1.on hb, h.2.2.2.trans (hb.mono h.2.2.2.size)⟩
set_option maxHeartbeats 2000000 in
theorem textNumbers_any (n u : Int) (s : ByteArray) (hn : -9223372036854775808 ≤ n ∧ n ≤ 9223372036854775807) (hu : 0 ≤ u ∧ u ≤ 18446744073709551615) (w : World) (hw : Env w) :
    Calls Tryd.prog 3 #[.int .i64 n, .int .u64 u, .string s] w fun e w' => e = .returned (.bool true) ∧ Below w.heap.size w w' := by
  have G := Lib.hid hw
  have K := Lib.hid (fun w hw => known_any w hw)
  clear hw
  by_cases hlen : 300 < s.size
  · have hl : (300 : Int) < s.size := by omega
    clear hlen
    go_enter Tryd.func3, Tryd.ntmps3
    go_wp2_with (go_at_call 7; refine (K.out _ G.out).mono ?_; rintro e w1 ⟨rfl, hb⟩; have B1 := Lib.hid hb; clear hb)
    go_ret
    exact ⟨rfl, B1.out⟩
  · have hl : (s.size : Int) ≤ 300 := by omega
    clear hlen
    have D := Lib.hid (t_dec n hn)
    have T := Lib.hid (t_unsigned u hu)
    have O := Lib.hid (r_of n hn)
    have N := Lib.hid (r_num u hu.1 hu.2)
    have R1 := Lib.hid (r_text (pair0 n) (absN n) n (by have := absN_bd hn; exact ⟨this.1, Int.lt_of_le_of_lt this.2 (by decide)⟩) (vz_pair n))
    have R2 := Lib.hid (r_text false u u ⟨hu.1, Int.lt_of_le_of_lt hu.2 (by decide)⟩ rfl)
    generalize txt n = tn at *
    generalize txt u = tu at *
    clear hn hu
    go_enter Tryd.func3, Tryd.ntmps3
    go_upto_region 3 with (go_at_call 7; refine (K.out _ G.out).mono ?_; rintro e w1 ⟨rfl, hb⟩; have B1 := Lib.hid hb; clear hb)
    go_upto_region 5 with fail
    go_upto_region 7 with (first
      | (go_at_call 8; refine (D.out _ (G.out.below B1.out)).mono ?_; rintro e w2 ⟨rfl, hb⟩; have B2 := Lib.hid (B1.out.trans (hb.mono B1.out.size)); clear hb B1)
      | (go_at_call 10; refine (O.out _ (G.out.1.below B2.out)).mono ?_; rintro e w3 ⟨rfl, hb⟩; have B3 := Lib.hid (B2.out.trans (hb.mono B2.out.size)); clear hb B2)
      | (go_at_call 9; first | (refine (R1.out _ (G.out.1.below B3.out)).mono ?_; rintro e w4 ⟨rfl, hb⟩; have B4 := Lib.hid (B3.out.trans (hb.mono B3.out.size)); clear hb B3) | (refine (R2.out _ (G.out.1.below B6.out)).mono ?_; rintro e w7 ⟨rfl, hb⟩; have B7 := Lib.hid (B6.out.trans (hb.mono B6.out.size)); clear hb B6))
      | (go_at_call 11; refine (T.out _ (G.out.below B4.out)).mono ?_; rintro e w5 ⟨rfl, hb⟩; have B5 := Lib.hid (B4.out.trans (hb.mono B4.out.size)); clear hb B4)
      | (go_at_call 12; refine (N.out _ (G.out.1.below B5.out)).mono ?_; rintro e w6 ⟨rfl, hb⟩; have B6 := Lib.hid (B5.out.trans (hb.mono B5.out.size)); clear hb B5))
    clear O N R1 R2
    go_upto_region 7 with fail
    go_cut [38, 39, 40] from 33 to 41 (fun v len i wr => ∃ p, v = .slice (some ⟨p, 0, none⟩) 3 3 ∧ len = .int .i64 3 ∧ i = .int .i64 0 ∧ Hid (Trio wr p s tn tu ∧ Below w.heap.size w wr ∧ w.heap.size ≤ p))
    case first =>
      go_wp2_with (first
        | (go_at_call 8; refine (D.out _ (G.out.below B7.out)).mono ?_; rintro e w8 ⟨rfl, hb⟩; have B8 := Lib.hid (B7.out.trans (hb.mono B7.out.size)); clear hb B7)
        | (go_at_call 11; refine (T.out _ (G.out.below B8.out)).mono ?_; rintro e w9 ⟨rfl, hb⟩; have B9 := Lib.hid (B8.out.trans (hb.mono B8.out.size)); clear hb B8))
      go_meet
      refine ⟨w9.heap.size, rfl, rfl, rfl, ⟨by simp, ?_, ?_, ?_⟩, B9.out.alloc B9.out.size _, B9.out.size⟩ <;> (rw [World.cell?_alloc_new]; rfl)
    case rest =>
    obtain ⟨p, rfl, rfl, rfl, hT⟩ := hcut
    obtain ⟨w9, rfl⟩ : ∃ v : World, v = wc := ⟨_, rfl⟩
    clear D T B7
    go_wp2
    go_loopw [40] (fun i wr => ∃ k : Nat, k ≤ 3 ∧ i = .int .i64 k ∧ Hid (Trio wr p s tn tu ∧ Below w.heap.size w wr)) (fun i _ => 3 - (intOf i).toNat)
    case atStart => exact ⟨0, by omega, rfl, hT.out.1, hT.out.2.1⟩
    case round =>
      clear hT
      obtain ⟨k, hk, rfl, H⟩ := hrel
      by_cases hlt : k < 3
      · obtain ⟨x, cx⟩ := H.out.1.at k hlt
        have U := Lib.hid (t_undec x)
        have V := Lib.hid (t_ununsigned x)
        have O1 := Lib.hid (r_of (-9223372036854775808) (by omega))
        have O2 := Lib.hid (r_of 9223372036854775807 (by omega))
        unfold und64 at U
        unfold undU at V
        generalize hN : num64 x.data.toList = N at *
        generalize hNU : numU x.data.toList = NU at *
        have M1 := Lib.hid (fun w hw => unnum_read (lo := -9223372036854775808) (hi := 9223372036854775807) (by omega) (by omega) (by omega) (by omega) x N hN rfl rfl w hw)
        have M2 := Lib.hid (fun w hw => unnum_read (lo := 0) (hi := 18446744073709551615) (by omega) (by omega) (by omega) (by omega) x NU hNU rfl (v2 := .agg (numC false (dig 18446744073709551615))) rfl w hw)
        have HN := Lib.hid hN
        have HNU := Lib.hid hNU
        clear hN hNU
        go_upto_region 10 with fail
        clear cx
        go_upto_region 11 with (go_at_call 13; refine (U.out _ (G.out.below H.out.2)).mono ?_; rintro e w2 ⟨rfl, hb⟩; have H2 := Lib.hid (show Trio w2 p s tn tu ∧ Below w.heap.size w w2 from ⟨H.out.1.on hb, H.out.2.trans (hb.mono H.out.2.size)⟩); clear hb H U)
        go_upto_region 11 with fail
        go_cut [11, 12] from 49 to 56 (fun g is wr => ∃ q b m, g = .pointer (some ⟨q, 0, none⟩) ∧ is = .bool N.isSome ∧ Sz m ∧ Read N (N.getD 0) N.isSome b m ∧ Hid (Held w wr p q s tn tu b m))
        case first =>
          go_wp2_with (first
            | (go_at_call 10; first | (refine (O1.out _ (G.out.1.below H2.out.2)).mono ?_; rintro e w3 ⟨rfl, hb⟩; have H3 := Lib.hid (show Trio w3 p s tn tu ∧ Below w.heap.size w w3 from ⟨H2.out.1.on hb, H2.out.2.trans (hb.mono H2.out.2.size)⟩); clear hb H2) | (refine (O2.out _ (G.out.1.below H3.out.2)).mono ?_; rintro e w4 ⟨rfl, hb⟩; have H4 := Lib.hid (show Trio w4 p s tn tu ∧ Below w.heap.size w w4 from ⟨H3.out.1.on hb, H3.out.2.trans (hb.mono H3.out.2.size)⟩); clear hb H3))
            | (go_at_call 14; refine (M1.out _ (G.out.1.below H4.out.2)).mono ?_; rintro e w5 ⟨⟨b, m, hm, rfl, hr⟩, hb⟩; have H5 := Lib.hid (show Trio w5 p s tn tu ∧ Below w.heap.size w w5 from ⟨H4.out.1.on hb, H4.out.2.trans (hb.mono H4.out.2.size)⟩); have hm := Lib.hid hm; have hr := Lib.hid hr; clear hb H4)
            | (refine store_num rfl (.tmp 11) (.tmp 54) rfl w5.heap.size rfl b (dig m) rfl false (fun _ => 0) (NumAt.new w5 false (fun _ => 0) rfl) ?_))
          go_meet
          have lt := H5.out.1.1
          exact ⟨w5.heap.size, b, m, rfl, rfl, hm.out, hr.out, (H5.out.1.on (below_alloc _ _)).other (by omega) _, ⟨by omega, H5.out.2.size⟩, (NumAt.new w5 false (fun _ => 0) rfl).whole, Below.setRow' (H5.out.2.alloc H5.out.2.size _) H5.out.2.size _⟩
        case rest =>
        obtain ⟨q, b, m, rfl, rfl, hm, hr, H⟩ := hcut
        obtain ⟨w6, rfl⟩ : ∃ v : World, v = wc := ⟨_, rfl⟩
        have hm := Lib.hid hm
        have hr := Lib.hid hr
        clear O1 O2 M1 H2
        go_upto_region 12 with fail
        go_cut [76] from 56 to 77 (fun v wr => v = .bool false ∧ Hid (Held w wr p q s tn tu b m))
        case first =>
          have G9 := Lib.hid (show Glob w6 from (G.out.below H.out.2.2.2).1)
          cases N with
          | none =>
            simp only [Option.isSome_none, Option.getD_none]
            refine wp_region_quiet_below (by kernel_rfl) (by kernel_rfl) ?_
            repeat (go_big_quiet_step (fail))
            (refine wpQuiet_nil ?_; intro _ hw'; obtain ⟨⟨dq, osq⟩, hw''⟩ := hw'; subst hw'')
            go_wp2_with fail
            go_meet
            exact ⟨rfl, H.out.on (below_quiet dq osq)⟩
          | some a =>
            simp only [Option.isSome_some, Option.getD_some]
            have vm : vz b m = a := by
              rcases hr.out with ⟨h, _⟩ | ⟨_, _, h⟩
              · cases h
              · exact h
            have ab := (num?_some HN.out).2
            have OA := Lib.hid (r_of a ab)
            have CA := Lib.hid ((r_cmp (pair0 a) b (absN a) m a a (by have := absN_bd ab; exact ⟨this.1, Int.lt_of_le_of_lt this.2 (by decide)⟩) hm.out (vz_pair a) vm).as rfl (v' := .int .i64 0) (by rw [sgn_same]))
            clear ab vm
            refine wp_region_quiet_below (by kernel_rfl) (by kernel_rfl) ?_
            repeat (first
              | ((refine quiet_load_num (.tmp 11) rfl rfl q rfl _ _ H.out.2.2.1.regrown ?_); (try simp only [Act.put, List.setIfInBounds_toArray, List.set_cons_zero, List.set_cons_succ]))
              | (go_big_quiet_step (first | (with_reducible exact (OA.out.quiet G9.out _ _)) | (with_reducible exact (CA.out.quiet G9.out _ _)))))
            (refine wpQuiet_nil ?_; intro _ hw'; obtain ⟨⟨dq, osq⟩, hw''⟩ := hw'; subst hw'')
            go_wp2_with fail
            go_meet
            exact ⟨rfl, H.out.on (below_quiet dq osq)⟩
        case rest =>
        obtain ⟨rfl, hH⟩ := hcut
        obtain ⟨w7, rfl⟩ : ∃ v : World, v = wc := ⟨_, rfl⟩
        clear H hm hr HN
        have H := hH
        clear hH
        have O0 := Lib.hid (r_of 0 (by omega))
        have N2 := Lib.hid (r_num 18446744073709551615 (by omega) (by omega))
        go_upto_region 14 with fail
        go_upto_region 15 with (go_at_call 16; refine (V.out _ (G.out.below H.out.2.2.2)).mono ?_; rintro e w8 ⟨rfl, hb⟩; have H8 := Lib.hid (H.out.on hb); clear hb H V)
        go_cut [12] from 82 to 89 (fun is wr => ∃ b m, is = .bool NU.isSome ∧ Sz m ∧ Read NU (NU.getD 0) NU.isSome b m ∧ Hid (Held w wr p q s tn tu b m))
        case first =>
          go_wp2_with (first
            | (go_at_call 10; refine (O0.out _ (G.out.1.below H8.out.2.2.2)).mono ?_; rintro e w9 ⟨rfl, hb⟩; have H9 := Lib.hid (H8.out.on hb); clear hb H8)
            | (go_at_call 12; refine (N2.out _ (G.out.1.below H9.out.2.2.2)).mono ?_; rintro e w10 ⟨rfl, hb⟩; have H10 := Lib.hid (H9.out.on hb); clear hb H9)
            | (go_at_call 14; refine (M2.out _ (G.out.1.below H10.out.2.2.2)).mono ?_; rintro e w11 ⟨⟨b', m', hm, rfl, hr⟩, hb⟩; have H11 := Lib.hid (H10.out.on hb); have hm := Lib.hid hm; have hr := Lib.hid hr; clear hb H10)
            | (refine store_num rfl (.tmp 11) (.tmp 87) rfl q rfl b' (dig m') rfl b (dig m) H11.out.2.2.1 ?_))
          go_meet
          exact ⟨b', m', rfl, hm.out, hr.out, H11.out.1.other H11.out.2.1.1 _, H11.out.2.1, H11.out.2.2.1.whole, Below.setRow' H11.out.2.2.2 H11.out.2.1.2 _⟩
        case rest =>
        obtain ⟨b, m, rfl, hm, hr, H⟩ := hcut
        obtain ⟨w12, rfl⟩ : ∃ v : World, v = wc := ⟨_, rfl⟩
        have hm := Lib.hid hm
        have hr := Lib.hid hr
        clear O0 N2 M2 H8
        go_upto_region 16 with fail
        go_cut [109] from 89 to 110 (fun v wr => v = .bool false ∧ Hid (Held w wr p q s tn tu b m))
        case first =>
          have G9 := Lib.hid (show Glob w12 from (G.out.below H.out.2.2.2).1)
          cases NU with
          | none =>
            simp only [Option.isSome_none, Option.getD_none]
            refine wp_region_quiet_below (by kernel_rfl) (by kernel_rfl) ?_
            repeat (go_big_quiet_step (fail))
            (refine wpQuiet_nil ?_; intro _ hw'; obtain ⟨⟨dq, osq⟩, hw''⟩ := hw'; subst hw'')
            go_wp2_with fail
            go_meet
            exact ⟨rfl, H.out.on (below_quiet dq osq)⟩
          | some a =>
            simp only [Option.isSome_some, Option.getD_some]
            have vm : vz b m = a := by
              rcases hr.out with ⟨h, _⟩ | ⟨_, _, h⟩
              · cases h
              · exact h
            have ab := (num?_some HNU.out).2
            have OA := Lib.hid (r_num a ab.1 ab.2)
            have CA := Lib.hid ((r_cmp false b a m a a ⟨ab.1, Int.lt_of_le_of_lt ab.2 (by decide)⟩ hm.out rfl vm).as rfl (v' := .int .i64 0) (by rw [sgn_same]))
            clear ab vm
            refine wp_region_quiet_below (by kernel_rfl) (by kernel_rfl) ?_
            repeat (first
              | ((refine quiet_load_num (.tmp 11) rfl rfl q rfl _ _ H.out.2.2.1.regrown ?_); (try simp only [Act.put, List.setIfInBounds_toArray, List.set_cons_zero, List.set_cons_succ]))
              | (go_big_quiet_step (first | (with_reducible exact (OA.out.quiet G9.out _ _)) | (with_reducible exact (CA.out.quiet G9.out _ _)))))
            (refine wpQuiet_nil ?_; intro _ hw'; obtain ⟨⟨dq, osq⟩, hw''⟩ := hw'; subst hw'')
            go_wp2_with fail
            go_meet
            exact ⟨rfl, H.out.on (below_quiet dq osq)⟩
        case rest =>
        obtain ⟨rfl, hH⟩ := hcut
        obtain ⟨w13, rfl⟩ : ∃ v : World, v = wc := ⟨_, rfl⟩
        clear H hm hr HNU
        go_wp2
        go_roundw
        case rel => exact ⟨k + 1, by omega, by go_num, hH.out.1, hH.out.2.2.2⟩
        case measure => simp [intOf]; omega
      · go_wp2
        go_ret
        exact ⟨rfl, H.out.2⟩
end Go.Proofs.YtednmodeoofbgaaDoor
