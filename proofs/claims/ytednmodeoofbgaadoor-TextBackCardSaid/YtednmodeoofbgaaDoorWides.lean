/-
  PROVED HERE (the walk): the statement TextWides: the text of any wide number, and the wide number of any text, are the document's.
-/
import Derived.Test.YtednmodeoofbgaaDoorNumbers
namespace Go.Proofs.YtednmodeoofbgaaDoor
open Go.RowKit Go.Sort
set_option maxRecDepth 8000
/-- Two texts in a row, in block p. -/
def Duo (w : World) (p : Nat) (s t : ByteArray) : Prop := p < w.heap.size ∧ w.cell? ⟨p, 0, none⟩ = some (.string s) ∧ w.cell? ⟨p, 1, none⟩ = some (.string t)
theorem Duo.on {w w' : World} {p : Nat} {s t : ByteArray} (h : Duo w p s t) (hb : Below w.heap.size w w') : Duo w' p s t :=
  ⟨Nat.lt_of_lt_of_le h.1 hb.size, (hb.cell (by exact h.1)).trans h.2.1, (hb.cell (by exact h.1)).trans h.2.2⟩
theorem Duo.other {w : World} {p : Nat} {s t : ByteArray} (h : Duo w p s t) {g : Nat} (hg : p ≠ g) (cs : Array Value) : Duo (w.setRow g cs) p s t := by
  have e : ∀ j, (w.setRow g cs).cell? ⟨p, j, none⟩ = w.cell? ⟨p, j, none⟩ := fun j => by simp only [World.cell?]; rw [heap_setRow w g p cs hg]
  exact ⟨by simpa [World.setRow] using h.1, by rw [e]; exact h.2.1, by rw [e]; exact h.2.2⟩
theorem Duo.at {w : World} {p : Nat} {s t : ByteArray} (h : Duo w p s t) (k : Nat) (hk : k < 2) : ∃ x, w.cell? ⟨p, k, none⟩ = some (.string x) := by
  rcases (show k = 0 ∨ k = 1 by omega) with rfl | rfl
  · exact ⟨_, h.2.1⟩
  · exact ⟨_, h.2.2⟩
/-- The ends, in their variables. -/
def Ends2 (w wr : World) (p q : Nat) : Prop := NumAt wr p true (dig 170141183460469231731687303715884105728) ∧ NumAt wr q false (dig 170141183460469231731687303715884105727) ∧ Below w.heap.size w wr
theorem Ends2.on {w w1 w2 : World} {p q : Nat} (h : Ends2 w w1 p q) (hb : Below w1.heap.size w1 w2) : Ends2 w w2 p q := ⟨h.1.on hb, h.2.1.on hb, h.2.2.trans (hb.mono h.2.2.size)⟩
theorem wide_unnum (x : ByteArray) (o : Option Int) (ho : numW x.data.toList = o) (w : World) (hw : Glob w) :
    Calls Tryd.prog 14 #[.string x, .agg (numC true (dig 170141183460469231731687303715884105728)), .agg (numC false (dig 170141183460469231731687303715884105727))] w fun e w' => (∃ b m, Sz m ∧ e = .returned (.tuple #[.agg (numC b (dig m)), .bool o.isSome]) ∧ Read o (o.getD 0) o.isSome b m) ∧ Below w.heap.size w w' :=
  unnum_read (lo := -170141183460469231731687303715884105728) (hi := 170141183460469231731687303715884105727) (by omega) (by omega) (by omega) (by omega) x o ho rfl rfl w hw
theorem WideAt.row' {w : World} {b : Nat} {x : Int} (h : WideAt w b x) {g : Nat} (hn : b ≠ g) (cs : Array Value) : WideAt (w.setRow g cs) b x := (heap_setRow w g b cs hn).trans h
set_option maxHeartbeats 2000000 in
theorem textWides_any (x : Int) (s : ByteArray) (hx : In x) (w : World) (hw : Env w) :
    Calls Tryd.prog 4 #[wideV x, .string s] w fun e w' => e = .returned (.bool true) ∧ Below w.heap.size w w' := by
  have G := Lib.hid hw
  have K := Lib.hid (fun w hw => known_any w hw)
  have W : Hid (WideAt (w.alloc (wideO x)) w.heap.size x ∧ Below w.heap.size w (w.alloc (wideO x))) := Lib.hid ⟨by unfold WideAt; exact row_new _ _ rfl, below_alloc _ _⟩
  unfold wideO at W
  unfold wideV
  clear hw
  by_cases hlen : 300 < s.size
  · have hl : (300 : Int) < s.size := by omega
    clear hlen
    go_enter Tryd.func4, Tryd.ntmps4
    go_upto_region 1 with fail
    generalize w.alloc (.cells #[.int .i64 (hiOf x), .int .u64 (loOf x)] 42) = w0 at *
    go_wp2_with (go_at_call 7; refine (K.out _ (G.out.below W.out.2)).mono ?_; rintro e w1 ⟨rfl, hb⟩; have B1 := Lib.hid (W.out.2.trans (hb.mono W.out.2.size)); clear hb)
    go_ret
    exact ⟨rfl, B1.out⟩
  · have hl : (s.size : Int) ≤ 300 := by omega
    clear hlen
    have D := Lib.hid (t_decw x hx)
    have F := Lib.hid (r_from x hx)
    have R := Lib.hid (r_text (pair0 x) (absN x) x (by have := absN_wide hx; exact ⟨this.1, Int.lt_of_le_of_lt this.2 (by decide)⟩) (vz_pair x))
    have N := Lib.hid r_ends
    unfold wideV at D
    unfold leastN mostN numV at N
    generalize txt x = tx at *
    clear hx
    go_enter Tryd.func4, Tryd.ntmps4
    go_upto_region 1 with fail
    generalize w.alloc (.cells #[.int .i64 (hiOf x), .int .u64 (loOf x)] 42) = w0 at *
    go_upto_region 3 with (go_at_call 7; refine (K.out _ (G.out.below W.out.2)).mono ?_; rintro e w1 ⟨rfl, hb⟩; have W1 := Lib.hid (show WideAt w1 w.heap.size x ∧ Below w.heap.size w w1 from ⟨W.out.1.on hb, W.out.2.trans (hb.mono W.out.2.size)⟩); clear hb W)
    go_upto_region 5 with fail
    obtain ⟨a0, a1⟩ := W1.out.1.at.q
    have GE := Lib.hid (G.out.below W1.out.2)
    have GG := Lib.hid (show Glob w1 from (G.out.below W1.out.2).1)
    refine wp_region_quiet_below (by kernel_rfl) (by kernel_rfl) ?_
    repeat (go_big_quiet_step (first | (with_reducible exact (D.out.quiet GE.out _ _)) | (with_reducible exact (F.out.quiet GG.out _ _)) | (with_reducible exact (R.out.quiet GG.out _ _))))
    (refine wpQuiet_nil ?_; intro _ hw'; obtain ⟨⟨dq, osq⟩, hw''⟩ := hw'; subst hw'')
    have hb := below_quiet (W := w1) dq osq
    have W2 := Lib.hid (show WideAt (grow (redrawn w1 dq) osq) w.heap.size x ∧ Below w.heap.size w (grow (redrawn w1 dq) osq) from ⟨W1.out.1.on hb, W1.out.2.trans (hb.mono W1.out.2.size)⟩)
    clear hb W1 a0 a1 GE GG F R
    generalize grow (redrawn w1 dq) osq = w2 at *
    go_upto_region 7 with fail
    go_cut [5, 6] from 24 to 28 (fun a b wr => ∃ p q, a = .pointer (some ⟨p, 0, none⟩) ∧ b = .pointer (some ⟨q, 0, none⟩) ∧ Hid (WideAt wr w.heap.size x ∧ Ends2 w wr p q))
    case first =>
      go_wp2_with (first
        | (go_at_call 19; refine (N.out _ (G.out.1.below W2.out.2)).mono ?_; rintro e w3 ⟨rfl, hb⟩; have W3 := Lib.hid (show WideAt w3 w.heap.size x ∧ Below w.heap.size w w3 from ⟨W2.out.1.on hb, W2.out.2.trans (hb.mono W2.out.2.size)⟩); clear hb W2)
        | (refine store_num rfl (.tmp 5) (.tmp 26) rfl w3.heap.size rfl true (dig 170141183460469231731687303715884105728) rfl false (fun _ => 0) ((NumAt.new w3 false (fun _ => 0) rfl).alloc _) ?_)
        | (refine store_num rfl (.tmp 6) (.tmp 27) rfl (w3.heap.size + 1) rfl false (dig 170141183460469231731687303715884105727) rfl false (fun _ => 0) ((NumAt.new _ false (fun _ => 0) (by simp)).wholeOther _ (by omega)) ?_))
      go_meet
      have lt := W3.out.1.at.2.2
      have z := W3.out.2.size
      refine ⟨w3.heap.size, w3.heap.size + 1, rfl, rfl, ?_, ?_, ?_, ?_⟩
      · exact WideAt.row' (WideAt.row' ((W3.out.1.alloc _).alloc _) (by omega) _) (by omega) _
      · exact (((NumAt.new w3 false (fun _ => 0) rfl).alloc _).whole).wholeOther _ (by omega)
      · exact ((NumAt.new _ false (fun _ => 0) (by simp)).wholeOther _ (by omega)).whole
      · exact Below.setRow' (Below.setRow' ((W3.out.2.alloc z _).alloc (by simp; omega) _) (by omega) _) (by omega) _
    case rest =>
    obtain ⟨p, q, rfl, rfl, hW⟩ := hcut
    obtain ⟨w4, rfl⟩ : ∃ v : World, v = wc := ⟨_, rfl⟩
    clear W2 N
    go_upto_region 8 with fail
    go_cut [31, 32, 33] from 28 to 34 (fun v len i wr => ∃ p0, v = .slice (some ⟨p0, 0, none⟩) 2 2 ∧ len = .int .i64 2 ∧ i = .int .i64 0 ∧ Hid (Duo wr p0 s tx ∧ Ends2 w wr p q))
    case first =>
      obtain ⟨b0, b1, _⟩ := hW.out.1.at
      go_wp2_with (go_at_call 17; refine (D.out _ (G.out.below hW.out.2.2.2)).mono ?_; rintro e w5 ⟨rfl, hb⟩; have W5 := Lib.hid (hW.out.2.on hb); clear hb b0 b1)
      go_meet
      refine ⟨w5.heap.size, rfl, rfl, rfl, ⟨by simp, ?_, ?_⟩, W5.out.on (below_alloc _ _)⟩ <;> (rw [World.cell?_alloc_new]; rfl)
    case rest =>
    obtain ⟨p0, rfl, rfl, rfl, hT⟩ := hcut
    obtain ⟨w6, rfl⟩ : ∃ v : World, v = wc := ⟨_, rfl⟩
    clear D hW
    go_wp2
    go_loopw [33] (fun i wr => ∃ k : Nat, k ≤ 2 ∧ i = .int .i64 k ∧ Hid (Duo wr p0 s tx ∧ Ends2 w wr p q)) (fun i _ => 2 - (intOf i).toNat)
    case atStart => exact ⟨0, by omega, rfl, hT⟩
    case round =>
      clear hT
      obtain ⟨k, hk, rfl, H⟩ := hrel
      by_cases hlt : k < 2
      · obtain ⟨x, cx⟩ := H.out.1.at k hlt
        have U := Lib.hid (t_undecw x)
        unfold undW at U
        generalize hN : numW x.data.toList = N at *
        have M := Lib.hid (fun w hw => wide_unnum x N hN w hw)
        have HN := Lib.hid hN
        clear hN
        go_upto_region 11 with fail
        clear cx
        unfold wideV at U
        go_cut [9, 10] from 34 to 42 (fun a ok wr => ∃ r, a = .pointer (some ⟨r, 0, none⟩) ∧ ok = .bool N.isSome ∧ Hid (WideAt wr r (N.getD 0) ∧ Duo wr p0 s tx ∧ Ends2 w wr p q))
        case first =>
          go_wp2_with (go_at_call 20; refine (U.out _ (G.out.below H.out.2.2.2)).mono ?_; rintro e w7 ⟨rfl, hb⟩; have H7 := Lib.hid (show Duo w7 p0 s tx ∧ Ends2 w w7 p q from ⟨H.out.1.on hb, H.out.2.on hb⟩); clear hb H U)
          go_meet
          exact ⟨w7.heap.size, rfl, rfl, by unfold WideAt; exact row_new _ _ rfl, H7.out.1.on (below_alloc _ _), H7.out.2.on (below_alloc _ _)⟩
        case rest =>
        obtain ⟨r, rfl, rfl, hH⟩ := hcut
        obtain ⟨w8, rfl⟩ : ∃ v : World, v = wc := ⟨_, rfl⟩
        clear H U
        go_upto_region 12 with fail
        go_cut [11, 12] from 42 to 49 (fun g is wr => ∃ z b m, g = .pointer (some ⟨z, 0, none⟩) ∧ is = .bool N.isSome ∧ Sz m ∧ Read N (N.getD 0) N.isSome b m ∧ Hid (WideAt wr r (N.getD 0) ∧ NumAt wr z b (dig m) ∧ Duo wr p0 s tx ∧ Ends2 w wr p q))
        case first =>
          go_wp2_with (first
            | (refine load_num rfl (.tmp 5) rfl p rfl _ _ hH.out.2.2.1 ?_)
            | (refine load_num rfl (.tmp 6) rfl q rfl _ _ hH.out.2.2.2.1 ?_)
            | (go_at_call 14; refine (M.out _ (G.out.1.below hH.out.2.2.2.2)).mono ?_; rintro e w9 ⟨⟨b, m, hm, rfl, hr⟩, hb⟩; have H9 := Lib.hid (show WideAt w9 r (N.getD 0) ∧ Duo w9 p0 s tx ∧ Ends2 w w9 p q from ⟨hH.out.1.on hb, hH.out.2.1.on hb, hH.out.2.2.on hb⟩); have hm := Lib.hid hm; have hr := Lib.hid hr; clear hb)
            | (refine store_num rfl (.tmp 11) (.tmp 47) rfl w9.heap.size rfl b (dig m) rfl false (fun _ => 0) (NumAt.new w9 false (fun _ => 0) rfl) ?_))
          go_meet
          have l1 := H9.out.1.at.2.2
          have l2 := H9.out.2.1.1
          have l3 := H9.out.2.2.1.lt
          have l4 := H9.out.2.2.2.1.lt
          exact ⟨w9.heap.size, b, m, rfl, rfl, hm.out, hr.out, WideAt.row' (H9.out.1.alloc _) (by omega) _, (NumAt.new w9 false (fun _ => 0) rfl).whole, (H9.out.2.1.on (below_alloc _ _)).other (by omega) _,
            (H9.out.2.2.1.alloc _).wholeOther _ (by omega), (H9.out.2.2.2.1.alloc _).wholeOther _ (by omega), Below.setRow' (H9.out.2.2.2.2.alloc H9.out.2.2.2.2.size _) H9.out.2.2.2.2.size _⟩
        case rest =>
        obtain ⟨z, b, m, rfl, rfl, hm, hr, H⟩ := hcut
        obtain ⟨w10, rfl⟩ : ∃ v : World, v = wc := ⟨_, rfl⟩
        have hm := Lib.hid hm
        have hr := Lib.hid hr
        clear M hH
        go_upto_region 13 with fail
        go_cut [69] from 49 to 70 (fun v wr => v = .bool false ∧ Hid (Duo wr p0 s tx ∧ Ends2 w wr p q))
        case first =>
          have G9 := Lib.hid (show Glob w10 from (G.out.below H.out.2.2.2.2.2).1)
          cases N with
          | none =>
            have E : ∀ W, (binOp .neq 42 (.agg #[.int .i64 (hiOf 0), .int .u64 (loOf 0)]) (.agg #[.int .i64 0, .int .u64 0])).run Tryd.prog W = .ok (.bool false) W := fun W => neq_wide 0 0 W
            simp only [Option.isSome_none, Option.getD_none] at H ⊢
            obtain ⟨a0, a1⟩ := H.out.1.at.q
            refine wp_region_quiet_below (by kernel_rfl) (by kernel_rfl) ?_
            repeat (go_big_quiet_step (fail))
            (refine wpQuiet_nil ?_; intro _ hw'; obtain ⟨⟨dq, osq⟩, hw''⟩ := hw'; subst hw'')
            have hb := below_quiet (W := w10) dq osq
            go_wp2_with fail
            go_meet
            exact ⟨rfl, H.out.2.2.1.on hb, H.out.2.2.2.on hb⟩
          | some a =>
            have vm : vz b m = a := by
              rcases hr.out with ⟨h, _⟩ | ⟨_, _, h⟩
              · cases h
              · exact h
            have ab : In a := in_iff.2 (num?_some HN.out).2
            have RW := Lib.hid ((r_wide b m a hm.out vm).as rfl (v' := .agg #[.int .i64 (hiOf a), .int .u64 (loOf a)]) (by rw [sat_id ab]))
            have E : ∀ W, (binOp .neq 42 (.agg #[.int .i64 (hiOf a), .int .u64 (loOf a)]) (.agg #[.int .i64 (hiOf a), .int .u64 (loOf a)])).run Tryd.prog W = .ok (.bool false) W := fun W => by
              have := neq_wide a a W
              rw [decide_eq_true rfl] at this
              exact this
            simp only [Option.isSome_some, Option.getD_some] at H ⊢
            obtain ⟨a0, a1⟩ := H.out.1.at.q
            clear ab vm
            refine wp_region_quiet_below (by kernel_rfl) (by kernel_rfl) ?_
            repeat (first
              | ((refine quiet_load_num (.tmp 11) rfl rfl z rfl _ _ H.out.2.1.regrown ?_); (try simp only [Act.put, List.setIfInBounds_toArray, List.set_cons_zero, List.set_cons_succ]))
              | (go_big_quiet_step (exact (RW.out.quiet G9.out _ _))))
            (refine wpQuiet_nil ?_; intro _ hw'; obtain ⟨⟨dq, osq⟩, hw''⟩ := hw'; subst hw'')
            have hb := below_quiet (W := w10) dq osq
            go_wp2_with fail
            go_meet
            exact ⟨rfl, H.out.2.2.1.on hb, H.out.2.2.2.on hb⟩
        case rest =>
        obtain ⟨rfl, hH⟩ := hcut
        obtain ⟨w11, rfl⟩ : ∃ v : World, v = wc := ⟨_, rfl⟩
        clear H hm hr HN
        go_wp2
        go_roundw
        case rel => exact ⟨k + 1, by omega, by go_num, hH⟩
        case measure => simp [intOf]; omega
      · go_wp2
        go_ret
        exact ⟨rfl, H.out.2.2.2⟩
end Go.Proofs.YtednmodeoofbgaaDoor
