/-
  The document's answers for package fix: less, Parts, Offset, Delay.
-/
import Derived.Test.YtpjmngolnobomaaDoorRef2
namespace Go.Proofs.YtpjmngolnobomaaDoor
open Go.RowKit Go.Sort
def numV (b : Bool) (m : Int) : Value := .agg (numC b (dig m))
def numO (b : Bool) (m : Int) : Obj := .cells (numC b (dig m)) 50 (0, 0)
theorem dig_zero : dig 0 = fun _ => 0 := by funext i; unfold dig; simp
def lessVal (x y : Int) (i p : Nat) : Value :=
  match i with
  | 0 => wideV x
  | 1 => numV (pair0 x) (absN x)
  | 2 => wideV y
  | 3 => numV (pair0 y) (absN y)
  | 4 => numV (!pair0 y) (absN y)
  | 5 => numV (addS (pair0 x) (!pair0 y) (absN x) (absN y)) (addM (pair0 x) (!pair0 y) (absN x) (absN y))
  | 6 => wideV (sat (x - y))
  | 8 => .pointer (some ⟨p, 0, none⟩)
  | _ => undef
def lessObj (x y : Int) (i : Nat) : Obj :=
  match i with
  | 7 => wideO (sat (x - y))
  | _ => wideO 0
/-- Two numbers in boxes, and a result's own variable. -/
def Two (w : World) (x y : Int) (w0 : World) : Prop := WideAt w0 w.heap.size x ∧ WideAt w0 (w.heap.size + 1) y ∧ WideAt w0 (w.heap.size + 1 + 1) 0 ∧ Below w.heap.size w w0
theorem two_boxes (w : World) (x y : Int) : Two w x y (((w.alloc (wideO x)).alloc (wideO y)).alloc (wideO 0)) := by
  unfold Two WideAt wideO
  refine ⟨?_, ?_, ?_, by (repeat (first | (with_reducible exact Below.refl _ _) | (with_reducible assumption) | (with_reducible refine Below.drew ?_) | (with_reducible refine below_drewN ?_ _) | ((with_reducible refine Below.alloc ?_ ?_ _); rotate_left; (focus (first | (simp; done) | (simp; omega) | omega))) | ((with_reducible refine Below.setCell ?_ ?_ _); rotate_left; (focus (first | (simp; done) | (simp; omega) | omega))) | ((with_reducible refine Below.trans ?_ (Below.mono (by assumption) ?_)); rotate_left; (focus (first | (simp; done) | (simp; omega) | omega)))))⟩
  · rw [heap_alloc_old _ _ (by first | (simp; done) | (simp; omega) | omega), heap_alloc_old _ _ (by first | (simp; done) | (simp; omega) | omega)]; exact heap_alloc_new _ _
  · rw [heap_alloc_old _ _ (by first | (simp; done) | (simp; omega) | omega)]; exact row_new _ _ (by first | (simp; done) | (simp; omega) | omega)
  · exact row_new _ _ (by first | (simp; done) | (simp; omega) | omega)
set_option maxHeartbeats 4000000 in
theorem r2_less (x y : Int) (hx : In x) (hy : In y) : Gives 43 #[wideV x, wideV y] (wideV (sat (x - y))) := fun w hg => by
  have G := Lib.hid hg
  have F1 := Lib.hid (r_from x hx)
  have F2 := Lib.hid (r_from y hy)
  have N := Lib.hid (r_neg (pair0 y) (dig (absN y)))
  have ax := absN_wide hx
  have ay := absN_wide hy
  have A := Lib.hid (r_add (pair0 x) (!pair0 y) (absN x) (absN y) ⟨ax.1, by omega⟩ ⟨ay.1, by omega⟩)
  have V := add_vz (pair0 x) (!pair0 y) (absN x) (absN y)
  rw [vz_pair, vz_npair] at V
  have X := Lib.hid (r_wide (addS (pair0 x) (!pair0 y) (absN x) (absN y)) (addM (pair0 x) (!pair0 y) (absN x) (absN y)) (x - y) (sum_sz hx hy _ _) (by rw [V]; omega))
  clear hg ax ay V hx hy
  unfold wideV
  go_enter Tryd.func43, Tryd.ntmps43
  go_upto_region 1 with fail
  have W := Lib.hid (two_boxes w x y)
  unfold wideO at W
  rw [show hiOf 0 = 0 from rfl, show loOf 0 = 0 from rfl] at W
  generalize ((w.alloc (.cells #[.int .i64 (hiOf x), .int .u64 (loOf x)] 25)).alloc (.cells #[.int .i64 (hiOf y), .int .u64 (loOf y)] 25)).alloc (.cells #[.int .i64 0, .int .u64 0] 25) = w0 at *
  have Gw : ∀ w1, Below w0.heap.size w0 w1 ∨ True → True := fun _ _ => trivial
  clear Gw
  refine wp_region_turns_into (w.heap.size + 1 + 1) [.gives, .gives, .gives, .gives, .gives, .gives, .gives, .stores 8, .makes (some 7)] (lessVal x y) (lessObj x y) (by kernel_rfl) (by kernel_rfl) (by kernel_rfl) rfl W.out.2.2.1 ?_ ?_
  · refine EachOp.cons (fun D own a w I hn hd => ?_) ?_
    · exact does_load rfl rfl 25 (.tmp 2) rfl _ ((I.was (by kernel_rfl)).trans rfl) 25 _ _ _ (I.blk W.out.1) Tryd.underlying25 rfl infoW rfl
    refine EachOp.cons (fun D own a w I hn hd => ?_) ?_
    · have e5 : a.eval (.tmp 5) = wideV x := I.get (i := 0) rfl (hd 0 (by kernel_rfl)) rfl rfl
      exact does_go rfl rfl rfl rfl Tryd.func30 (by kernel_rfl) (by kernel_rfl) #[wideV x] (by simp [e5]) (F1.out w (G.out.below (W.out.2.2.2.trans (I.below.mono (by first | (simp; done) | (simp; omega) | omega)))))
    refine EachOp.cons (fun D own a w I hn hd => ?_) ?_
    · exact does_load rfl rfl 25 (.tmp 3) rfl _ ((I.was (by kernel_rfl)).trans rfl) 25 _ _ _ (I.blk W.out.2.1) Tryd.underlying25 rfl infoW rfl
    refine EachOp.cons (fun D own a w I hn hd => ?_) ?_
    · have e7 : a.eval (.tmp 7) = wideV y := I.get (i := 2) rfl (hd 2 (by kernel_rfl)) rfl rfl
      exact does_go rfl rfl rfl rfl Tryd.func30 (by kernel_rfl) (by kernel_rfl) #[wideV y] (by simp [e7]) (F2.out w (G.out.below (W.out.2.2.2.trans (I.below.mono (by first | (simp; done) | (simp; omega) | omega)))))
    refine EachOp.cons (fun D own a w I hn hd => ?_) ?_
    · have e8 : a.eval (.tmp 8) = numV (pair0 y) (absN y) := I.get (i := 3) rfl (hd 3 (by kernel_rfl)) rfl rfl
      exact does_go rfl rfl rfl rfl Tryd.func56 (by kernel_rfl) (by kernel_rfl) #[numV (pair0 y) (absN y)] (by simp [e8]) (N.out w (G.out.below (W.out.2.2.2.trans (I.below.mono (by first | (simp; done) | (simp; omega) | omega)))))
    refine EachOp.cons (fun D own a w I hn hd => ?_) ?_
    · have e6 : a.eval (.tmp 6) = numV (pair0 x) (absN x) := I.get (i := 1) rfl (hd 1 (by kernel_rfl)) rfl rfl
      have e9 : a.eval (.tmp 9) = numV (!pair0 y) (absN y) := I.get (i := 4) rfl (hd 4 (by kernel_rfl)) rfl rfl
      exact does_go rfl rfl rfl rfl Tryd.func35 (by kernel_rfl) (by kernel_rfl) #[numV (pair0 x) (absN x), numV (!pair0 y) (absN y)] (by simp [e6, e9]) (A.out w (G.out.below (W.out.2.2.2.trans (I.below.mono (by first | (simp; done) | (simp; omega) | omega)))))
    refine EachOp.cons (fun D own a w I hn hd => ?_) ?_
    · have e10 : a.eval (.tmp 10) = numV (addS (pair0 x) (!pair0 y) (absN x) (absN y)) (addM (pair0 x) (!pair0 y) (absN x) (absN y)) := I.get (i := 5) rfl (hd 5 (by kernel_rfl)) rfl rfl
      exact does_go rfl rfl rfl rfl Tryd.func33 (by kernel_rfl) (by kernel_rfl) #[numV (addS (pair0 x) (!pair0 y) (absN x) (absN y)) (addM (pair0 x) (!pair0 y) (absN x) (absN y))] (by simp [e10]) (X.out w (G.out.below (W.out.2.2.2.trans (I.below.mono (by first | (simp; done) | (simp; omega) | omega)))))
    refine EachOp.cons (fun D own a w I hn hd => ?_) EachOp.nil
    have o8 : D 8 = true ∧ own 8 = _ := I.there 0 _ rfl
    have e4 : a.eval (.tmp 4) = .pointer (some ⟨own 8, 0, none⟩) := by rw [o8.2]; exact (I.was (by kernel_rfl)).trans rfl
    have e11 : a.eval (.tmp 11) = wideV (sat (x - y)) := I.get (i := 6) rfl (hd 6 (by kernel_rfl)) rfl rfl
    exact does_store rfl rfl rfl 25 (.tmp 4) (.tmp 11) rfl _ e4 e11 25 _ (I.fresh o8.1 rfl hn) infoW rfl (by kernel_rfl) rfl
  · intro own w1 H
    have o8 : own 8 = w.heap.size + 1 + 1 := (H.there 0 _ rfl).2
    have R := H.made 8 rfl rfl
    rw [o8] at R
    have R := Lib.hid (show WideAt w1 (w.heap.size + 1 + 1) (sat (x - y)) from R)
    have S := Lib.hid (W.out.2.2.2.trans (H.below.mono (by first | (simp; done) | (simp; omega) | omega)))
    refine (by assumption : ∀ (a : Act) (w : World), Code.wp Tryd.prog _ _ a w → _) _ _ ?_
    simp only [putAll, Act.put, List.setIfInBounds_toArray, List.set_cons_zero, List.set_cons_succ, Nat.zero_add, Nat.reduceAdd, lessVal, wideV]
    obtain ⟨c0, c1, _⟩ := R.out.at
    clear H o8 W
    go_wp2
    exact bodyPost_ret (v := .agg #[.int .i64 (hiOf (sat (x - y))), .int .u64 (loOf (sat (x - y)))]) (by simp [results, Tryd.results43, go_sem, c0, c1]) rfl (And.intro rfl S.out)
def roffVal (x1 x2 x3 x4 : Int) (i p : Nat) : Value :=
  match i with
  | 0 => wideV x2
  | 1 => wideV x1
  | 2 => wideV (sat (x2 - x1))
  | 3 => numV (pair0 (sat (x2 - x1))) (absN (sat (x2 - x1)))
  | 4 => wideV x3
  | 5 => wideV x4
  | 6 => wideV (sat (x3 - x4))
  | 7 => numV (pair0 (sat (x3 - x4))) (absN (sat (x3 - x4)))
  | 8 => numV (addS (pair0 (sat (x2 - x1))) (pair0 (sat (x3 - x4))) (absN (sat (x2 - x1))) (absN (sat (x3 - x4)))) (addM (pair0 (sat (x2 - x1))) (pair0 (sat (x3 - x4))) (absN (sat (x2 - x1))) (absN (sat (x3 - x4))))
  | 9 => wideV (sat (sat (x2 - x1) + sat (x3 - x4)))
  | 10 => .pointer (some ⟨p, 0, none⟩)
  | _ => undef
def roffObj (x1 x2 x3 x4 : Int) (i : Nat) : Obj :=
  match i with
  | 11 => wideO (sat (sat (x2 - x1) + sat (x3 - x4)))
  | _ => wideO 0
set_option maxHeartbeats 4000000 in
theorem r2_offset (x1 x2 x3 x4 : Int) (h1 : In x1) (h2 : In x2) (h3 : In x3) (h4 : In x4) :
    Gives 19 #[wideV x1, wideV x2, wideV x3, wideV x4] (.int .i64 (clip (sat (sat (x2 - x1) + sat (x3 - x4)) / 2))) := fun w hg => by
  have L1 := Lib.hid (r2_less x2 x1 h2 h1)
  have L2 := Lib.hid (r2_less x3 x4 h3 h4)
  have G := Lib.hid hg
  have F1 := Lib.hid (r_from (sat (x2 - x1)) (sat_in _))
  have F2 := Lib.hid (r_from (sat (x3 - x4)) (sat_in _))
  have A := Lib.hid (r_add (pair0 (sat (x2 - x1))) (pair0 (sat (x3 - x4))) (absN (sat (x2 - x1))) (absN (sat (x3 - x4))) ⟨(absN_wide (sat_in _)).1, by have := absN_wide (sat_in (x2 - x1)); omega⟩ ⟨(absN_wide (sat_in _)).1, by have := absN_wide (sat_in (x3 - x4)); omega⟩)
  have V := add_vz (pair0 (sat (x2 - x1))) (pair0 (sat (x3 - x4))) (absN (sat (x2 - x1))) (absN (sat (x3 - x4)))
  rw [vz_pair, vz_pair] at V
  have X := Lib.hid (r_wide _ _ (sat (x2 - x1) + sat (x3 - x4)) (sum_sz (sat_in (x2 - x1)) (sat_in (x3 - x4)) (pair0 (sat (x2 - x1))) (pair0 (sat (x3 - x4)))) V)
  clear hg h1 h2 h3 h4 V
  unfold wideV
  go_enter Tryd.func19, Tryd.ntmps19
  go_upto_region 1 with fail
  have W := Lib.hid (four_boxes w x1 x2 x3 x4)
  unfold wideO at W
  generalize (((w.alloc (.cells #[.int .i64 (hiOf x1), .int .u64 (loOf x1)] 25)).alloc (.cells #[.int .i64 (hiOf x2), .int .u64 (loOf x2)] 25)).alloc (.cells #[.int .i64 (hiOf x3), .int .u64 (loOf x3)] 25)).alloc (.cells #[.int .i64 (hiOf x4), .int .u64 (loOf x4)] 25) = w0 at *
  refine wp_region_turns [.gives, .gives, .gives, .gives, .gives, .gives, .gives, .gives, .gives, .gives, .makes (some 11), .stores 10] (roffVal x1 x2 x3 x4) (roffObj x1 x2 x3 x4) (by kernel_rfl) (by kernel_rfl) rfl ?_ ?_
  · refine EachOp.cons (fun D own a w I hn hd => ?_) ?_
    · exact does_load rfl rfl 25 (.tmp 5) rfl _ ((I.was (by kernel_rfl)).trans rfl) 25 _ _ _ (I.blk W.out.2.1) Tryd.underlying25 rfl infoW rfl
    refine EachOp.cons (fun D own a w I hn hd => ?_) ?_
    · exact does_load rfl rfl 25 (.tmp 4) rfl _ ((I.was (by kernel_rfl)).trans rfl) 25 _ _ _ (I.blk W.out.1) Tryd.underlying25 rfl infoW rfl
    refine EachOp.cons (fun D own a w I hn hd => ?_) ?_
    · have e10 : a.eval (.tmp 10) = wideV x2 := I.get (i := 0) rfl (hd 0 (by kernel_rfl)) rfl rfl
      have e11 : a.eval (.tmp 11) = wideV x1 := I.get (i := 1) rfl (hd 1 (by kernel_rfl)) rfl rfl
      exact does_go rfl rfl rfl rfl Tryd.func43 (by kernel_rfl) (by kernel_rfl) #[wideV x2, wideV x1] (by simp [e10, e11]) (L1.out w (G.out.below (W.out.2.2.2.2.trans (I.below.mono W.out.2.2.2.2.size))))
    refine EachOp.cons (fun D own a w I hn hd => ?_) ?_
    · have e12 : a.eval (.tmp 12) = wideV (sat (x2 - x1)) := I.get (i := 2) rfl (hd 2 (by kernel_rfl)) rfl rfl
      exact does_go rfl rfl rfl rfl Tryd.func30 (by kernel_rfl) (by kernel_rfl) #[wideV (sat (x2 - x1))] (by simp [e12]) (F1.out w (G.out.below (W.out.2.2.2.2.trans (I.below.mono W.out.2.2.2.2.size))))
    refine EachOp.cons (fun D own a w I hn hd => ?_) ?_
    · exact does_load rfl rfl 25 (.tmp 6) rfl _ ((I.was (by kernel_rfl)).trans rfl) 25 _ _ _ (I.blk W.out.2.2.1) Tryd.underlying25 rfl infoW rfl
    refine EachOp.cons (fun D own a w I hn hd => ?_) ?_
    · exact does_load rfl rfl 25 (.tmp 7) rfl _ ((I.was (by kernel_rfl)).trans rfl) 25 _ _ _ (I.blk W.out.2.2.2.1) Tryd.underlying25 rfl infoW rfl
    refine EachOp.cons (fun D own a w I hn hd => ?_) ?_
    · have e14 : a.eval (.tmp 14) = wideV x3 := I.get (i := 4) rfl (hd 4 (by kernel_rfl)) rfl rfl
      have e15 : a.eval (.tmp 15) = wideV x4 := I.get (i := 5) rfl (hd 5 (by kernel_rfl)) rfl rfl
      exact does_go rfl rfl rfl rfl Tryd.func43 (by kernel_rfl) (by kernel_rfl) #[wideV x3, wideV x4] (by simp [e14, e15]) (L2.out w (G.out.below (W.out.2.2.2.2.trans (I.below.mono W.out.2.2.2.2.size))))
    refine EachOp.cons (fun D own a w I hn hd => ?_) ?_
    · have e16 : a.eval (.tmp 16) = wideV (sat (x3 - x4)) := I.get (i := 6) rfl (hd 6 (by kernel_rfl)) rfl rfl
      exact does_go rfl rfl rfl rfl Tryd.func30 (by kernel_rfl) (by kernel_rfl) #[wideV (sat (x3 - x4))] (by simp [e16]) (F2.out w (G.out.below (W.out.2.2.2.2.trans (I.below.mono W.out.2.2.2.2.size))))
    refine EachOp.cons (fun D own a w I hn hd => ?_) ?_
    · have e13 : a.eval (.tmp 13) = numV (pair0 (sat (x2 - x1))) (absN (sat (x2 - x1))) := I.get (i := 3) rfl (hd 3 (by kernel_rfl)) rfl rfl
      have e17 : a.eval (.tmp 17) = numV (pair0 (sat (x3 - x4))) (absN (sat (x3 - x4))) := I.get (i := 7) rfl (hd 7 (by kernel_rfl)) rfl rfl
      exact does_go rfl rfl rfl rfl Tryd.func35 (by kernel_rfl) (by kernel_rfl) #[numV (pair0 (sat (x2 - x1))) (absN (sat (x2 - x1))), numV (pair0 (sat (x3 - x4))) (absN (sat (x3 - x4)))] (by simp [e13, e17]) (A.out w (G.out.below (W.out.2.2.2.2.trans (I.below.mono W.out.2.2.2.2.size))))
    refine EachOp.cons (fun D own a w I hn hd => ?_) ?_
    · have e18 : a.eval (.tmp 18) = numV (addS (pair0 (sat (x2 - x1))) (pair0 (sat (x3 - x4))) (absN (sat (x2 - x1))) (absN (sat (x3 - x4)))) (addM (pair0 (sat (x2 - x1))) (pair0 (sat (x3 - x4))) (absN (sat (x2 - x1))) (absN (sat (x3 - x4)))) := I.get (i := 8) rfl (hd 8 (by kernel_rfl)) rfl rfl
      exact does_go rfl rfl rfl rfl Tryd.func33 (by kernel_rfl) (by kernel_rfl) #[numV (addS (pair0 (sat (x2 - x1))) (pair0 (sat (x3 - x4))) (absN (sat (x2 - x1))) (absN (sat (x3 - x4)))) (addM (pair0 (sat (x2 - x1))) (pair0 (sat (x3 - x4))) (absN (sat (x2 - x1))) (absN (sat (x3 - x4))))] (by simp [e18]) (X.out w (G.out.below (W.out.2.2.2.2.trans (I.below.mono W.out.2.2.2.2.size))))
    refine EachOp.cons (fun D own a w I hn hd => ?_) ?_
    · exact does_alloc rfl rfl (by go_simp; exact ⟨rfl, rfl⟩)
    refine EachOp.cons (fun D own a w I hn hd => ?_) EachOp.nil
    have e9 : a.eval (.tmp 9) = .pointer (some ⟨own 10, 0, none⟩) := I.get (i := 10) rfl (hd 10 (by kernel_rfl)) rfl rfl
    have e19 : a.eval (.tmp 19) = wideV (sat (sat (x2 - x1) + sat (x3 - x4))) := I.get (i := 9) rfl (hd 9 (by kernel_rfl)) rfl rfl
    exact does_store rfl rfl rfl 25 (.tmp 9) (.tmp 19) rfl _ e9 e19 25 _ (I.fresh (hd 10 (by kernel_rfl)) rfl hn) infoW rfl (by kernel_rfl) rfl
  · intro own w1 H
    have R := Lib.hid (show WideAt w1 (own 10) (sat (sat (x2 - x1) + sat (x3 - x4))) from H.made 10 rfl rfl)
    have S := Lib.hid (W.out.2.2.2.2.trans (H.below.mono W.out.2.2.2.2.size))
    refine (by assumption : ∀ (a : Act) (w : World), Code.wp Tryd.prog _ _ a w → _) _ _ ?_
    simp only [putAll, Act.put, List.setIfInBounds_toArray, List.set_cons_zero, List.set_cons_succ, Nat.zero_add, Nat.reduceAdd, roffVal, wideV]
    generalize own 10 = p at *
    obtain ⟨a0, a1, lp⟩ := R.out.at
    have is := sat_in (sat (x2 - x1) + sat (x3 - x4))
    generalize hs : sat (sat (x2 - x1) + sat (x3 - x4)) = s at *
    have E := Lib.hid hs
    clear hs
    have s3 := fl_bd is (show (0 : Int) < 2 by omega)
    have F3 := Lib.hid (r_from s is)
    have O3 := Lib.hid ((r_of 2 (by omega)).as rfl (v' := .agg (numC false (dig 2))) rfl)
    have FL := Lib.hid (r_floor s 2 is ⟨by omega, by omega⟩)
    have X3 := Lib.hid ((r_wide (pair0 s) (fl s 2) (s / 2) ⟨s3.1, by omega⟩ s3.2.2).as rfl (v' := .agg #[.int .i64 (hiOf (s / 2)), .int .u64 (loOf (s / 2))]) (by rw [sat_id (half_in is)]))
    have C3 := Lib.hid (r2_clip (s / 2) (half_in is))
    clear H lp W R is s3 L1 L2 F1 F2 A X
    go_wp2_with fail
    refine (F3.out _ (G.out.below S.out)).mono ?_
    rintro e w2 ⟨rfl, hb⟩
    have S2 := Lib.hid (S.out.trans (hb.mono S.out.size))
    clear hb S
    go_wp2_with fail
    refine (O3.out _ (G.out.below S2.out)).mono ?_
    rintro e w3 ⟨rfl, hb⟩
    have S3 := Lib.hid (S2.out.trans (hb.mono S2.out.size))
    clear hb S2
    go_wp2_with fail
    refine (FL.out _ (G.out.below S3.out)).mono ?_
    rintro e w4 ⟨rfl, hb⟩
    have S4 := Lib.hid (S3.out.trans (hb.mono S3.out.size))
    clear hb S3
    go_wp2_with fail
    refine (X3.out _ (G.out.below S4.out)).mono ?_
    rintro e w5 ⟨rfl, hb⟩
    have S5 := Lib.hid (S4.out.trans (hb.mono S4.out.size))
    clear hb S4
    go_wp2_with fail
    refine (C3.out _ (G.out.below S5.out)).mono ?_
    rintro e w6 ⟨rfl, hb⟩
    have S6 := Lib.hid (S5.out.trans (hb.mono S5.out.size))
    clear hb S5
    go_wp2
    go_ret
    exact ⟨by rw [E.out]; rfl, S6.out⟩
set_option maxHeartbeats 4000000 in
theorem r2_delay (x1 x2 x3 x4 : Int) (h1 : In x1) (h2 : In x2) (h3 : In x3) (h4 : In x4) :
    Gives 21 #[wideV x1, wideV x2, wideV x3, wideV x4] (.int .i64 (clip (sat (sat (x4 - x1) - sat (x3 - x2))))) := fun w hg => by
  have L1 := Lib.hid (r2_less x4 x1 h4 h1)
  have L2 := Lib.hid (r2_less x3 x2 h3 h2)
  have L3 := Lib.hid (r2_less (sat (x4 - x1)) (sat (x3 - x2)) (sat_in _) (sat_in _))
  have C := Lib.hid (r2_clip (sat (sat (x4 - x1) - sat (x3 - x2))) (sat_in _))
  have G := Lib.hid hg
  unfold wideV at *
  clear hg h1 h2 h3 h4
  go_enter Tryd.func21, Tryd.ntmps21
  go_upto_region 1 with fail
  have W := Lib.hid (four_boxes w x1 x2 x3 x4)
  unfold wideO at W
  generalize (((w.alloc (.cells #[.int .i64 (hiOf x1), .int .u64 (loOf x1)] 25)).alloc (.cells #[.int .i64 (hiOf x2), .int .u64 (loOf x2)] 25)).alloc (.cells #[.int .i64 (hiOf x3), .int .u64 (loOf x3)] 25)).alloc (.cells #[.int .i64 (hiOf x4), .int .u64 (loOf x4)] 25) = w0 at *
  obtain ⟨a0, a1⟩ := W.out.1.at.q
  obtain ⟨b0, b1⟩ := W.out.2.1.at.q
  obtain ⟨c0, c1⟩ := W.out.2.2.1.at.q
  obtain ⟨d0, d1⟩ := W.out.2.2.2.1.at.q
  have S := Lib.hid W.out.2.2.2.2
  have G1 := Lib.hid (G.out.below S.out)
  clear W G
  refine wp_region_quiet_below (by kernel_rfl) (by kernel_rfl) ?_
  repeat (go_big_quiet_step (first | (with_reducible exact (L1.out.quiet G1.out _ _)) | (with_reducible exact (L2.out.quiet G1.out _ _)) | (with_reducible exact (L3.out.quiet G1.out _ _)) | (with_reducible exact (C.out.quiet G1.out _ _))))
  (refine wpQuiet_nil ?_; intro _ hw'; obtain ⟨⟨dq, osq⟩, hw''⟩ := hw'; subst hw'')
  go_wp2
  go_ret
  exact ⟨rfl, S.out.trans ((below_quiet dq osq).mono S.out.size)⟩
end Go.Proofs.YtpjmngolnobomaaDoor
