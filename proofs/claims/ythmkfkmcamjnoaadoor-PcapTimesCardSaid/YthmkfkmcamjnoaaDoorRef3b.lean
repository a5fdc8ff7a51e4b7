/-
  The document's answers for package era: Unix.
  The document's answers for package era: Back.
-/
import Derived.Test.YthmkfkmcamjnoaaDoorNear
import Derived.Test.YthmkfkmcamjnoaaDoorRefP
namespace Go.Proofs.YthmkfkmcamjnoaaDoor
open Go.RowKit Go.Sort
set_option maxRecDepth 8000
def ux3Val (s f : Int) (i _p : Nat) : Value :=
  match i with
  | 0 => numV false (s + 2208988800)
  | 1 => numV false 4294967296
  | 2 => numV false ((s + 2208988800) * 4294967296)
  | 3 => .int .u32 f
  | 4 => .int .u64 f
  | 5 => numV false f
  | 6 => numV false ((s + 2208988800) * 4294967296 + f)
  | 7 => wideV (unixI s f)
  | _ => undef
def unixObj3 (s f : Int) (i : Nat) : Obj :=
  match i with
  | 8 => wideO (unixI s f)
  | _ => wideO 0
set_option maxHeartbeats 2000000 in
theorem r3_unix (s f : Int) (hs : 0 ≤ s ∧ s ≤ 18446744073709551615) (hf : 0 ≤ f ∧ f ≤ 4294967295) : Gives 38 #[.int .u64 s, .int .u32 f] (wideV (unixI s f)) := fun w hg => by
  have G := Lib.hid hg
  have N1 := Lib.hid (r_num s hs.1 hs.2)
  have N2 := Lib.hid (r_num 2208988800 (by omega) (by omega))
  have A1 := Lib.hid ((r_add false false s 2208988800 ⟨hs.1, by omega⟩ ⟨by omega, by omega⟩).as rfl (v' := numV false (s + 2208988800)) rfl)
  have N3 := Lib.hid ((r_num 4294967296 (by omega) (by omega)).as rfl (v' := numV false 4294967296) rfl)
  have M := Lib.hid ((r_mul false false (s + 2208988800) 4294967296 ⟨by omega, by omega⟩ ⟨by omega, by omega⟩ (by omega)).as rfl (v' := numV false ((s + 2208988800) * 4294967296)) rfl)
  have N4 := Lib.hid ((r_num f hf.1 (by omega)).as rfl (v' := numV false f) rfl)
  have A2 := Lib.hid ((r_add false false ((s + 2208988800) * 4294967296) f ⟨by omega, by omega⟩ ⟨hf.1, by omega⟩).as rfl (v' := numV false ((s + 2208988800) * 4294967296 + f)) rfl)
  have X := Lib.hid ((r_wide false ((s + 2208988800) * 4294967296 + f) (unixI s f) ⟨by omega, by omega⟩ (by unfold vz unixI; simp; omega)).as rfl (v' := wideV (unixI s f)) (by rw [sat_id (unix_in hs hf)]; rfl))
  have cv : IntKind.u64.wrap f = f := by rw [IntKind.wrap_u64]; omega
  clear hg hs hf
  unfold numV at A1
  have W : Hid (WideAt (w.alloc (wideO 0)) w.heap.size 0 ∧ Below w.heap.size w (w.alloc (wideO 0))) := Lib.hid ⟨row_new _ _ rfl, below_alloc _ _⟩
  rw [show wideO 0 = .cells #[.int .i64 0, .int .u64 0] 52 from rfl] at W
  unfold wideV
  go_enter Tryd.func38, Tryd.ntmps38
  go_upto_region 1 with fail
  generalize w.alloc (.cells #[.int .i64 0, .int .u64 0] 52) = w0 at *
  go_cut [5] from 6 to 9 (fun v wr => ∃ p, v = .pointer (some ⟨p, 0, none⟩) ∧ NumAt wr p false (dig (s + 2208988800)) ∧ (w.heap.size < p ∧ WideAt wr w.heap.size 0) ∧ Below w.heap.size w wr)
  case first =>
    go_wp2_with fail
    refine (N1.out _ (G.out.below W.out.2)).mono ?_
    rintro e w1 ⟨rfl, hb⟩
    have W1 := Lib.hid (show WideAt w1 w.heap.size 0 ∧ Below w.heap.size w w1 from ⟨W.out.1.on hb, W.out.2.trans (hb.mono W.out.2.size)⟩)
    clear hb W
    go_wp2_with fail
    refine (N2.out _ (G.out.below W1.out.2)).mono ?_
    rintro e w2 ⟨rfl, hb⟩
    have W2 := Lib.hid (show WideAt w2 w.heap.size 0 ∧ Below w.heap.size w w2 from ⟨W1.out.1.on hb, W1.out.2.trans (hb.mono W1.out.2.size)⟩)
    clear hb W1
    go_wp2_with fail
    refine (A1.out _ (G.out.below W2.out.2)).mono ?_
    rintro e w3 ⟨rfl, hb⟩
    have W3 := Lib.hid (show WideAt w3 w.heap.size 0 ∧ Below w.heap.size w w3 from ⟨W2.out.1.on hb, W2.out.2.trans (hb.mono W2.out.2.size)⟩)
    clear hb W2
    go_wp2_with (refine store_num rfl (.tmp 5) (.tmp 9) rfl w3.heap.size rfl _ _ rfl false (fun _ => 0) (NumAt.new w3 false (fun _ => 0) rfl) ?_)
    go_meet
    have lt := W3.out.1.at.2.2
    exact ⟨w3.heap.size, rfl, (NumAt.new w3 false (fun _ => 0) rfl).whole, ⟨lt, (W3.out.1.alloc _).row (by omega) _⟩, Below.setRow' (W3.out.2.trans ((below_alloc _ _).mono W3.out.2.size)) W3.out.2.size _⟩
  case rest =>
  obtain ⟨p, rfl, B⟩ := hcut
  have B := Lib.hid B
  clear W N1 N2 A1
  go_upto_region 2 with fail
  refine wp_region_turns_into w.heap.size [.gives, .gives, .gives, .gives, .gives, .gives, .gives, .gives, .stores 9, .makes (some 8)] (ux3Val s f) (unixObj3 s f) (by kernel_rfl) (by kernel_rfl) (by kernel_rfl) rfl B.out.2.1.2 ?_ ?_
  · refine EachOp.cons (fun D own a w' I hn hd => ?_) ?_
    · exact does_load rfl rfl 91 (.tmp 5) rfl _ ((I.was (by kernel_rfl)).trans rfl) 91 _ _ _ (I.blk B.out.1 (by have := B.out.2.1.1; simp; omega)) Tryd.underlying91 rfl (infoN _ _) rfl
    refine EachOp.cons (fun D own a w' I hn hd => ?_) ?_
    · exact does_go rfl rfl rfl rfl Tryd.func52 (by kernel_rfl) (by kernel_rfl) #[.int .u64 4294967296] (by simp <;> rfl) (N3.out w' (G.out.below (B.out.2.2.trans (I.below.mono (by first | (simp; done) | (simp; omega) | omega)))))
    refine EachOp.cons (fun D own a w' I hn hd => ?_) ?_
    · have e10 : a.eval (.tmp 10) = numV false (s + 2208988800) := I.get (i := 0) rfl (hd 0 (by kernel_rfl)) rfl rfl
      have e11 : a.eval (.tmp 11) = numV false 4294967296 := I.get (i := 1) rfl (hd 1 (by kernel_rfl)) rfl rfl
      exact does_go rfl rfl rfl rfl Tryd.func56 (by kernel_rfl) (by kernel_rfl) #[numV false (s + 2208988800), numV false 4294967296] (by simp [e10, e11] <;> rfl) (M.out w' (G.out.below (B.out.2.2.trans (I.below.mono (by first | (simp; done) | (simp; omega) | omega)))))
    refine EachOp.cons (fun D own a w' I hn hd => ?_) ?_
    · have e1 : a.eval (.tmp 1) = .int .u32 f := (I.was (by kernel_rfl)).trans rfl
      have e1p : a.tmps[1]?.getD undef = .int .u32 f := by simpa [Act.eval] using e1
      exact does_value rfl rfl (by go_simp; rfl)
    refine EachOp.cons (fun D own a w' I hn hd => ?_) ?_
    · have e13 : a.eval (.tmp 13) = .int .u32 f := I.get (i := 3) rfl (hd 3 (by kernel_rfl)) rfl rfl
      have e13p : a.tmps[13]?.getD undef = .int .u32 f := by simpa [Act.eval] using e13
      exact does_value rfl rfl (by go_simp; rfl)
    refine EachOp.cons (fun D own a w' I hn hd => ?_) ?_
    · have e14 : a.eval (.tmp 14) = .int .u64 f := I.get (i := 4) rfl (hd 4 (by kernel_rfl)) rfl rfl
      exact does_go rfl rfl rfl rfl Tryd.func52 (by kernel_rfl) (by kernel_rfl) #[.int .u64 f] (by simp [e14] <;> rfl) (N4.out w' (G.out.below (B.out.2.2.trans (I.below.mono (by first | (simp; done) | (simp; omega) | omega)))))
    refine EachOp.cons (fun D own a w' I hn hd => ?_) ?_
    · have e12 : a.eval (.tmp 12) = numV false ((s + 2208988800) * 4294967296) := I.get (i := 2) rfl (hd 2 (by kernel_rfl)) rfl rfl
      have e15 : a.eval (.tmp 15) = numV false f := I.get (i := 5) rfl (hd 5 (by kernel_rfl)) rfl rfl
      exact does_go rfl rfl rfl rfl Tryd.func48 (by kernel_rfl) (by kernel_rfl) #[numV false ((s + 2208988800) * 4294967296), numV false f] (by simp [e12, e15] <;> rfl) (A2.out w' (G.out.below (B.out.2.2.trans (I.below.mono (by first | (simp; done) | (simp; omega) | omega)))))
    refine EachOp.cons (fun D own a w' I hn hd => ?_) ?_
    · have e16 : a.eval (.tmp 16) = numV false ((s + 2208988800) * 4294967296 + f) := I.get (i := 6) rfl (hd 6 (by kernel_rfl)) rfl rfl
      exact does_go rfl rfl rfl rfl Tryd.func54 (by kernel_rfl) (by kernel_rfl) #[numV false ((s + 2208988800) * 4294967296 + f)] (by simp [e16] <;> rfl) (X.out w' (G.out.below (B.out.2.2.trans (I.below.mono (by first | (simp; done) | (simp; omega) | omega)))))
    refine EachOp.cons (fun D own a w' I hn hd => ?_) EachOp.nil
    · have o9 : D 9 = true ∧ own 9 = _ := I.there 0 _ rfl
      have e4 : a.eval (.tmp 4) = .pointer (some ⟨own 9, 0, none⟩) := by rw [o9.2]; exact (I.was (by kernel_rfl)).trans rfl
      have e17 : a.eval (.tmp 17) = wideV (unixI s f) := I.get (i := 7) rfl (hd 7 (by kernel_rfl)) rfl rfl
      exact does_store rfl rfl rfl 52 (.tmp 4) (.tmp 17) rfl _ e4 e17 52 _ (I.fresh o9.1 rfl hn) infoW rfl (by kernel_rfl) rfl
  · intro own w3 H
    have o9 : own 9 = w.heap.size := (H.there 0 _ rfl).2
    have R := H.made 9 rfl rfl
    rw [o9] at R
    have R := Lib.hid (show WideAt w3 w.heap.size (unixI s f) from R)
    have S2 := Lib.hid (B.out.2.2.trans (H.below.mono (by first | (simp; done) | (simp; omega) | omega)))
    refine (by assumption : ∀ (a : Act) (w : World), Code.wp Tryd.prog _ _ a w → _) _ _ ?_
    simp only [putAll, Act.put, List.setIfInBounds_toArray, List.set_cons_zero, List.set_cons_succ, Nat.zero_add, Nat.reduceAdd, ux3Val, wideV, numV]
    obtain ⟨r0, r1, _⟩ := R.out.at
    clear H o9 B
    go_wp2
    exact bodyPost_ret (v := .agg #[.int .i64 (hiOf (unixI s f)), .int .u64 (loOf (unixI s f))]) (by simp [results, Tryd.results38, go_sem, r0, r1]) rfl (And.intro rfl S2.out)
end Go.Proofs.YthmkfkmcamjnoaaDoor
namespace Go.Proofs.YthmkfkmcamjnoaaDoor
open Go.RowKit Go.Sort
set_option maxRecDepth 8000
def bk3Val (d m : Int) (i p : Nat) : Value :=
  match i with
  | 0 => numV (pair0 d) (absN d)
  | 1 => numV false 4294967296
  | 2 => numV (pair0 d) m
  | 3 => .pointer (some ⟨p, 0, none⟩)
  | _ => undef
def bk3Obj (d m : Int) (i : Nat) : Obj :=
  match i with
  | 4 => numO (pair0 d) m
  | _ => numO false 0
/-- What Back answers, told of the quotient's size. -/
theorem back_none_big {x : Int} (hx : In x) (h : 18446744073709551616 ≤ fl (x - 9487534653230284800) 4294967296) : backS x = 0 ∧ backF x = 0 ∧ backOk x = false := by
  have e : ¬ hiOf (backD x / 4294967296) = 0 := by
    unfold fl at h
    unfold backD sat minW maxW hiOf
    unfold In at hx
    (repeat' split) <;> (try split at h) <;> omega
  unfold backS backF backOk
  simp [e]
theorem back_none_neg {x : Int} (hx : In x) (h : x - 9487534653230284800 < 0) : backS x = 0 ∧ backF x = 0 ∧ backOk x = false := by
  have e : ¬ hiOf (backD x / 4294967296) = 0 := by
    unfold backD sat minW maxW hiOf
    unfold In at hx
    (repeat' split) <;> omega
  unfold backS backF backOk
  simp [e]
theorem back_some {x : Int} (hx : In x) (h0 : 0 ≤ x - 9487534653230284800) (h : (x - 9487534653230284800) / 4294967296 < 18446744073709551616) : backS x = (x - 9487534653230284800) / 4294967296 ∧ backF x = loOf x % 4294967296 ∧ backOk x = true := by
  have d : backD x = x - 9487534653230284800 := by unfold backD; rw [sat_id (by unfold In at *; omega)]
  have e : hiOf (backD x / 4294967296) = 0 := by rw [d]; unfold hiOf; omega
  unfold backS backF backOk
  rw [if_pos e, if_pos e, d]
  exact ⟨by unfold loOf; omega, by unfold loOf; omega, by rw [← d]; simpa using e⟩
set_option maxHeartbeats 4000000 in
theorem r3_back (x : Int) (hx : In x) : Gives 34 #[wideV x] (.tuple #[.int .u64 (backS x), .int .u32 (backF x), .bool (backOk x)]) := fun w hg => by
  have G := Lib.hid hg
  have HX := Lib.hid hx
  have ax := absN_wide hx
  have big : Big (x - 9487534653230284800) := by unfold Big; unfold In at hx; omega
  have fb := fl_big big (show (0 : Int) < 4294967296 by omega)
  have F1 := Lib.hid (r_from x hx)
  have U := Lib.hid ((r3_unix 0 0 (by omega) (by omega)).as rfl (v' := wideV 9487534653230284800) rfl)
  have F2 := Lib.hid ((r_from 9487534653230284800 (by unfold In; omega)).as (args' := #[wideV 9487534653230284800]) rfl (v' := .agg (numC false (dig 9487534653230284800))) rfl)
  have NG := Lib.hid ((r_neg false (dig 9487534653230284800)).as rfl (v' := .agg (numC true (dig 9487534653230284800))) rfl)
  have A := Lib.hid ((r_add (pair0 x) true (absN x) 9487534653230284800 ⟨ax.1, by omega⟩ ⟨by omega, by omega⟩).as rfl (v' := .agg (numC (pair0 (x - 9487534653230284800)) (dig (absN (x - 9487534653230284800))))) (by rw [(sub_sign (by omega)).1, (sub_sign (by omega)).2]))
  have N3 := Lib.hid ((r_num 4294967296 (by omega) (by omega)).as rfl (v' := numV false 4294967296) rfl)
  have FL := Lib.hid (r_floor_big (x - 9487534653230284800) 4294967296 big ⟨by omega, by omega⟩)
  have NB := Lib.hid (fun h => back_none_big (x := x) hx h)
  have NN := Lib.hid (fun h => back_none_neg (x := x) hx h)
  have NS := Lib.hid (fun h0 h => back_some (x := x) hx h0 h)
  have Z := Lib.hid (r_zero (pair0 (x - 9487534653230284800)) (fl (x - 9487534653230284800) 4294967296) ⟨fb.1, by omega⟩)
  have nz : x - 9487534653230284800 < 0 → ¬ fl (x - 9487534653230284800) 4294967296 = 0 := fun h => by unfold fl; rw [if_pos h]; omega
  have pz : ¬ x - 9487534653230284800 < 0 → fl (x - 9487534653230284800) 4294967296 = (x - 9487534653230284800) / 4294967296 := fun h => by unfold fl; rw [if_neg h]
  have nz' := Lib.hid nz
  have pz' := Lib.hid pz
  clear nz pz
  have sz := Lib.hid (show Sz (fl (x - 9487534653230284800) 4294967296) from ⟨fb.1, by omega⟩)
  have X := Lib.hid (fun h : fl (x - 9487534653230284800) 4294967296 < 18446744073709551616 => fun h0 : pair0 (x - 9487534653230284800) = false => (r_wide (pair0 (x - 9487534653230284800)) (fl (x - 9487534653230284800) 4294967296) (fl (x - 9487534653230284800) 4294967296) ⟨fb.1, by omega⟩ (by rw [h0]; rfl)).as rfl (v' := .agg #[.int .i64 0, .int .u64 (fl (x - 9487534653230284800) 4294967296)]) (by
    rw [sat_id (by unfold In; omega), show hiOf (fl (x - 9487534653230284800) 4294967296) = 0 by unfold hiOf; omega, show loOf (fl (x - 9487534653230284800) 4294967296) = fl (x - 9487534653230284800) 4294967296 by unfold loOf; omega]))
  have W : Hid (WideAt (w.alloc (wideO x)) w.heap.size x ∧ Below w.heap.size w (w.alloc (wideO x))) := Lib.hid ⟨row_new _ _ rfl, below_alloc _ _⟩
  have lx := Lib.hid (lo_bd x)
  have lr : IntKind.u32.wrap (loOf x % 4294967296) = loOf x % 4294967296 := by rw [IntKind.wrap_u32]; omega
  have lt : (loOf x).tmod 4294967296 = loOf x % 4294967296 := Int.tmod_eq_emod_of_nonneg (lo_bd x).1
  clear hg ax fb big hx
  generalize fl (x - 9487534653230284800) 4294967296 = m at *
  have dn : Hid ((x - 9487534653230284800 < 0 ∧ pair0 (x - 9487534653230284800) = true) ∨ (¬ x - 9487534653230284800 < 0 ∧ pair0 (x - 9487534653230284800) = false)) := Lib.hid (by unfold pair0; by_cases h : x - 9487534653230284800 < 0 <;> simp [h])
  generalize x - 9487534653230284800 = d at *
  generalize backS x = bs at *
  generalize backF x = bf at *
  generalize backOk x = bo at *
  unfold wideO at W
  unfold wideV at U F2
  unfold wideV
  go_enter Tryd.func34, Tryd.ntmps34
  go_upto_region 1 with fail
  generalize w.alloc (.cells #[.int .i64 (hiOf x), .int .u64 (loOf x)] 52) = w0 at *
  go_cut [5] from 8 to 13 (fun v wr => ∃ p, v = .pointer (some ⟨p, 0, none⟩) ∧ NumAt wr p (pair0 d) (dig (absN d)) ∧ WideAt wr w.heap.size x ∧ Below w.heap.size w wr)
  case first =>
    obtain ⟨a0, a1, _⟩ := W.out.1.at
    go_wp2_with fail
    refine (F1.out _ (G.out.below W.out.2)).mono ?_
    rintro e w1 ⟨rfl, hb⟩
    have W1 := Lib.hid (show WideAt w1 w.heap.size x ∧ Below w.heap.size w w1 from ⟨W.out.1.on hb, W.out.2.trans (hb.mono W.out.2.size)⟩)
    clear hb W
    go_wp2_with fail
    refine (U.out _ (G.out.below W1.out.2)).mono ?_
    rintro e w1 ⟨rfl, hb⟩
    have W2 := Lib.hid (show WideAt w1 w.heap.size x ∧ Below w.heap.size w w1 from ⟨W1.out.1.on hb, W1.out.2.trans (hb.mono W1.out.2.size)⟩)
    clear hb W1
    go_wp2_with fail
    refine (F2.out _ (G.out.below W2.out.2)).mono ?_
    rintro e w1 ⟨rfl, hb⟩
    have W3 := Lib.hid (show WideAt w1 w.heap.size x ∧ Below w.heap.size w w1 from ⟨W2.out.1.on hb, W2.out.2.trans (hb.mono W2.out.2.size)⟩)
    clear hb W2
    go_wp2_with fail
    refine (NG.out _ (G.out.below W3.out.2)).mono ?_
    rintro e w1 ⟨rfl, hb⟩
    have W4 := Lib.hid (show WideAt w1 w.heap.size x ∧ Below w.heap.size w w1 from ⟨W3.out.1.on hb, W3.out.2.trans (hb.mono W3.out.2.size)⟩)
    clear hb W3
    go_wp2_with fail
    refine (A.out _ (G.out.below W4.out.2)).mono ?_
    rintro e w1 ⟨rfl, hb⟩
    have W5 := Lib.hid (show WideAt w1 w.heap.size x ∧ Below w.heap.size w w1 from ⟨W4.out.1.on hb, W4.out.2.trans (hb.mono W4.out.2.size)⟩)
    clear hb W4
    go_wp2_with (refine store_num rfl (.tmp 5) (.tmp 13) rfl w1.heap.size rfl _ _ rfl false (fun _ => 0) (NumAt.new w1 false (fun _ => 0) rfl) ?_)
    go_meet
    have lt := W5.out.1.at.2.2
    exact ⟨w1.heap.size, rfl, (NumAt.new w1 false (fun _ => 0) rfl).whole, (W5.out.1.alloc _).row (by omega) _, Below.setRow' (W5.out.2.trans ((below_alloc _ _).mono W5.out.2.size)) W5.out.2.size _⟩
  case rest =>
  obtain ⟨p, rfl, B⟩ := hcut
  have B := Lib.hid (show NumAt wc p (pair0 d) (dig (absN d)) ∧ WideAt wc w.heap.size x ∧ Below w.heap.size w wc from B)
  clear W F1 U F2 NG A
  go_upto_region 2 with fail
  refine wp_region_turns [.gives, .gives, .gives, .makes (some 4), .stores 3] (bk3Val d m) (bk3Obj d m) (by kernel_rfl) (by kernel_rfl) rfl ?_ ?_
  · refine EachOp.cons (fun D own a w' I hn hd => ?_) ?_
    · exact does_load rfl rfl 91 (.tmp 5) rfl _ ((I.was (by kernel_rfl)).trans rfl) 91 _ _ _ (I.blk B.out.1) Tryd.underlying91 rfl (infoN _ _) rfl
    refine EachOp.cons (fun D own a w' I hn hd => ?_) ?_
    · exact does_go rfl rfl rfl rfl Tryd.func52 (by kernel_rfl) (by kernel_rfl) #[.int .u64 4294967296] (by simp <;> rfl) (N3.out w' (G.out.below (B.out.2.2.trans (I.below.mono B.out.2.2.size))))
    refine EachOp.cons (fun D own a w' I hn hd => ?_) ?_
    · have e14 : a.eval (.tmp 14) = numV (pair0 d) (absN d) := I.get (i := 0) rfl (hd 0 (by kernel_rfl)) rfl rfl
      have e15 : a.eval (.tmp 15) = numV false 4294967296 := I.get (i := 1) rfl (hd 1 (by kernel_rfl)) rfl rfl
      exact does_go rfl rfl rfl rfl Tryd.func51 (by kernel_rfl) (by kernel_rfl) #[numV (pair0 d) (absN d), numV false 4294967296] (by simp [e14, e15] <;> rfl) (FL.out w' (G.out.below (B.out.2.2.trans (I.below.mono B.out.2.2.size))))
    refine EachOp.cons (fun D own a w' I hn hd => ?_) ?_
    · exact does_alloc rfl rfl (by go_simp; exact ⟨rfl, rfl⟩)
    refine EachOp.cons (fun D own a w' I hn hd => ?_) EachOp.nil
    · have e6 : a.eval (.tmp 6) = .pointer (some ⟨own 3, 0, none⟩) := I.get (i := 3) rfl (hd 3 (by kernel_rfl)) rfl rfl
      have e16 : a.eval (.tmp 16) = numV (pair0 d) m := I.get (i := 2) rfl (hd 2 (by kernel_rfl)) rfl rfl
      exact does_store rfl rfl rfl 91 (.tmp 6) (.tmp 16) rfl _ e6 e16 91 _ (I.fresh (hd 3 (by kernel_rfl)) rfl hn) (infoN _ _) (by rw [numC_size, numC_size]) (numC_ok _ _) rfl
  intro own w3 H
  have B3 := Lib.hid (show NumAt w3 (own 3) (pair0 d) (dig m) ∧ WideAt w3 w.heap.size x ∧ Below w.heap.size w w3 from ⟨H.made 3 rfl rfl, (H.keep _ (B.out.2.1.at.2.2) (by simp)).trans B.out.2.1, B.out.2.2.trans (H.below.mono B.out.2.2.size)⟩)
  refine (by assumption : ∀ (a : Act) (w : World), Code.wp Tryd.prog _ _ a w → _) _ _ ?_
  simp only [putAll, Act.put, List.setIfInBounds_toArray, List.set_cons_zero, List.set_cons_succ, Nat.zero_add, Nat.reduceAdd, bk3Val, numV]
  generalize own 3 = g at *
  clear H B N3 FL
  go_wp2_with fail
  have c0 := B3.out.1.cell0
  go_loop [7] (fun i => ∃ k : Nat, 4 ≤ k ∧ k ≤ 20 ∧ i = .int .i64 k ∧ Hid (∀ j, 4 ≤ j → j < k → dig m j = 0)) (fun i => 20 - (intOf i).toNat)
  case atStart => exact ⟨4, by omega, by omega, rfl, Lib.hid (fun j h h2 => by omega)⟩
  case round =>
    obtain ⟨k, h4, hk, rfl, hz⟩ := hrel
    by_cases hlt : k < 20
    · have c := B3.out.1.cell hlt
      have pd := dig_bd m k
      by_cases hp : dig m k = 0
      · have kp : decide (0 < dig m k) = false := by simp; omega
        have Hp := Lib.hid hp
        clear hp
        go_wp2
        go_round
        case rel => exact ⟨k + 1, by omega, by omega, by go_num, Lib.hid (fun j h hj => if e : j = k then e ▸ Hp.out else hz.out j h (by omega))⟩
        case measure => simp [intOf]; omega
      · have kp : decide (0 < dig m k) = true := by simp; omega
        have Hp := Lib.hid (NB.out (dig_big sz.out.1 h4 (by omega)))
        clear hp
        go_wp2
        exact bodyPost_ret (v := .tuple #[.int .u64 0, .int .u32 0, .bool false]) (by simp [results, Tryd.results34, go_sem]) rfl ⟨by rw [Hp.out.1, Hp.out.2.1, Hp.out.2.2], B3.out.2.2⟩
    · have Hm := Lib.hid (dig_small sz.out (k := 4) (by omega) (fun j h1 h2 => hz.out j h1 (by omega)))
      obtain rfl : k = 20 := by omega
      clear hz hlt h4 hk
      rcases dn.out with ⟨hd, pd⟩ | ⟨hd, pd⟩
      · have Hp := Lib.hid (NN.out hd)
        have e0 : decide (m = 0) = false := by simpa using nz'.out hd
        rw [e0] at Z
        rw [pd] at c0 B3 Z X
        clear e0 pd hd
        go_wp2_with (first
          | (refine load_num rfl (.tmp 6) rfl g rfl _ _ B3.out.1 ?_)
          | (go_at_call 53; refine (Z.out _ (G.out.below B3.out.2.2)).mono ?_; rintro e w4 ⟨rfl, hb⟩; have S4 := Lib.hid (B3.out.2.2.trans (hb.mono B3.out.2.2.size)); clear hb))
        exact bodyPost_ret (v := .tuple #[.int .u64 0, .int .u32 0, .bool false]) (by simp [results, Tryd.results34, go_sem]) rfl ⟨by rw [Hp.out.1, Hp.out.2.1, Hp.out.2.2], S4.out⟩
      · have pm := pz'.out hd
        have Hm := Hm.out
        have Hp := Lib.hid (NS.out (by omega) (by omega))
        have X := Lib.hid (X.out (by omega) pd)
        rw [pd] at c0 B3 X
        rw [← pm] at Hp
        clear pm Hm pd hd Z
        have c0 := c0
        go_upto_region 10 with fail
        obtain ⟨b0, b1⟩ := B3.out.2.1.at.q
        have G1 := Lib.hid (G.out.below B3.out.2.2)
        have lx0 := lx.out.1
        have lx1 := lx.out.2
        have fd : ∀ w : World, (Instr.field 52 (.agg #[.int .i64 0, .int .u64 m]) 1).run Tryd.prog w = .ok (.int .u64 m) w := fun _ => by kernel_rfl
        refine wp_region_quiet_below (by kernel_rfl) (by kernel_rfl) ?_
        repeat (first
          | ((refine quiet_load_num (.tmp 6) rfl rfl g rfl _ _ B3.out.1.regrown ?_); (try simp only [Act.put, List.setIfInBounds_toArray, List.set_cons_zero, List.set_cons_succ]))
          | (go_big_quiet_step (first | (with_reducible exact (X.out.quiet G1.out _ _)))))
        (refine wpQuiet_nil ?_; intro _ hw'; obtain ⟨⟨dq, osq⟩, hw''⟩ := hw'; subst hw'')
        go_wp2
        exact bodyPost_ret (v := .tuple #[.int .u64 m, .int .u32 (loOf x % 4294967296), .bool true]) (by simp [results, Tryd.results34, go_sem]) rfl ⟨by rw [Hp.out.1, Hp.out.2.1, Hp.out.2.2], B3.out.2.2.trans ((below_quiet dq osq).mono B3.out.2.2.size)⟩
end Go.Proofs.YthmkfkmcamjnoaaDoor
