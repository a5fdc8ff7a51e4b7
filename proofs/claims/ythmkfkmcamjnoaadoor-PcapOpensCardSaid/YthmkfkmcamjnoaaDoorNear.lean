/-
  Package era: what each call answers.
  Package era: Unix, Back.
  Plain arithmetic of stamps and eras: the nearest moment of a stamp. No walk here.
-/
import Derived.Test.YthmkfkmcamjnoaaDoorFix
import Derived.Test.YthmkfkmcamjnoaaDoorBoxes
namespace Go.Proofs.YthmkfkmcamjnoaaDoor
open Go.RowKit Go.Sort
/-- The nearer one of two. -/
def nearer (n x y : Int) : Int := if sat (n - x) ≤ sat (y - n) then x else y
theorem sgn_le (x y : Int) : decide (sgn x y ≤ 0) = decide (x ≤ y) := by unfold sgn; congr 1; apply propext; split <;> (try split) <;> omega
/-- The moment of an era and a stamp; the nearest one. -/
def eraI (h s : Int) : Int := h * 18446744073709551616 + s
def unfoldI (s x : Int) : Int :=
  if loOf x < s ∧ -9223372036854775808 < hiOf x then nearer x (eraI (hiOf x - 1) s) (eraI (hiOf x) s)
  else if s < loOf x ∧ hiOf x < 9223372036854775807 then nearer x (eraI (hiOf x) s) (eraI (hiOf x + 1) s)
  else eraI (hiOf x) s
theorem era_in {h s : Int} (hh : -9223372036854775808 ≤ h ∧ h ≤ 9223372036854775807) (hs : 0 ≤ s ∧ s ≤ 18446744073709551615) : In (eraI h s) := by unfold In eraI; omega
theorem era_words {h s : Int} (hs : 0 ≤ s ∧ s ≤ 18446744073709551615) : hiOf (eraI h s) = h ∧ loOf (eraI h s) = s := ⟨hiOf_mk hs.1 hs.2, loOf_mk hs.1 hs.2⟩
def unfoldObj (s x : Int) (i : Nat) : Obj :=
  match i with
  | 8 => wideO (unfoldI s x)
  | _ => wideO 0
end Go.Proofs.YthmkfkmcamjnoaaDoor
namespace Go.Proofs.YthmkfkmcamjnoaaDoor
open Go.RowKit Go.Sort
set_option maxRecDepth 8000
def unixI (s f : Int) : Int := (2208988800 + s) * 4294967296 + f
theorem unix_in {s f : Int} (hs : 0 ≤ s ∧ s ≤ 18446744073709551615) (hf : 0 ≤ f ∧ f ≤ 4294967295) : In (unixI s f) := by unfold In unixI; omega
def unixVal (s f : Int) (i _p : Nat) : Value :=
  match i with
  | 0 => .int .u32 f
  | 1 => wideV (2208988800 * 4294967296 + f)
  | 2 => wideV (s * 4294967296)
  | 3 => wideV (unixI s f)
  | _ => undef
def unixObj (s f : Int) (i : Nat) : Obj :=
  match i with
  | 4 => wideO (unixI s f)
  | _ => wideO 0
set_option maxHeartbeats 1000000 in
theorem e_unix (s f : Int) (hs : 0 ≤ s ∧ s ≤ 18446744073709551615) (hf : 0 ≤ f ∧ f ≤ 4294967295) : Gives 23 #[.int .u64 s, .int .u32 f] (wideV (unixI s f)) := fun w hg => by
  have G := Lib.hid hg
  have M := Lib.hid (f_moment 2208988800 f (by omega) hf)
  have A := Lib.hid ((g_add (2208988800 * 4294967296 + f) (s * 4294967296) (by unfold In; omega) (by unfold In; omega)).as rfl (v' := wideV (unixI s f)) (by
    rw [sat_id (by unfold In; omega), show 2208988800 * 4294967296 + f + s * 4294967296 = unixI s f by unfold unixI; omega]; rfl))
  have e1 : s / 4294967296 = hiOf (s * 4294967296) := by unfold hiOf; omega
  have e1' : IntKind.i64.wrap (s / 4294967296) = hiOf (s * 4294967296) := by rw [IntKind.wrap_i64]; unfold hiOf; omega
  have e2 : IntKind.u64.wrap (s * 4294967296) = loOf (s * 4294967296) := by rw [IntKind.wrap_u64]; rfl
  have hs0 := hs.1
  have hs1 := hs.2
  clear hg hf hs
  go_enter Tryd.func23, Tryd.ntmps23
  go_upto_region 2 with fail
  have W : Hid (WideAt ((w.alloc (wideO 0)).alloc (wideO (s * 4294967296))) w.heap.size 0 ∧ WideAt ((w.alloc (wideO 0)).alloc (wideO (s * 4294967296))) (w.heap.size + 1) (s * 4294967296) ∧ Below w.heap.size w ((w.alloc (wideO 0)).alloc (wideO (s * 4294967296)))) := Lib.hid (by
    unfold WideAt
    refine ⟨?_, ?_, by unfold wideO; (repeat (first | (with_reducible exact Below.refl _ _) | (with_reducible assumption) | (with_reducible refine Below.drew ?_) | (with_reducible refine below_drewN ?_ _) | ((with_reducible refine Below.alloc ?_ ?_ _); rotate_left; (focus (first | (simp; done) | (simp; omega) | omega))) | ((with_reducible refine Below.setCell ?_ ?_ _); rotate_left; (focus (first | (simp; done) | (simp; omega) | omega))) | ((with_reducible refine Below.trans ?_ (Below.mono (by assumption) ?_)); rotate_left; (focus (first | (simp; done) | (simp; omega) | omega)))))⟩
    · rw [heap_alloc_old _ _ (by first | (simp; done) | (simp; omega) | omega)]; exact row_new _ _ rfl
    · exact row_new _ _ (by first | (simp; done) | (simp; omega) | omega))
  unfold wideO at W
  rw [show hiOf 0 = 0 from rfl, show loOf 0 = 0 from rfl] at W
  generalize (w.alloc (.cells #[.int .i64 0, .int .u64 0] 52)).alloc (.cells #[.int .i64 (hiOf (s * 4294967296)), .int .u64 (loOf (s * 4294967296))] 52) = w0 at *
  clear e1 e1' e2 hs0 hs1
  refine wp_region_turns_into w.heap.size [.gives, .gives, .gives, .gives, .stores 5, .makes (some 4)] (unixVal s f) (unixObj s f) (by kernel_rfl) (by kernel_rfl) (by kernel_rfl) rfl W.out.1 ?_ ?_
  · refine EachOp.cons (fun D own a w' I hn hd => ?_) ?_
    · have e1 : a.eval (.tmp 1) = .int .u32 f := (I.was (by kernel_rfl)).trans rfl
      have e1p : a.tmps[1]?.getD undef = .int .u32 f := by simpa [Act.eval] using e1
      exact does_value rfl rfl (by go_simp; rfl)
    refine EachOp.cons (fun D own a w' I hn hd => ?_) ?_
    · have e12 : a.eval (.tmp 12) = .int .u32 f := I.get (i := 0) rfl (hd 0 (by kernel_rfl)) rfl rfl
      exact does_go rfl rfl rfl rfl Tryd.func40 (by kernel_rfl) (by kernel_rfl) #[.int .i64 2208988800, .int .u32 f] (by simp [e12] <;> rfl) (M.out w' (G.out.below (W.out.2.2.trans (I.below.mono (by first | (simp; done) | (simp; omega) | omega)))))
    refine EachOp.cons (fun D own a w' I hn hd => ?_) ?_
    · exact does_load rfl rfl 52 (.tmp 5) rfl _ ((I.was (by kernel_rfl)).trans rfl) 52 _ _ _ (I.blk W.out.2.1) Tryd.underlying52 rfl infoW rfl
    refine EachOp.cons (fun D own a w' I hn hd => ?_) ?_
    · have e13 : a.eval (.tmp 13) = wideV (2208988800 * 4294967296 + f) := I.get (i := 1) rfl (hd 1 (by kernel_rfl)) rfl rfl
      have e14 : a.eval (.tmp 14) = wideV (s * 4294967296) := I.get (i := 2) rfl (hd 2 (by kernel_rfl)) rfl rfl
      exact does_go rfl rfl rfl rfl Tryd.func39 (by kernel_rfl) (by kernel_rfl) #[wideV (2208988800 * 4294967296 + f), wideV (s * 4294967296)] (by simp [e13, e14] <;> rfl) (A.out w' (G.out.below (W.out.2.2.trans (I.below.mono (by first | (simp; done) | (simp; omega) | omega)))))
    refine EachOp.cons (fun D own a w' I hn hd => ?_) EachOp.nil
    · have o5 : D 5 = true ∧ own 5 = _ := I.there 0 _ rfl
      have e4 : a.eval (.tmp 4) = .pointer (some ⟨own 5, 0, none⟩) := by rw [o5.2]; exact (I.was (by kernel_rfl)).trans rfl
      have e15 : a.eval (.tmp 15) = wideV (unixI s f) := I.get (i := 3) rfl (hd 3 (by kernel_rfl)) rfl rfl
      exact does_store rfl rfl rfl 52 (.tmp 4) (.tmp 15) rfl _ e4 e15 52 _ (I.fresh o5.1 rfl hn) infoW rfl (by kernel_rfl) rfl
  · intro own w3 H
    have o5 : own 5 = w.heap.size := (H.there 0 _ rfl).2
    have R := H.made 5 rfl rfl
    rw [o5] at R
    have R := Lib.hid (show WideAt w3 w.heap.size (unixI s f) from R)
    have S2 := Lib.hid (W.out.2.2.trans (H.below.mono (by first | (simp; done) | (simp; omega) | omega)))
    refine (by assumption : ∀ (a : Act) (w : World), Code.wp Tryd.prog _ _ a w → _) _ _ ?_
    simp only [putAll, Act.put, List.setIfInBounds_toArray, List.set_cons_zero, List.set_cons_succ, Nat.zero_add, Nat.reduceAdd, unixVal, wideV]
    obtain ⟨r0, r1, _⟩ := R.out.at
    clear H o5 W
    go_wp2
    exact bodyPost_ret (v := .agg #[.int .i64 (hiOf (unixI s f)), .int .u64 (loOf (unixI s f))]) (by simp [results, Tryd.results23, go_sem, r0, r1]) rfl (And.intro rfl S2.out)
/-- What is behind 1970: seconds, units, and whether there are any. -/
def backD (x : Int) : Int := sat (x - 9487534653230284800)
def backS (x : Int) : Int := if hiOf (backD x / 4294967296) = 0 then loOf (backD x / 4294967296) else 0
def backF (x : Int) : Int := if hiOf (backD x / 4294967296) = 0 then backD x % 4294967296 else 0
def backOk (x : Int) : Bool := decide (hiOf (backD x / 4294967296) = 0)
def backVal (x d q r : Int) (i p : Nat) : Value :=
  match i with
  | 0 => wideV x
  | 1 => wideV 9487534653230284800
  | 2 => wideV d
  | 3 => .tuple #[wideV q, .int .u64 r, .bool true]
  | 4 => .tuple #[wideV q, .int .u64 r, .bool true]
  | 5 => wideV q
  | 6 => .int .u64 r
  | 7 => .bool true
  | 8 => .pointer (some ⟨p, 0, none⟩)
  | 10 => .int .u64 r
  | 11 => .bool true
  | _ => undef
def backObj (q : Int) (i : Nat) : Obj :=
  match i with
  | 9 => wideO q
  | _ => wideO 0
set_option maxHeartbeats 2000000 in
theorem e_back (x : Int) (hx : In x) : Gives 32 #[wideV x] (.tuple #[.int .u64 (backS x), .int .u32 (backF x), .bool (backOk x)]) := fun w hg => by
  have G := Lib.hid hg
  have M := Lib.hid ((f_moment 2208988800 0 (by omega) (by omega)).as rfl (v' := wideV 9487534653230284800) rfl)
  have S := Lib.hid ((g_sub x 9487534653230284800 hx (by unfold In; omega)).as rfl (v' := wideV (backD x)) rfl)
  have V := Lib.hid ((g_div (backD x) 4294967296 (sat_in _) ⟨by omega, by omega⟩ (by omega)).as rfl (v' := .tuple #[wideV (backD x / 4294967296), .int .u64 (backD x % 4294967296), .bool true]) rfl)
  have U := Lib.hid (show (hiOf (backD x / 4294967296) = 0 → (Ending.returned (.tuple #[.int .u64 (loOf (backD x / 4294967296)), .int .u32 (backD x % 4294967296), .bool true]) : Ending) = .returned (.tuple #[.int .u64 (backS x), .int .u32 (backF x), .bool (backOk x)])) ∧
      (¬ hiOf (backD x / 4294967296) = 0 → (Ending.returned (.tuple #[.int .u64 0, .int .u32 0, .bool false]) : Ending) = .returned (.tuple #[.int .u64 (backS x), .int .u32 (backF x), .bool (backOk x)])) from
    ⟨fun h => by unfold backS backF backOk; simp [h], fun h => by unfold backS backF backOk; simp [h]⟩)
  have W : Hid (WideAt (w.alloc (wideO x)) w.heap.size x ∧ Below w.heap.size w (w.alloc (wideO x))) := Lib.hid ⟨by unfold WideAt; exact row_new _ _ rfl, below_alloc _ _⟩
  have rw32 : IntKind.u32.wrap (backD x % 4294967296) = backD x % 4294967296 := by rw [IntKind.wrap_u32]; omega
  generalize backS x = bs at *
  generalize backF x = bf at *
  generalize backOk x = bo at *
  generalize backD x / 4294967296 = q at *
  generalize backD x % 4294967296 = r at *
  generalize backD x = d at *
  clear hg hx
  unfold wideO at W
  unfold wideV
  go_enter Tryd.func32, Tryd.ntmps32
  go_upto_region 1 with fail
  generalize w.alloc (.cells #[.int .i64 (hiOf x), .int .u64 (loOf x)] 52) = w0 at *
  refine wp_region_turns [.gives, .gives, .gives, .gives, .gives, .gives, .gives, .gives, .makes (some 9), .stores 8, .gives, .gives] (backVal x d q r) (backObj q) (by kernel_rfl) (by kernel_rfl) rfl ?_ ?_
  · refine EachOp.cons (fun D own a w' I hn hd => ?_) ?_
    · exact does_load rfl rfl 52 (.tmp 1) rfl _ ((I.was (by kernel_rfl)).trans rfl) 52 _ _ _ (I.blk W.out.1) Tryd.underlying52 rfl infoW rfl
    refine EachOp.cons (fun D own a w' I hn hd => ?_) ?_
    · exact does_go rfl rfl rfl rfl Tryd.func40 (by kernel_rfl) (by kernel_rfl) #[.int .i64 2208988800, .int .u32 0] (by simp <;> exact ⟨rfl, rfl⟩) (M.out w' (G.out.below (W.out.2.trans (I.below.mono W.out.2.size))))
    refine EachOp.cons (fun D own a w' I hn hd => ?_) ?_
    · have e9 : a.eval (.tmp 9) = wideV x := I.get (i := 0) rfl (hd 0 (by kernel_rfl)) rfl rfl
      have e10 : a.eval (.tmp 10) = wideV 9487534653230284800 := I.get (i := 1) rfl (hd 1 (by kernel_rfl)) rfl rfl
      exact does_go rfl rfl rfl rfl Tryd.func45 (by kernel_rfl) (by kernel_rfl) #[wideV x, wideV 9487534653230284800] (by simp [e9, e10] <;> rfl) (S.out w' (G.out.below (W.out.2.trans (I.below.mono W.out.2.size))))
    refine EachOp.cons (fun D own a w' I hn hd => ?_) ?_
    · have e11 : a.eval (.tmp 11) = wideV d := I.get (i := 2) rfl (hd 2 (by kernel_rfl)) rfl rfl
      exact does_go rfl rfl rfl rfl Tryd.func44 (by kernel_rfl) (by kernel_rfl) #[wideV d, .int .u64 4294967296] (by simp [e11] <;> rfl) (V.out w' (G.out.below (W.out.2.trans (I.below.mono W.out.2.size))))
    refine EachOp.cons (fun D own a w' I hn hd => ?_) ?_
    · have e12 : a.eval (.tmp 12) = .tuple #[wideV q, .int .u64 r, .bool true] := I.get (i := 3) rfl (hd 3 (by kernel_rfl)) rfl rfl
      have e12p : a.tmps[12]?.getD undef = .tuple #[wideV q, .int .u64 r, .bool true] := by simpa [Act.eval] using e12
      exact does_value rfl rfl (by go_simp; rfl)
    refine EachOp.cons (fun D own a w' I hn hd => ?_) ?_
    · have e8 : a.eval (.tmp 8) = .tuple #[wideV q, .int .u64 r, .bool true] := I.get (i := 4) rfl (hd 4 (by kernel_rfl)) rfl rfl
      have e8p : a.tmps[8]?.getD undef = .tuple #[wideV q, .int .u64 r, .bool true] := by simpa [Act.eval] using e8
      exact does_value rfl rfl (by go_simp; rfl)
    refine EachOp.cons (fun D own a w' I hn hd => ?_) ?_
    · have e8 : a.eval (.tmp 8) = .tuple #[wideV q, .int .u64 r, .bool true] := I.get (i := 4) rfl (hd 4 (by kernel_rfl)) rfl rfl
      have e8p : a.tmps[8]?.getD undef = .tuple #[wideV q, .int .u64 r, .bool true] := by simpa [Act.eval] using e8
      exact does_value rfl rfl (by go_simp; rfl)
    refine EachOp.cons (fun D own a w' I hn hd => ?_) ?_
    · have e8 : a.eval (.tmp 8) = .tuple #[wideV q, .int .u64 r, .bool true] := I.get (i := 4) rfl (hd 4 (by kernel_rfl)) rfl rfl
      have e8p : a.tmps[8]?.getD undef = .tuple #[wideV q, .int .u64 r, .bool true] := by simpa [Act.eval] using e8
      exact does_value rfl rfl (by go_simp; rfl)
    refine EachOp.cons (fun D own a w' I hn hd => ?_) ?_
    · exact does_alloc rfl rfl (by go_simp; exact ⟨rfl, rfl⟩)
    refine EachOp.cons (fun D own a w' I hn hd => ?_) ?_
    · have e5 : a.eval (.tmp 5) = .pointer (some ⟨own 8, 0, none⟩) := I.get (i := 8) rfl (hd 8 (by kernel_rfl)) rfl rfl
      have e13 : a.eval (.tmp 13) = wideV q := I.get (i := 5) rfl (hd 5 (by kernel_rfl)) rfl rfl
      exact does_store rfl rfl rfl 52 (.tmp 5) (.tmp 13) rfl _ e5 e13 52 _ (I.fresh (hd 8 (by kernel_rfl)) rfl hn) infoW rfl (by kernel_rfl) rfl
    refine EachOp.cons (fun D own a w' I hn hd => ?_) ?_
    · have e14 : a.eval (.tmp 14) = .int .u64 r := I.get (i := 6) rfl (hd 6 (by kernel_rfl)) rfl rfl
      have e14p : a.tmps[14]?.getD undef = .int .u64 r := by simpa [Act.eval] using e14
      exact does_value rfl rfl (by go_simp; rfl)
    refine EachOp.cons (fun D own a w' I hn hd => ?_) EachOp.nil
    · have e15 : a.eval (.tmp 15) = .bool true := I.get (i := 7) rfl (hd 7 (by kernel_rfl)) rfl rfl
      have e15p : a.tmps[15]?.getD undef = .bool true := by simpa [Act.eval] using e15
      exact does_value rfl rfl (by go_simp; rfl)
  · intro own w3 H
    have R := Lib.hid (show WideAt w3 (own 8) q from H.made 8 rfl rfl)
    have S2 := Lib.hid (W.out.2.trans (H.below.mono W.out.2.size))
    refine (by assumption : ∀ (a : Act) (w : World), Code.wp Tryd.prog _ _ a w → _) _ _ ?_
    simp only [putAll, Act.put, List.setIfInBounds_toArray, List.set_cons_zero, List.set_cons_succ, Nat.zero_add, Nat.reduceAdd, backVal, wideV]
    generalize own 8 = p at *
    obtain ⟨r0, r1, _⟩ := R.out.at
    clear H W
    by_cases k : hiOf q = 0
    · have U := Lib.hid (U.out.1 k)
      go_wp2
      exact bodyPost_ret (v := .tuple #[.int .u64 (loOf q), .int .u32 r, .bool true]) (by simp [results, Tryd.results32, go_sem]) rfl (And.intro U.out S2.out)
    · have U := Lib.hid (U.out.2 k)
      go_wp2
      exact bodyPost_ret (v := .tuple #[.int .u64 0, .int .u32 0, .bool false]) (by simp [results, Tryd.results32, go_sem]) rfl (And.intro U.out S2.out)
end Go.Proofs.YthmkfkmcamjnoaaDoor
namespace Go.Proofs.YthmkfkmcamjnoaaDoor
open Go.RowKit
theorem unfold_plain {s x : Int} (hs : 0 ≤ s ∧ s ≤ 18446744073709551615) (hx : In x) :
    unfoldI s x = if loOf x < s ∧ -9223372036854775808 < hiOf x then (if 18446744073709551616 - (s - loOf x) ≤ s - loOf x then x + (s - loOf x) - 18446744073709551616 else x + (s - loOf x))
      else if s < loOf x ∧ hiOf x < 9223372036854775807 then (if loOf x - s ≤ 18446744073709551616 - (loOf x - s) then x - (loOf x - s) else x - (loOf x - s) + 18446744073709551616)
      else x + (s - loOf x) := by
  have e := split_eq x
  have hh := hi_bd hx
  have hl := lo_bd x
  unfold unfoldI nearer eraI
  generalize hiOf x = h at *
  generalize loOf x = l at *
  subst e
  by_cases c1 : l < s ∧ -9223372036854775808 < h
  · rw [if_pos c1, if_pos c1, sat_id (by unfold In; omega), sat_id (by unfold In; omega)]
    by_cases c : 18446744073709551616 - (s - l) ≤ s - l
    · rw [if_pos c, if_pos (by omega)]; omega
    · rw [if_neg c, if_neg (by omega)]; omega
  · rw [if_neg c1, if_neg c1]
    by_cases c2 : s < l ∧ h < 9223372036854775807
    · rw [if_pos c2, if_pos c2, sat_id (by unfold In; omega), sat_id (by unfold In; omega)]
      by_cases c : l - s ≤ 18446744073709551616 - (l - s)
      · rw [if_pos c, if_pos (by omega)]; omega
      · rw [if_neg c, if_neg (by omega)]; omega
    · rw [if_neg c2, if_neg c2]; omega
theorem unfold_words {s x : Int} (hs : 0 ≤ s ∧ s ≤ 18446744073709551615) (hx : In x) : In (unfoldI s x) ∧ loOf (unfoldI s x) = s := by
  have hh := hi_bd hx
  have hl := lo_bd x
  unfold unfoldI nearer
  have f : ∀ h : Int, -9223372036854775808 ≤ h ∧ h ≤ 9223372036854775807 → In (eraI h s) ∧ loOf (eraI h s) = s := fun h b => ⟨era_in b hs, (era_words hs).2⟩
  split
  · rename_i c; split
    · exact f _ (by omega)
    · exact f _ (by omega)
  · split
    · rename_i c; split
      · exact f _ (by omega)
      · exact f _ (by omega)
    · exact f _ (by omega)
theorem unfold_close {s x : Int} (hs : 0 ≤ s ∧ s ≤ 18446744073709551615) (hx : In x) (h : -9223372036854775808 < hiOf x ∧ hiOf x < 9223372036854775807) :
    -9223372036854775808 ≤ unfoldI s x - x ∧ unfoldI s x - x ≤ 9223372036854775808 := by
  rw [unfold_plain hs hx]
  have hl := lo_bd x
  generalize loOf x = l at *
  (repeat' split) <;> omega
theorem unfold_eq {w x : Int} (hw : In w) (hx : In x) (h : -9223372036854775808 < w - x ∧ w - x < 9223372036854775808) : unfoldI (loOf w) x = w := by
  rw [unfold_plain (lo_bd w) hx]
  have hl := lo_bd x
  have e := split_eq x
  have hh := hi_bd hx
  have hl2 := lo_bd w
  have e2 := split_eq w
  have hh2 := hi_bd hw
  generalize loOf x = l at *
  generalize hiOf x = k at *
  generalize loOf w = m at *
  generalize hiOf w = j at *
  subst e e2
  have : j = k ∨ j = k - 1 ∨ j = k + 1 := by omega
  rcases this with rfl | rfl | rfl
  all_goals (repeat' split) <;> omega
/-- How far two numbers are apart, as the statements ask it. -/
def distI (w x : Int) : Int := sat (if sat (w - x) < 0 then -sat (w - x) else sat (w - x))
theorem dist_lt {w x : Int} (h : distI w x < 9223372036854775808) : -9223372036854775808 < w - x ∧ w - x < 9223372036854775808 := by
  unfold distI sat minW maxW at h
  (repeat' split at h) <;> omega
theorem dist_le {w x : Int} (h : -9223372036854775808 ≤ w - x ∧ w - x ≤ 9223372036854775808) : distI w x ≤ 9223372036854775808 := by
  unfold distI
  rw [sat_id (x := w - x) (by unfold In; omega), sat_id (by unfold In; split <;> omega)]
  split <;> omega
/-- Of a greater moment a stamp's is not less. -/
theorem unfold_mono {s a b : Int} (hs : 0 ≤ s ∧ s ≤ 18446744073709551615) (ha : In a) (hb : In b) (h : a ≤ b) : unfoldI s a ≤ unfoldI s b := by
  rw [unfold_plain hs ha, unfold_plain hs hb]
  have hl := lo_bd a
  have e := split_eq a
  have hh := hi_bd ha
  have hl2 := lo_bd b
  have e2 := split_eq b
  have hh2 := hi_bd hb
  generalize loOf a = l at *
  generalize hiOf a = k at *
  generalize loOf b = m at *
  generalize hiOf b = j at *
  subst e e2
  have : k = j ∨ k + 1 = j ∨ k + 2 ≤ j := by omega
  rcases this with rfl | rfl | g
  all_goals (repeat' split) <;> omega
/-- .. and one era at least is between two that are not one. -/
theorem era_apart {s x y : Int} (hx : loOf x = s) (hy : loOf y = s) (h : x ≤ y) : x = y ∨ hiOf x < hiOf y := by
  have e := split_eq x
  have e2 := split_eq y
  rw [hx] at e; rw [hy] at e2
  omega
theorem unix_back {s f : Int} (hs : 0 ≤ s ∧ s ≤ 18446744073709551615) (hf : 0 ≤ f ∧ f ≤ 4294967295) : backS (unixI s f) = s ∧ backF (unixI s f) = f ∧ backOk (unixI s f) = true := by
  have d : backD (unixI s f) = s * 4294967296 + f := by unfold backD; rw [sat_id (by unfold In unixI; omega)]; unfold unixI; omega
  have q : (s * 4294967296 + f) / 4294967296 = s := by omega
  have r : (s * 4294967296 + f) % 4294967296 = f := by omega
  have h0 : hiOf s = 0 := by unfold hiOf; omega
  have l0 : loOf s = s := by unfold loOf; omega
  unfold backS backF backOk
  rw [d, q, r, h0, l0]
  exact ⟨rfl, rfl, rfl⟩
theorem unix_lt {s f t g : Int} (hf : 0 ≤ f ∧ f ≤ 4294967295) (hg : 0 ≤ g ∧ g ≤ 4294967295) : unixI s f < unixI t g ↔ (s < t ∨ (s = t ∧ f < g)) := by unfold unixI; omega
end Go.Proofs.YthmkfkmcamjnoaaDoor
