/-
  FixMoves: its two closures.
-/
import Derived.Test.YtpjmngolnobomaaDoorKnown2
namespace Go.Proofs.YtpjmngolnobomaaDoor
open Go.RowKit Go.Sort
set_option maxHeartbeats 1000000 in
theorem on_call (x y : Int) (hx : In x) (hy : In y) (p : Nat) (w : World) (hg : Glob w) (hp : At w p y) : Calls Tryd.prog 22 #[wideV x, .pointer (some ⟨p, 0, none⟩)] w fun e w' =>
    e = .returned (wideV (sat (x + y))) ∧ Below w.heap.size w w' := by
  have S := Lib.hid (g_add x y hx hy)
  have G := Lib.hid hg
  obtain ⟨a0, a1, lt⟩ := hp
  clear hg hx hy
  unfold wideV
  go_enter Tryd.func22, Tryd.ntmps22
  go_wp2_with (first
    | (go_at_call 23; refine (S.out _ (G.out.below (by (repeat (first | exact Below.refl _ _ | assumption | (refine Below.drew ?_) | (refine Below.alloc ?_ (by first | (simp; done) | (simp; omega) | omega) _) | (refine Below.setCell ?_ (by first | (simp; done) | (simp; omega) | omega) _) | (refine Below.trans ?_ (Below.mono (by assumption) (by first | (simp; done) | (simp; omega) | omega)))))))).mono ?_; rintro e w1 ⟨rfl, hb⟩; obtain ⟨hc, hf⟩ := bcell hb; have sz := hb.size; simp at sz; have c0 := hc (w.heap.size + 1) 0 (by first | (simp; done) | (simp; omega) | omega); have c1 := hc (w.heap.size + 1) 1 (by first | (simp; done) | (simp; omega) | omega); have f0 := hf (w.heap.size + 1) 0 (by first | (simp; done) | (simp; omega) | omega); have f1 := hf (w.heap.size + 1) 1 (by first | (simp; done) | (simp; omega) | omega)))
  exact bodyPost_ret (v := .agg #[.int .i64 (hiOf (sat (x + y))), .int .u64 (loOf (sat (x + y)))]) (by simp [results, Tryd.results22, go_sem, c0, c1]) rfl (And.intro rfl (by (repeat (first | exact Below.refl _ _ | assumption | (refine Below.drew ?_) | (refine Below.alloc ?_ (by first | (simp; done) | (simp; omega) | omega) _) | (refine Below.setCell ?_ (by first | (simp; done) | (simp; omega) | omega) _) | (refine Below.trans ?_ (Below.mono (by assumption) (by first | (simp; done) | (simp; omega) | omega)))))))
def lateVal (x b : Int) (i p : Nat) : Value :=
  match i with
  | 0 => wideV x
  | 1 => .int .i64 b
  | 2 => wideV b
  | 3 => wideV (sat (x + b))
  | 5 => .pointer (some ⟨p, 0, none⟩)
  | _ => undef
def lateObj (x b : Int) (i : Nat) : Obj :=
  match i with
  | 4 => wideO (sat (x + b))
  | _ => wideO 0
set_option maxHeartbeats 1000000 in
theorem late_call (x b : Int) (hx : In x) (hb : -9223372036854775808 ≤ b ∧ b ≤ 9223372036854775807) (p : Nat) (w : World) (hg : Glob w) (hp : w.heap[p]? = some (.cells #[.int .i64 b] 2 (0, 0))) :
    Calls Tryd.prog 24 #[wideV x, .pointer (some ⟨p, 0, none⟩)] w fun e w' => e = .returned (wideV (sat (x + b))) ∧ Below w.heap.size w w' := by
  have S := Lib.hid (g_add x b hx (by unfold In; omega))
  have O := Lib.hid (g_of b hb)
  have G := Lib.hid hg
  clear hg hx hb
  have lt : p < w.heap.size := by
    rcases Nat.lt_or_ge p w.heap.size with g | g
    · exact g
    · rw [Array.getElem?_eq_none g] at hp; cases hp
  have W : Hid (WideAt ((w.alloc (wideO x)).alloc (wideO 0)) w.heap.size x ∧ WideAt ((w.alloc (wideO x)).alloc (wideO 0)) (w.heap.size + 1) 0 ∧ ((w.alloc (wideO x)).alloc (wideO 0)).heap[p]? = some (.cells #[.int .i64 b] 2 (0, 0)) ∧ Below w.heap.size w ((w.alloc (wideO x)).alloc (wideO 0))) := Lib.hid (by
    unfold WideAt
    refine ⟨?_, ?_, ?_, by unfold wideO; (repeat (first | (with_reducible exact Below.refl _ _) | (with_reducible assumption) | (with_reducible refine Below.drew ?_) | (with_reducible refine below_drewN ?_ _) | ((with_reducible refine Below.alloc ?_ ?_ _); rotate_left; (focus (first | (simp; done) | (simp; omega) | omega))) | ((with_reducible refine Below.setCell ?_ ?_ _); rotate_left; (focus (first | (simp; done) | (simp; omega) | omega))) | ((with_reducible refine Below.trans ?_ (Below.mono (by assumption) ?_)); rotate_left; (focus (first | (simp; done) | (simp; omega) | omega)))))⟩
    · rw [heap_alloc_old _ _ (by first | (simp; done) | (simp; omega) | omega)]; exact row_new _ _ rfl
    · exact row_new _ _ (by first | (simp; done) | (simp; omega) | omega)
    · rw [heap_alloc_old _ _ (by first | (simp; done) | (simp; omega) | omega), heap_alloc_old _ _ lt]; exact hp)
  unfold wideO at W
  rw [show hiOf 0 = 0 from rfl, show loOf 0 = 0 from rfl] at W
  have LT := Lib.hid lt
  clear hp lt
  unfold wideV
  go_enter Tryd.func24, Tryd.ntmps24
  go_upto_region 1 with fail
  generalize (w.alloc (.cells #[.int .i64 (hiOf x), .int .u64 (loOf x)] 25)).alloc (.cells #[.int .i64 0, .int .u64 0] 25) = w0 at *
  refine wp_region_turns_into (w.heap.size + 1) [.gives, .gives, .gives, .gives, .stores 5, .makes (some 4)] (lateVal x b) (lateObj x b) (by kernel_rfl) (by kernel_rfl) (by kernel_rfl) rfl W.out.2.1 ?_ ?_
  · refine EachOp.cons (fun D own a w I hn hd => ?_) ?_
    · exact does_load rfl rfl 25 (.tmp 2) rfl _ ((I.was (by kernel_rfl)).trans rfl) 25 _ _ _ (I.blk W.out.1) Tryd.underlying25 rfl infoW rfl
    refine EachOp.cons (fun D own a w I hn hd => ?_) ?_
    · have e1 : a.eval (.tmp 1) = .pointer (some ⟨p, 0, none⟩) := (I.was (by kernel_rfl)).trans rfl
      have c := cell_of_row w p 0 _ _ _ (I.blk W.out.2.2.1 (by have := LT.out; simp; omega))
      have e1' : a.tmps[1]?.getD undef = .pointer (some ⟨p, 0, none⟩) := by simpa [Act.eval] using e1
      exact does_value rfl rfl (by go_simp; rfl)
    refine EachOp.cons (fun D own a w I hn hd => ?_) ?_
    · have e5 : a.eval (.tmp 5) = .int .i64 b := I.get (i := 1) rfl (hd 1 (by kernel_rfl)) rfl rfl
      exact does_go rfl rfl rfl rfl Tryd.func25 (by kernel_rfl) (by kernel_rfl) #[.int .i64 b] (by simp [e5]) (O.out w (G.out.below (W.out.2.2.2.trans (I.below.mono (by first | (simp; done) | (simp; omega) | omega)))))
    refine EachOp.cons (fun D own a w I hn hd => ?_) ?_
    · have e4 : a.eval (.tmp 4) = wideV x := I.get (i := 0) rfl (hd 0 (by kernel_rfl)) rfl rfl
      have e6 : a.eval (.tmp 6) = wideV b := I.get (i := 2) rfl (hd 2 (by kernel_rfl)) rfl rfl
      exact does_go rfl rfl rfl rfl Tryd.func23 (by kernel_rfl) (by kernel_rfl) #[wideV x, wideV b] (by simp [e4, e6]) (S.out w (G.out.below (W.out.2.2.2.trans (I.below.mono (by first | (simp; done) | (simp; omega) | omega)))))
    refine EachOp.cons (fun D own a w I hn hd => ?_) EachOp.nil
    have o5 : D 5 = true ∧ own 5 = _ := I.there 0 _ rfl
    have e3 : a.eval (.tmp 3) = .pointer (some ⟨own 5, 0, none⟩) := by rw [o5.2]; exact (I.was (by kernel_rfl)).trans rfl
    have e7 : a.eval (.tmp 7) = wideV (sat (x + b)) := I.get (i := 3) rfl (hd 3 (by kernel_rfl)) rfl rfl
    exact does_store rfl rfl rfl 25 (.tmp 3) (.tmp 7) rfl _ e3 e7 25 _ (I.fresh o5.1 rfl hn) infoW rfl (by kernel_rfl) rfl
  · intro own w1 H
    have o5 : own 5 = w.heap.size + 1 := (H.there 0 _ rfl).2
    have R := H.made 5 rfl rfl
    rw [o5] at R
    have R := Lib.hid (show WideAt w1 (w.heap.size + 1) (sat (x + b)) from R)
    have S2 := Lib.hid (W.out.2.2.2.trans (H.below.mono (by first | (simp; done) | (simp; omega) | omega)))
    refine (by assumption : ∀ (a : Act) (w : World), Code.wp Tryd.prog _ _ a w → _) _ _ ?_
    simp only [putAll, Act.put, List.setIfInBounds_toArray, List.set_cons_zero, List.set_cons_succ, Nat.zero_add, Nat.reduceAdd, lateVal, wideV]
    obtain ⟨c0, c1, _⟩ := R.out.at
    clear H o5 W
    go_wp2
    exact bodyPost_ret (v := .agg #[.int .i64 (hiOf (sat (x + b))), .int .u64 (loOf (sat (x + b)))]) (by simp [results, Tryd.results24, go_sem, c0, c1]) rfl (And.intro rfl S2.out)
theorem row_on {w w' : World} {b : Nat} {o : Obj} (h : w.heap[b]? = some o) (hb : Below w.heap.size w w') : w'.heap[b]? = some o := by
  have lt : b < w.heap.size := by
    rcases Nat.lt_or_ge b w.heap.size with g | g
    · exact g
    · rw [Array.getElem?_eq_none g] at h; cases h
  exact (hb.block b lt).trans h
/-- The closures, in a region that draws its order. -/
theorem on_quiet (x y : Int) (hx : In x) (hy : In y) (h : In (x + y)) {p : Nat} {w : World} (hg : Glob w) (hp : WideAt w p y) (d : Nat) (os : Array Obj) :
    Calls Tryd.prog 22 #[(.agg #[.int .i64 (hiOf x), .int .u64 (loOf x)]), .pointer (some ⟨p, 0, none⟩)] (grow (redrawn w d) os) fun e w'' => e = .returned (.agg #[.int .i64 (hiOf (x + y)), .int .u64 (loOf (x + y))]) ∧ ∃ r : Regrown, w'' = grow (redrawn w r.d) r.os :=
  Calls.regrown_of (by have := on_call x y hx hy p _ (hg.regrown d os) ((hp.on (below_regrown w d os)).at); rw [sat_id h] at this; exact this)
theorem late_quiet (x b : Int) (hx : In x) (hb : -9223372036854775808 ≤ b ∧ b ≤ 9223372036854775807) (h : In (x + b)) {p : Nat} {w : World} (hg : Glob w) (hp : w.heap[p]? = some (.cells #[.int .i64 b] 2 (0, 0))) (d : Nat) (os : Array Obj) :
    Calls Tryd.prog 24 #[(.agg #[.int .i64 (hiOf x), .int .u64 (loOf x)]), .pointer (some ⟨p, 0, none⟩)] (grow (redrawn w d) os) fun e w'' => e = .returned (.agg #[.int .i64 (hiOf (x + b)), .int .u64 (loOf (x + b))]) ∧ ∃ r : Regrown, w'' = grow (redrawn w r.d) r.os :=
  Calls.regrown_of (by have := late_call x b hx hb p _ (hg.regrown d os) (row_on hp (below_regrown w d os)); rw [sat_id h] at this; exact this)
end Go.Proofs.YtpjmngolnobomaaDoor
