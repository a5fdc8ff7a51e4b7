/-
  Package era: what each call answers.
-/
import Derived.Test.YtcpnlifcjdahgaaDoorFix
import Derived.Test.YtcpnlifcjdahgaaDoorBoxes
namespace Go.Proofs.YtcpnlifcjdahgaaDoor
open Go.RowKit Go.Sort
theorem e_in (n s : Int) : Gives 29 #[.int .i64 n, .int .u64 s] (.agg #[.int .i64 n, .int .u64 s]) := fun w _ => by
  go_enter Tryd.func29, Tryd.ntmps29
  go_wp2
  exact bodyPost_ret (v := .agg #[.int .i64 n, .int .u64 s]) (by simp [results, Tryd.results29, go_sem]) rfl ⟨rfl, by (repeat (first | exact Below.refl _ _ | assumption | (refine Below.drew ?_) | (refine Below.alloc ?_ (by first | (simp; done) | (simp; omega) | omega) _) | (refine Below.setCell ?_ (by first | (simp; done) | (simp; omega) | omega) _) | (refine Below.trans ?_ (Below.mono (by assumption) (by first | (simp; done) | (simp; omega) | omega)))))⟩
theorem e_fold (x : Int) : Gives 12 #[(.agg #[.int .i64 (hiOf x), .int .u64 (loOf x)])] (.int .u64 (loOf x)) := fun w _ => by
  go_enter Tryd.func12, Tryd.ntmps12
  go_wp2
  go_ret
  exact ⟨rfl, by (repeat (first | exact Below.refl _ _ | assumption | (refine Below.drew ?_) | (refine Below.alloc ?_ (by first | (simp; done) | (simp; omega) | omega) _) | (refine Below.setCell ?_ (by first | (simp; done) | (simp; omega) | omega) _) | (refine Below.trans ?_ (Below.mono (by assumption) (by first | (simp; done) | (simp; omega) | omega)))))⟩
theorem e_number (x : Int) : Gives 16 #[(.agg #[.int .i64 (hiOf x), .int .u64 (loOf x)])] (.int .i64 (hiOf x)) := fun w _ => by
  go_enter Tryd.func16, Tryd.ntmps16
  go_wp2
  go_ret
  exact ⟨rfl, by (repeat (first | exact Below.refl _ _ | assumption | (refine Below.drew ?_) | (refine Below.alloc ?_ (by first | (simp; done) | (simp; omega) | omega) _) | (refine Below.setCell ?_ (by first | (simp; done) | (simp; omega) | omega) _) | (refine Below.trans ?_ (Below.mono (by assumption) (by first | (simp; done) | (simp; omega) | omega)))))⟩
/-- The nearer one of two. -/
def nearer (n x y : Int) : Int := if sat (n - x) ≤ sat (y - n) then x else y
theorem sgn_le (x y : Int) : decide (sgn x y ≤ 0) = decide (x ≤ y) := by unfold sgn; congr 1; apply propext; split <;> (try split) <;> omega
theorem nearer_call (n x y : Int) (hn : In n) (hx : In x) (hy : In y) (p : Nat) (w : World) (hg : Glob w) (hp : WideAt w p n) :
    Calls Tryd.prog 28 #[wideV x, wideV y, .pointer (some ⟨p, 0, none⟩)] w fun e w' => e = .returned (wideV (nearer n x y)) ∧ Below w.heap.size w w' := by
  have S1 := Lib.hid (g_sub n x hn hx)
  have S2 := Lib.hid (g_sub y n hy hn)
  have C := Lib.hid (g_cmp (sat (n - x)) (sat (y - n)))
  have G := Lib.hid hg
  have W : Hid (WideAt (((w.alloc (wideO x)).alloc (wideO y)).alloc (wideO 0)) w.heap.size x ∧ WideAt (((w.alloc (wideO x)).alloc (wideO y)).alloc (wideO 0)) (w.heap.size + 1) y ∧ WideAt (((w.alloc (wideO x)).alloc (wideO y)).alloc (wideO 0)) (w.heap.size + 1 + 1) 0 ∧ WideAt (((w.alloc (wideO x)).alloc (wideO y)).alloc (wideO 0)) p n ∧ Below w.heap.size w (((w.alloc (wideO x)).alloc (wideO y)).alloc (wideO 0))) := Lib.hid (by
    have lt := hp.at.2.2
    unfold WideAt
    refine ⟨?_, ?_, ?_, ?_, by unfold wideO; (repeat (first | (with_reducible exact Below.refl _ _) | (with_reducible assumption) | (with_reducible refine Below.drew ?_) | (with_reducible refine below_drewN ?_ _) | ((with_reducible refine Below.alloc ?_ ?_ _); rotate_left; (focus (first | (simp; done) | (simp; omega) | omega))) | ((with_reducible refine Below.setCell ?_ ?_ _); rotate_left; (focus (first | (simp; done) | (simp; omega) | omega))) | ((with_reducible refine Below.trans ?_ (Below.mono (by assumption) ?_)); rotate_left; (focus (first | (simp; done) | (simp; omega) | omega)))))⟩
    · rw [heap_alloc_old _ _ (by first | (simp; done) | (simp; omega) | omega), heap_alloc_old _ _ (by first | (simp; done) | (simp; omega) | omega)]; exact row_new _ _ rfl
    · rw [heap_alloc_old _ _ (by first | (simp; done) | (simp; omega) | omega)]; exact row_new _ _ (by first | (simp; done) | (simp; omega) | omega)
    · exact row_new _ _ (by first | (simp; done) | (simp; omega) | omega)
    · rw [heap_alloc_old _ _ (by first | (simp; done) | (simp; omega) | omega), heap_alloc_old _ _ (by first | (simp; done) | (simp; omega) | omega), heap_alloc_old _ _ lt]; exact hp)
  have N := Lib.hid (show nearer n x y = if sat (n - x) ≤ sat (y - n) then x else y from rfl)
  have L := Lib.hid (sgn_le (sat (n - x)) (sat (y - n)))
  unfold wideO at W
  rw [show hiOf 0 = 0 from rfl, show loOf 0 = 0 from rfl] at W
  clear hg hn hx hy hp
  generalize sat (n - x) = u at *
  generalize sat (y - n) = v at *
  unfold wideV
  go_enter Tryd.func28, Tryd.ntmps28
  go_upto_region 1 with fail
  generalize ((w.alloc (.cells #[.int .i64 (hiOf x), .int .u64 (loOf x)] 25)).alloc (.cells #[.int .i64 (hiOf y), .int .u64 (loOf y)] 25)).alloc (.cells #[.int .i64 0, .int .u64 0] 25) = w0 at *
  obtain ⟨a0, a1⟩ := W.out.1.at.q
  obtain ⟨b0, b1⟩ := W.out.2.1.at.q
  obtain ⟨d0, d1⟩ := W.out.2.2.2.1.at.q
  have G1 := Lib.hid (G.out.below W.out.2.2.2.2)
  refine wp_region_quiet_below (by kernel_rfl) (by kernel_rfl) ?_
  repeat (go_big_quiet_step (first | (with_reducible exact (S1.out.quiet G1.out _ _)) | (with_reducible exact (S2.out.quiet G1.out _ _)) | (with_reducible exact (C.out.quiet G1.out _ _))))
  (refine wpQuiet_nil ?_; intro _ hw'; obtain ⟨⟨dq, osq⟩, hw''⟩ := hw'; subst hw'')
  have hb := below_quiet (W := w0) dq osq
  have A := Lib.hid (W.out.1.on hb)
  have B := Lib.hid (W.out.2.1.on hb)
  have R := Lib.hid (W.out.2.2.1.on hb)
  have S := Lib.hid (W.out.2.2.2.2.trans (hb.mono W.out.2.2.2.2.size))
  clear hb G1 W a0 a1 b0 b1 d0 d1 C S1 S2
  generalize grow (redrawn w0 dq) osq = w1 at *
  obtain ⟨a0, a1, _⟩ := A.out.at
  obtain ⟨b0, b1, _⟩ := B.out.at
  obtain ⟨r0, r1, _⟩ := R.out.at
  have f0 := R.out.free 0
  have f1 := R.out.free 1
  by_cases h : u ≤ v
  · have e : sgn u v ≤ 0 := by have := L.out; simp [h] at this; exact this
    have N := Lib.hid (N.out.trans (if_pos h))
    clear h
    go_wp2
    exact bodyPost_ret (v := .agg #[.int .i64 (hiOf x), .int .u64 (loOf x)]) (by simp [results, Tryd.results28, go_sem, r0, r1]) rfl ⟨by rw [N.out], by have S := S.out; (repeat (first | (with_reducible exact Below.refl _ _) | (with_reducible assumption) | (with_reducible refine Below.drew ?_) | (with_reducible refine below_drewN ?_ _) | ((with_reducible refine Below.alloc ?_ ?_ _); rotate_left; (focus (first | (simp; done) | (simp; omega) | omega))) | ((with_reducible refine Below.setCell ?_ ?_ _); rotate_left; (focus (first | (simp; done) | (simp; omega) | omega))) | ((with_reducible refine Below.trans ?_ (Below.mono (by assumption) ?_)); rotate_left; (focus (first | (simp; done) | (simp; omega) | omega)))))⟩
  · have e : ¬ sgn u v ≤ 0 := by have := L.out; simp [h] at this; omega
    have N := Lib.hid (N.out.trans (if_neg h))
    clear h
    go_wp2
    exact bodyPost_ret (v := .agg #[.int .i64 (hiOf y), .int .u64 (loOf y)]) (by simp [results, Tryd.results28, go_sem, r0, r1]) rfl ⟨by rw [N.out], by have S := S.out; (repeat (first | (with_reducible exact Below.refl _ _) | (with_reducible assumption) | (with_reducible refine Below.drew ?_) | (with_reducible refine below_drewN ?_ _) | ((with_reducible refine Below.alloc ?_ ?_ _); rotate_left; (focus (first | (simp; done) | (simp; omega) | omega))) | ((with_reducible refine Below.setCell ?_ ?_ _); rotate_left; (focus (first | (simp; done) | (simp; omega) | omega))) | ((with_reducible refine Below.trans ?_ (Below.mono (by assumption) ?_)); rotate_left; (focus (first | (simp; done) | (simp; omega) | omega)))))⟩
/-- The moment of an era and a stamp; the nearest one. -/
def eraI (h s : Int) : Int := h * 18446744073709551616 + s
def unfoldI (s x : Int) : Int :=
  if loOf x < s ∧ -9223372036854775808 < hiOf x then nearer x (eraI (hiOf x - 1) s) (eraI (hiOf x) s)
  else if s < loOf x ∧ hiOf x < 9223372036854775807 then nearer x (eraI (hiOf x) s) (eraI (hiOf x + 1) s)
  else eraI (hiOf x) s
theorem era_in {h s : Int} (hh : -9223372036854775808 ≤ h ∧ h ≤ 9223372036854775807) (hs : 0 ≤ s ∧ s ≤ 18446744073709551615) : In (eraI h s) := by unfold In eraI; omega
theorem era_words {h s : Int} (hs : 0 ≤ s ∧ s ≤ 18446744073709551615) : hiOf (eraI h s) = h ∧ loOf (eraI h s) = s := ⟨hiOf_mk hs.1 hs.2, loOf_mk hs.1 hs.2⟩
theorem e_era (n s : Int) (hs : 0 ≤ s ∧ s ≤ 18446744073709551615) : Gives 29 #[.int .i64 n, .int .u64 s] (wideV (eraI n s)) :=
  (e_in n s).as rfl (by unfold wideV; rw [(era_words hs).1, (era_words hs).2])
def downVal (s x : Int) (b i p : Nat) : Value :=
  match i with
  | 0 => .func (.func 28) #[] #[.pointer (some ⟨b, 0, none⟩)]
  | 1 => .pointer (some ⟨b, 0, none⟩)
  | 2 => .int .i64 (hiOf x)
  | 3 => .int .i64 (hiOf x - 1)
  | 4 => .int .u64 s
  | 5 => wideV (eraI (hiOf x - 1) s)
  | 6 => wideV (eraI (hiOf x) s)
  | 7 => wideV (unfoldI s x)
  | 9 => .pointer (some ⟨p, 0, none⟩)
  | _ => undef
def upVal (s x : Int) (b i p : Nat) : Value :=
  match i with
  | 0 => .func (.func 28) #[] #[.pointer (some ⟨b, 0, none⟩)]
  | 1 => wideV (eraI (hiOf x) s)
  | 2 => .pointer (some ⟨b, 0, none⟩)
  | 3 => .int .i64 (hiOf x)
  | 4 => .int .i64 (hiOf x + 1)
  | 5 => .int .u64 s
  | 6 => wideV (eraI (hiOf x + 1) s)
  | 7 => wideV (unfoldI s x)
  | 9 => .pointer (some ⟨p, 0, none⟩)
  | _ => undef
def unfoldObj (s x : Int) (i : Nat) : Obj :=
  match i with
  | 8 => wideO (unfoldI s x)
  | _ => wideO 0
set_option maxHeartbeats 1000000 in
theorem e_unfold (s x : Int) (hs : 0 ≤ s ∧ s ≤ 18446744073709551615) (hx : In x) : Gives 11 #[.int .u64 s, wideV x] (wideV (unfoldI s x)) := fun w hg => by
  have G := Lib.hid hg
  have I := Lib.hid (fun n => e_in n s)
  have W : Hid (WideAt ((w.alloc (wideO x)).alloc (wideO 0)) w.heap.size x ∧ WideAt ((w.alloc (wideO x)).alloc (wideO 0)) (w.heap.size + 1) 0 ∧ Below w.heap.size w ((w.alloc (wideO x)).alloc (wideO 0))) := Lib.hid (by
    unfold WideAt
    refine ⟨?_, ?_, by unfold wideO; (repeat (first | (with_reducible exact Below.refl _ _) | (with_reducible assumption) | (with_reducible refine Below.drew ?_) | (with_reducible refine below_drewN ?_ _) | ((with_reducible refine Below.alloc ?_ ?_ _); rotate_left; (focus (first | (simp; done) | (simp; omega) | omega))) | ((with_reducible refine Below.setCell ?_ ?_ _); rotate_left; (focus (first | (simp; done) | (simp; omega) | omega))) | ((with_reducible refine Below.trans ?_ (Below.mono (by assumption) ?_)); rotate_left; (focus (first | (simp; done) | (simp; omega) | omega)))))⟩
    · rw [heap_alloc_old _ _ (by first | (simp; done) | (simp; omega) | omega)]; exact row_new _ _ rfl
    · exact row_new _ _ (by first | (simp; done) | (simp; omega) | omega))
  unfold wideO at W
  rw [show hiOf 0 = 0 from rfl, show loOf 0 = 0 from rfl] at W
  have HX := Lib.hid hx
  have HS := Lib.hid hs
  have hh := Lib.hid (hi_bd hx)
  have ll := Lib.hid (lo_bd x)
  unfold wideV
  go_enter Tryd.func11, Tryd.ntmps11
  go_upto_region 1 with fail
  generalize (w.alloc (.cells #[.int .i64 (hiOf x), .int .u64 (loOf x)] 25)).alloc (.cells #[.int .i64 0, .int .u64 0] 25) = w0 at *
  obtain ⟨a0, a1, la⟩ := W.out.1.at
  go_upto_region 3 with (first
    | (go_at_call 29; refine (I.out (hiOf x) _ (G.out.below W.out.2.2)).mono ?_; rintro e w1 ⟨rfl, hb⟩; have A := Lib.hid (W.out.1.on hb); have B := Lib.hid (W.out.2.1.on hb); have S := Lib.hid (W.out.2.2.trans (hb.mono W.out.2.2.size)); clear hb W))
  have ew := Lib.hid (fun k : Int => era_words (h := k) hs)
  have W : Hid (WideAt (w1.alloc (.cells #[.int .i64 (hiOf x), .int .u64 s] 25)) w.heap.size x ∧ WideAt (w1.alloc (.cells #[.int .i64 (hiOf x), .int .u64 s] 25)) (w.heap.size + 1) 0 ∧ WideAt (w1.alloc (.cells #[.int .i64 (hiOf x), .int .u64 s] 25)) w1.heap.size (eraI (hiOf x) s) ∧ w.heap.size + 2 ≤ w1.heap.size ∧ Below w.heap.size w (w1.alloc (.cells #[.int .i64 (hiOf x), .int .u64 s] 25))) := Lib.hid (by
    refine ⟨A.out.alloc _, B.out.alloc _, ?_, B.out.at.2.2, S.out.trans ((below_alloc _ _).mono S.out.size)⟩
    unfold WideAt
    rw [(ew.out _).1, (ew.out _).2]
    exact row_new _ _ rfl)
  clear A B S a0 a1 la hx hs hg I
  generalize w1.heap.size = o at *
  generalize w1.alloc (.cells #[.int .i64 (hiOf x), .int .u64 s] 25) = w2 at *
  obtain ⟨a0, a1, la⟩ := W.out.1.at
  by_cases c1 : loOf x < s ∧ -9223372036854775808 < hiOf x
  · have U := Lib.hid (show unfoldI s x = nearer x (eraI (hiOf x - 1) s) (eraI (hiOf x) s) from if_pos c1)
    obtain ⟨c1, c2⟩ := c1
    have T := Lib.hid (e_era (hiOf x - 1) s HS.out)
    have i1 := Lib.hid (era_in (h := hiOf x - 1) (s := s) (by have := hh.out; omega) HS.out)
    have i2 := Lib.hid (era_in (h := hiOf x) (s := s) hh.out HS.out)
    have ow : IntKind.i64.wrap (hiOf x - 1) = hiOf x - 1 := by have := hh.out; rw [IntKind.wrap_i64]; omega
    go_upto_region 4 with fail
    refine wp_region_turns_into (w.heap.size + 1) [.gives, .gives, .gives, .gives, .gives, .gives, .gives, .gives, .stores 9, .makes (some 8)] (downVal s x w.heap.size) (unfoldObj s x) (by kernel_rfl) (by kernel_rfl) (by kernel_rfl) rfl W.out.2.1 ?_ ?_
    · refine EachOp.cons (fun D own a w' I hn hd => ?_) ?_
      · have e5 : a.eval (.tmp 5) = .func (.func 28) #[] #[.pointer (some ⟨w.heap.size, 0, none⟩)] := (I.was (by kernel_rfl)).trans rfl
        have e5p : a.tmps[5]?.getD undef = .func (.func 28) #[] #[.pointer (some ⟨w.heap.size, 0, none⟩)] := by simpa [Act.eval] using e5
        exact does_value rfl rfl (by go_simp; rfl)
      refine EachOp.cons (fun D own a w' I hn hd => ?_) ?_
      · have e3 : a.eval (.tmp 3) = .pointer (some ⟨w.heap.size, 0, none⟩) := (I.was (by kernel_rfl)).trans rfl
        have e3p : a.tmps[3]?.getD undef = .pointer (some ⟨w.heap.size, 0, none⟩) := by simpa [Act.eval] using e3
        exact does_value rfl rfl (by go_simp; rfl)
      refine EachOp.cons (fun D own a w' I hn hd => ?_) ?_
      · have e23 : a.eval (.tmp 23) = .pointer (some ⟨w.heap.size, 0, none⟩) := I.get (i := 1) rfl (hd 1 (by kernel_rfl)) rfl rfl
        have e23p : a.tmps[23]?.getD undef = .pointer (some ⟨w.heap.size, 0, none⟩) := by simpa [Act.eval] using e23
        have cx : w'.cell? ⟨w.heap.size, 0, none⟩ = some (.int .i64 (hiOf x)) := (WideAt.at (I.blk W.out.1)).1
        exact does_value rfl rfl (by go_simp; rfl)
      refine EachOp.cons (fun D own a w' I hn hd => ?_) ?_
      · have e24 : a.eval (.tmp 24) = .int .i64 (hiOf x) := I.get (i := 2) rfl (hd 2 (by kernel_rfl)) rfl rfl
        have e24p : a.tmps[24]?.getD undef = .int .i64 (hiOf x) := by simpa [Act.eval] using e24
        exact does_value rfl rfl (by go_simp; rfl)
      refine EachOp.cons (fun D own a w' I hn hd => ?_) ?_
      · have e0 : a.eval (.tmp 0) = .int .u64 s := (I.was (by kernel_rfl)).trans rfl
        have e0p : a.tmps[0]?.getD undef = .int .u64 s := by simpa [Act.eval] using e0
        exact does_value rfl rfl (by go_simp; rfl)
      refine EachOp.cons (fun D own a w' I hn hd => ?_) ?_
      · have e25 : a.eval (.tmp 25) = .int .i64 (hiOf x - 1) := I.get (i := 3) rfl (hd 3 (by kernel_rfl)) rfl rfl
        have e26 : a.eval (.tmp 26) = .int .u64 s := I.get (i := 4) rfl (hd 4 (by kernel_rfl)) rfl rfl
        exact does_go rfl rfl rfl rfl Tryd.func29 (by kernel_rfl) (by kernel_rfl) #[.int .i64 (hiOf x - 1), .int .u64 s] (by simp [e25, e26]) (T.out w' (G.out.below (W.out.2.2.2.2.trans (I.below.mono (by first | (simp; done) | (simp; omega) | omega)))))
      refine EachOp.cons (fun D own a w' I hn hd => ?_) ?_
      · exact does_load rfl rfl 25 (.tmp 6) rfl _ ((I.was (by kernel_rfl)).trans rfl) 25 _ _ _ (I.blk W.out.2.2.1 (by have := W.out.2.2.2.1; simp; omega)) Tryd.underlying25 rfl infoW rfl
      refine EachOp.cons (fun D own a w' I hn hd => ?_) ?_
      · have e22 : a.eval (.tmp 22) = .func (.func 28) #[] #[.pointer (some ⟨w.heap.size, 0, none⟩)] := I.get (i := 0) rfl (hd 0 (by kernel_rfl)) rfl rfl
        have e27 : a.eval (.tmp 27) = wideV (eraI (hiOf x - 1) s) := I.get (i := 5) rfl (hd 5 (by kernel_rfl)) rfl rfl
        have e28 : a.eval (.tmp 28) = wideV (eraI (hiOf x) s) := I.get (i := 6) rfl (hd 6 (by kernel_rfl)) rfl rfl
        exact does_go rfl rfl rfl e22 Tryd.func28 (by kernel_rfl) (by kernel_rfl) #[wideV (eraI (hiOf x - 1) s), wideV (eraI (hiOf x) s), .pointer (some ⟨w.heap.size, 0, none⟩)] (by simp [e27, e28]) (by have c := nearer_call x _ _ HX.out i1.out i2.out w.heap.size w' (G.out.below (W.out.2.2.2.2.trans (I.below.mono (by first | (simp; done) | (simp; omega) | omega)))) (I.blk W.out.1); rw [← U.out] at c; exact c)
      refine EachOp.cons (fun D own a w' I hn hd => ?_) EachOp.nil
      · have o9 : D 9 = true ∧ own 9 = _ := I.there 0 _ rfl
        have e4 : a.eval (.tmp 4) = .pointer (some ⟨own 9, 0, none⟩) := by rw [o9.2]; exact (I.was (by kernel_rfl)).trans rfl
        have e29 : a.eval (.tmp 29) = wideV (unfoldI s x) := I.get (i := 7) rfl (hd 7 (by kernel_rfl)) rfl rfl
        exact does_store rfl rfl rfl 25 (.tmp 4) (.tmp 29) rfl _ e4 e29 25 _ (I.fresh o9.1 rfl hn) infoW rfl (by kernel_rfl) rfl
    · intro own w3 H
      have o9 : own 9 = w.heap.size + 1 := (H.there 0 _ rfl).2
      have R := H.made 9 rfl rfl
      rw [o9] at R
      have R := Lib.hid (show WideAt w3 (w.heap.size + 1) (unfoldI s x) from R)
      have S2 := Lib.hid (W.out.2.2.2.2.trans (H.below.mono (by first | (simp; done) | (simp; omega) | omega)))
      refine (by assumption : ∀ (a : Act) (w : World), Code.wp Tryd.prog _ _ a w → _) _ _ ?_
      simp only [putAll, Act.put, List.setIfInBounds_toArray, List.set_cons_zero, List.set_cons_succ, Nat.zero_add, Nat.reduceAdd, downVal, wideV]
      obtain ⟨r0, r1, _⟩ := R.out.at
      clear H o9 W
      go_wp2
      exact bodyPost_ret (v := .agg #[.int .i64 (hiOf (unfoldI s x)), .int .u64 (loOf (unfoldI s x))]) (by simp [results, Tryd.results11, go_sem, r0, r1]) rfl (And.intro rfl S2.out)
  · by_cases c2 : s < loOf x ∧ hiOf x < 9223372036854775807
    · have U := Lib.hid (show unfoldI s x = nearer x (eraI (hiOf x) s) (eraI (hiOf x + 1) s) from (if_neg c1).trans (if_pos c2))
      obtain ⟨c2, c3⟩ := c2
      have c1 : ¬ loOf x < s := by omega
      have T := Lib.hid (e_era (hiOf x + 1) s HS.out)
      have i1 := Lib.hid (era_in (h := hiOf x) (s := s) hh.out HS.out)
      have i2 := Lib.hid (era_in (h := hiOf x + 1) (s := s) (by have := hh.out; omega) HS.out)
      have ow : IntKind.i64.wrap (hiOf x + 1) = hiOf x + 1 := by have := hh.out; rw [IntKind.wrap_i64]; omega
      go_upto_region 6 with fail
      refine wp_region_turns_into (w.heap.size + 1) [.gives, .gives, .gives, .gives, .gives, .gives, .gives, .gives, .stores 9, .makes (some 8)] (upVal s x w.heap.size) (unfoldObj s x) (by kernel_rfl) (by kernel_rfl) (by kernel_rfl) rfl W.out.2.1 ?_ ?_
      · refine EachOp.cons (fun D own a w' I hn hd => ?_) ?_
        · have e5 : a.eval (.tmp 5) = .func (.func 28) #[] #[.pointer (some ⟨w.heap.size, 0, none⟩)] := (I.was (by kernel_rfl)).trans rfl
          have e5p : a.tmps[5]?.getD undef = .func (.func 28) #[] #[.pointer (some ⟨w.heap.size, 0, none⟩)] := by simpa [Act.eval] using e5
          exact does_value rfl rfl (by go_simp; rfl)
        refine EachOp.cons (fun D own a w' I hn hd => ?_) ?_
        · exact does_load rfl rfl 25 (.tmp 6) rfl _ ((I.was (by kernel_rfl)).trans rfl) 25 _ _ _ (I.blk W.out.2.2.1 (by have := W.out.2.2.2.1; simp; omega)) Tryd.underlying25 rfl infoW rfl
        refine EachOp.cons (fun D own a w' I hn hd => ?_) ?_
        · have e3 : a.eval (.tmp 3) = .pointer (some ⟨w.heap.size, 0, none⟩) := (I.was (by kernel_rfl)).trans rfl
          have e3p : a.tmps[3]?.getD undef = .pointer (some ⟨w.heap.size, 0, none⟩) := by simpa [Act.eval] using e3
          exact does_value rfl rfl (by go_simp; rfl)
        refine EachOp.cons (fun D own a w' I hn hd => ?_) ?_
        · have e42 : a.eval (.tmp 42) = .pointer (some ⟨w.heap.size, 0, none⟩) := I.get (i := 2) rfl (hd 2 (by kernel_rfl)) rfl rfl
          have e42p : a.tmps[42]?.getD undef = .pointer (some ⟨w.heap.size, 0, none⟩) := by simpa [Act.eval] using e42
          have cx : w'.cell? ⟨w.heap.size, 0, none⟩ = some (.int .i64 (hiOf x)) := (WideAt.at (I.blk W.out.1)).1
          exact does_value rfl rfl (by go_simp; rfl)
        refine EachOp.cons (fun D own a w' I hn hd => ?_) ?_
        · have e43 : a.eval (.tmp 43) = .int .i64 (hiOf x) := I.get (i := 3) rfl (hd 3 (by kernel_rfl)) rfl rfl
          have e43p : a.tmps[43]?.getD undef = .int .i64 (hiOf x) := by simpa [Act.eval] using e43
          exact does_value rfl rfl (by go_simp; rfl)
        refine EachOp.cons (fun D own a w' I hn hd => ?_) ?_
        · have e0 : a.eval (.tmp 0) = .int .u64 s := (I.was (by kernel_rfl)).trans rfl
          have e0p : a.tmps[0]?.getD undef = .int .u64 s := by simpa [Act.eval] using e0
          exact does_value rfl rfl (by go_simp; rfl)
        refine EachOp.cons (fun D own a w' I hn hd => ?_) ?_
        · have e44 : a.eval (.tmp 44) = .int .i64 (hiOf x + 1) := I.get (i := 4) rfl (hd 4 (by kernel_rfl)) rfl rfl
          have e45 : a.eval (.tmp 45) = .int .u64 s := I.get (i := 5) rfl (hd 5 (by kernel_rfl)) rfl rfl
          exact does_go rfl rfl rfl rfl Tryd.func29 (by kernel_rfl) (by kernel_rfl) #[.int .i64 (hiOf x + 1), .int .u64 s] (by simp [e44, e45]) (T.out w' (G.out.below (W.out.2.2.2.2.trans (I.below.mono (by first | (simp; done) | (simp; omega) | omega)))))
        refine EachOp.cons (fun D own a w' I hn hd => ?_) ?_
        · have e40 : a.eval (.tmp 40) = .func (.func 28) #[] #[.pointer (some ⟨w.heap.size, 0, none⟩)] := I.get (i := 0) rfl (hd 0 (by kernel_rfl)) rfl rfl
          have e41 : a.eval (.tmp 41) = wideV (eraI (hiOf x) s) := I.get (i := 1) rfl (hd 1 (by kernel_rfl)) rfl rfl
          have e46 : a.eval (.tmp 46) = wideV (eraI (hiOf x + 1) s) := I.get (i := 6) rfl (hd 6 (by kernel_rfl)) rfl rfl
          exact does_go rfl rfl rfl e40 Tryd.func28 (by kernel_rfl) (by kernel_rfl) #[wideV (eraI (hiOf x) s), wideV (eraI (hiOf x + 1) s), .pointer (some ⟨w.heap.size, 0, none⟩)] (by simp [e41, e46]) (by have c := nearer_call x _ _ HX.out i1.out i2.out w.heap.size w' (G.out.below (W.out.2.2.2.2.trans (I.below.mono (by first | (simp; done) | (simp; omega) | omega)))) (I.blk W.out.1); rw [← U.out] at c; exact c)
        refine EachOp.cons (fun D own a w' I hn hd => ?_) EachOp.nil
        · have o9 : D 9 = true ∧ own 9 = _ := I.there 0 _ rfl
          have e4 : a.eval (.tmp 4) = .pointer (some ⟨own 9, 0, none⟩) := by rw [o9.2]; exact (I.was (by kernel_rfl)).trans rfl
          have e47 : a.eval (.tmp 47) = wideV (unfoldI s x) := I.get (i := 7) rfl (hd 7 (by kernel_rfl)) rfl rfl
          exact does_store rfl rfl rfl 25 (.tmp 4) (.tmp 47) rfl _ e4 e47 25 _ (I.fresh o9.1 rfl hn) infoW rfl (by kernel_rfl) rfl
      · intro own w3 H
        have o9 : own 9 = w.heap.size + 1 := (H.there 0 _ rfl).2
        have R := H.made 9 rfl rfl
        rw [o9] at R
        have R := Lib.hid (show WideAt w3 (w.heap.size + 1) (unfoldI s x) from R)
        have S2 := Lib.hid (W.out.2.2.2.2.trans (H.below.mono (by first | (simp; done) | (simp; omega) | omega)))
        refine (by assumption : ∀ (a : Act) (w : World), Code.wp Tryd.prog _ _ a w → _) _ _ ?_
        simp only [putAll, Act.put, List.setIfInBounds_toArray, List.set_cons_zero, List.set_cons_succ, Nat.zero_add, Nat.reduceAdd, upVal, wideV]
        obtain ⟨r0, r1, _⟩ := R.out.at
        clear H o9 W
        go_wp2
        exact bodyPost_ret (v := .agg #[.int .i64 (hiOf (unfoldI s x)), .int .u64 (loOf (unfoldI s x))]) (by simp [results, Tryd.results11, go_sem, r0, r1]) rfl (And.intro rfl S2.out)
    · have U := Lib.hid (show unfoldI s x = eraI (hiOf x) s from (if_neg c1).trans (if_neg c2))
      have S := Lib.hid W.out.2.2.2.2
      obtain ⟨b0, b1, _⟩ := W.out.2.2.1.at
      obtain ⟨r0, r1, _⟩ := W.out.2.1.at
      have f0 := W.out.2.1.free 0
      have f1 := W.out.2.1.free 1
      rw [(ew.out _).1] at b0
      rw [(ew.out _).2] at b1
      have fin : ∀ W', Below w.heap.size w W' → (Ending.returned (.agg #[.int .i64 (hiOf x), .int .u64 s]) = Ending.returned (.agg #[.int .i64 (hiOf (unfoldI s x)), .int .u64 (loOf (unfoldI s x))])) ∧ Below w.heap.size w W' := fun W' h => ⟨by rw [U.out, (ew.out _).1, (ew.out _).2], h⟩
      have fin := Lib.hid fin
      by_cases k1 : loOf x < s
      · have k2 : ¬ -9223372036854775808 < hiOf x := fun h => c1 ⟨k1, h⟩
        have k3 : ¬ s < loOf x := by omega
        clear c1 c2 W
        go_wp2
        exact bodyPost_ret (v := .agg #[.int .i64 (hiOf x), .int .u64 s]) (by simp [results, Tryd.results11, go_sem, r0, r1]) rfl (fin.out _ (by have S := S.out; (repeat (first | (with_reducible exact Below.refl _ _) | (with_reducible assumption) | (with_reducible refine Below.drew ?_) | (with_reducible refine below_drewN ?_ _) | ((with_reducible refine Below.alloc ?_ ?_ _); rotate_left; (focus (first | (simp; done) | (simp; omega) | omega))) | ((with_reducible refine Below.setCell ?_ ?_ _); rotate_left; (focus (first | (simp; done) | (simp; omega) | omega))) | ((with_reducible refine Below.trans ?_ (Below.mono (by assumption) ?_)); rotate_left; (focus (first | (simp; done) | (simp; omega) | omega)))))))
      · by_cases k3 : s < loOf x
        · have k2 : ¬ hiOf x < 9223372036854775807 := fun h => c2 ⟨k3, h⟩
          clear c1 c2 W
          go_wp2
          exact bodyPost_ret (v := .agg #[.int .i64 (hiOf x), .int .u64 s]) (by simp [results, Tryd.results11, go_sem, r0, r1]) rfl (fin.out _ (by have S := S.out; (repeat (first | (with_reducible exact Below.refl _ _) | (with_reducible assumption) | (with_reducible refine Below.drew ?_) | (with_reducible refine below_drewN ?_ _) | ((with_reducible refine Below.alloc ?_ ?_ _); rotate_left; (focus (first | (simp; done) | (simp; omega) | omega))) | ((with_reducible refine Below.setCell ?_ ?_ _); rotate_left; (focus (first | (simp; done) | (simp; omega) | omega))) | ((with_reducible refine Below.trans ?_ (Below.mono (by assumption) ?_)); rotate_left; (focus (first | (simp; done) | (simp; omega) | omega)))))))
        · clear c1 c2 W
          go_wp2
          exact bodyPost_ret (v := .agg #[.int .i64 (hiOf x), .int .u64 s]) (by simp [results, Tryd.results11, go_sem, r0, r1]) rfl (fin.out _ (by have S := S.out; (repeat (first | (with_reducible exact Below.refl _ _) | (with_reducible assumption) | (with_reducible refine Below.drew ?_) | (with_reducible refine below_drewN ?_ _) | ((with_reducible refine Below.alloc ?_ ?_ _); rotate_left; (focus (first | (simp; done) | (simp; omega) | omega))) | ((with_reducible refine Below.setCell ?_ ?_ _); rotate_left; (focus (first | (simp; done) | (simp; omega) | omega))) | ((with_reducible refine Below.trans ?_ (Below.mono (by assumption) ?_)); rotate_left; (focus (first | (simp; done) | (simp; omega) | omega)))))))
end Go.Proofs.YtcpnlifcjdahgaaDoor
