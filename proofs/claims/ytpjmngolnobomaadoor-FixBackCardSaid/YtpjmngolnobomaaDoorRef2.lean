/-
  The document's answers for package fix: Moment, Clip, Split, may, Parts.
-/
import Derived.Test.YtpjmngolnobomaaDoorFix
import Derived.Test.YtpjmngolnobomaaDoorBoxes
import Derived.Test.YtpjmngolnobomaaDoorRefO
namespace Go.Proofs.YtpjmngolnobomaaDoor
open Go.RowKit Go.Sort
theorem may_any (d : Int) (k0 : 0 ≤ d) : Gives 39 #[.int .u64 d] (.bool (withinB 0 d)) := fun w _ => by
  by_cases a : 1 ≤ d
  · by_cases b : d ≤ 1099511627776
    · have e : withinB 0 d = true := by unfold withinB; simp; omega
      rw [e]
      clear e
      go_enter Tryd.func39, Tryd.ntmps39
      go_wp2
      go_ret
      exact ⟨rfl, by (repeat (first | exact Below.refl _ _ | assumption | (refine Below.drew ?_) | (refine Below.alloc ?_ (by first | (simp; done) | (simp; omega) | omega) _) | (refine Below.setCell ?_ (by first | (simp; done) | (simp; omega) | omega) _) | (refine Below.trans ?_ (Below.mono (by assumption) (by first | (simp; done) | (simp; omega) | omega)))))⟩
    · have e : withinB 0 d = false := by unfold withinB; simp; omega
      rw [e]
      clear e
      go_enter Tryd.func39, Tryd.ntmps39
      go_wp2
      go_ret
      exact ⟨rfl, by (repeat (first | exact Below.refl _ _ | assumption | (refine Below.drew ?_) | (refine Below.alloc ?_ (by first | (simp; done) | (simp; omega) | omega) _) | (refine Below.setCell ?_ (by first | (simp; done) | (simp; omega) | omega) _) | (refine Below.trans ?_ (Below.mono (by assumption) (by first | (simp; done) | (simp; omega) | omega)))))⟩
  · obtain rfl : d = 0 := by omega
    go_enter Tryd.func39, Tryd.ntmps39
    go_wp2
    go_ret
    exact ⟨rfl, by (repeat (first | exact Below.refl _ _ | assumption | (refine Below.drew ?_) | (refine Below.alloc ?_ (by first | (simp; done) | (simp; omega) | omega) _) | (refine Below.setCell ?_ (by first | (simp; done) | (simp; omega) | omega) _) | (refine Below.trans ?_ (Below.mono (by assumption) (by first | (simp; done) | (simp; omega) | omega)))))⟩
theorem vz_scaled (s k : Int) : vz (pair0 s) (absN s * k) = s * k := by
  unfold vz pair0 absN
  by_cases h : s < 0 <;> simp [h, Int.neg_mul]
set_option maxHeartbeats 1000000 in
theorem r2_moment (s f : Int) (hs : -9223372036854775808 ≤ s ∧ s ≤ 9223372036854775807) (hf : 0 ≤ f ∧ f ≤ 4294967295) :
    Gives 12 #[.int .i64 s, .int .u32 f] (.agg #[.int .i64 (hiOf (s * 4294967296 + f)), .int .u64 (loOf (s * 4294967296 + f))]) := fun w hg => by
  have ab := absN_bd hs
  have O := Lib.hid (r_of s hs)
  have N1 := Lib.hid (r_num 4294967296 (by omega) (by omega))
  have M := Lib.hid ((r_mul (pair0 s) false (absN s) 4294967296 ⟨ab.1, by omega⟩ ⟨by omega, by omega⟩ (by omega)).as rfl (v' := .agg (numC (pair0 s) (dig (absN s * 4294967296)))) (by simp))
  have N2 := Lib.hid (r_num f hf.1 (by omega))
  have A := Lib.hid (r_add (pair0 s) false (absN s * 4294967296) f ⟨by omega, by omega⟩ ⟨hf.1, by omega⟩)
  have bd := addM_bd (b := pair0 s) (c := false) (m := absN s * 4294967296) (n := f) (by omega) hf.1
  have V := add_vz (pair0 s) false (absN s * 4294967296) f
  rw [vz_scaled s 4294967296, show vz false f = f from rfl] at V
  have X := Lib.hid ((r_wide (addS (pair0 s) false (absN s * 4294967296) f) (addM (pair0 s) false (absN s * 4294967296) f) (s * 4294967296 + f) ⟨bd.1, by omega⟩ V).as rfl (v' := .agg #[.int .i64 (hiOf (s * 4294967296 + f)), .int .u64 (loOf (s * 4294967296 + f))]) (by rw [sat_id (by unfold In; omega)]))
  have cv : IntKind.u64.wrap f = f := by rw [IntKind.wrap_u64]; omega
  have G := Lib.hid hg
  clear hg ab bd V hs hf
  go_enter Tryd.func12, Tryd.ntmps12
  go_wp2_with fail
  refine (O.out _ (G.out.below (by (repeat (first | exact Below.refl _ _ | assumption | (refine Below.drew ?_) | (refine Below.alloc ?_ (by first | (simp; done) | (simp; omega) | omega) _) | (refine Below.setCell ?_ (by first | (simp; done) | (simp; omega) | omega) _) | (refine Below.trans ?_ (Below.mono (by assumption) (by first | (simp; done) | (simp; omega) | omega)))))))).mono ?_
  rintro e w1 ⟨rfl, hb⟩
  (obtain ⟨hc, hf⟩ := bcell hb; have sz := hb.size; simp at sz; have c0 := hc w.heap.size 0 (by first | (simp; done) | (simp; omega) | omega); have c1 := hc w.heap.size 1 (by first | (simp; done) | (simp; omega) | omega); have f0 := hf w.heap.size 0 (by first | (simp; done) | (simp; omega) | omega); have f1 := hf w.heap.size 1 (by first | (simp; done) | (simp; omega) | omega))
  go_wp2_with fail
  refine (N1.out _ ((G.out.below (show Below w.heap.size w _ by (repeat (first | exact Below.refl _ _ | assumption | (refine Below.drew ?_) | (refine Below.alloc ?_ (by first | (simp; done) | (simp; omega) | omega) _) | (refine Below.setCell ?_ (by first | (simp; done) | (simp; omega) | omega) _) | (refine Below.trans ?_ (Below.mono (by assumption) (by first | (simp; done) | (simp; omega) | omega))))))).below hb)).mono ?_
  rintro e w2 ⟨rfl, hb2⟩
  (replace hb := hb.trans (hb2.mono hb.size); clear hb2; try clear sz; try clear c0; try clear c1; try clear f0; try clear f1; try clear hc; try clear hf; (obtain ⟨hc, hf⟩ := bcell hb; have sz := hb.size; simp at sz; have c0 := hc w.heap.size 0 (by first | (simp; done) | (simp; omega) | omega); have c1 := hc w.heap.size 1 (by first | (simp; done) | (simp; omega) | omega); have f0 := hf w.heap.size 0 (by first | (simp; done) | (simp; omega) | omega); have f1 := hf w.heap.size 1 (by first | (simp; done) | (simp; omega) | omega)))
  go_wp2_with fail
  refine (M.out _ ((G.out.below (show Below w.heap.size w _ by (repeat (first | exact Below.refl _ _ | assumption | (refine Below.drew ?_) | (refine Below.alloc ?_ (by first | (simp; done) | (simp; omega) | omega) _) | (refine Below.setCell ?_ (by first | (simp; done) | (simp; omega) | omega) _) | (refine Below.trans ?_ (Below.mono (by assumption) (by first | (simp; done) | (simp; omega) | omega))))))).below hb)).mono ?_
  rintro e w2 ⟨rfl, hb2⟩
  (replace hb := hb.trans (hb2.mono hb.size); clear hb2; try clear sz; try clear c0; try clear c1; try clear f0; try clear f1; try clear hc; try clear hf; (obtain ⟨hc, hf⟩ := bcell hb; have sz := hb.size; simp at sz; have c0 := hc w.heap.size 0 (by first | (simp; done) | (simp; omega) | omega); have c1 := hc w.heap.size 1 (by first | (simp; done) | (simp; omega) | omega); have f0 := hf w.heap.size 0 (by first | (simp; done) | (simp; omega) | omega); have f1 := hf w.heap.size 1 (by first | (simp; done) | (simp; omega) | omega)))
  go_wp2_with fail
  refine (N2.out _ ((G.out.below (show Below w.heap.size w _ by (repeat (first | exact Below.refl _ _ | assumption | (refine Below.drew ?_) | (refine Below.alloc ?_ (by first | (simp; done) | (simp; omega) | omega) _) | (refine Below.setCell ?_ (by first | (simp; done) | (simp; omega) | omega) _) | (refine Below.trans ?_ (Below.mono (by assumption) (by first | (simp; done) | (simp; omega) | omega))))))).below hb)).mono ?_
  rintro e w2 ⟨rfl, hb2⟩
  (replace hb := hb.trans (hb2.mono hb.size); clear hb2; try clear sz; try clear c0; try clear c1; try clear f0; try clear f1; try clear hc; try clear hf; (obtain ⟨hc, hf⟩ := bcell hb; have sz := hb.size; simp at sz; have c0 := hc w.heap.size 0 (by first | (simp; done) | (simp; omega) | omega); have c1 := hc w.heap.size 1 (by first | (simp; done) | (simp; omega) | omega); have f0 := hf w.heap.size 0 (by first | (simp; done) | (simp; omega) | omega); have f1 := hf w.heap.size 1 (by first | (simp; done) | (simp; omega) | omega)))
  go_wp2_with fail
  refine (A.out _ ((G.out.below (show Below w.heap.size w _ by (repeat (first | exact Below.refl _ _ | assumption | (refine Below.drew ?_) | (refine Below.alloc ?_ (by first | (simp; done) | (simp; omega) | omega) _) | (refine Below.setCell ?_ (by first | (simp; done) | (simp; omega) | omega) _) | (refine Below.trans ?_ (Below.mono (by assumption) (by first | (simp; done) | (simp; omega) | omega))))))).below hb)).mono ?_
  rintro e w2 ⟨rfl, hb2⟩
  (replace hb := hb.trans (hb2.mono hb.size); clear hb2; try clear sz; try clear c0; try clear c1; try clear f0; try clear f1; try clear hc; try clear hf; (obtain ⟨hc, hf⟩ := bcell hb; have sz := hb.size; simp at sz; have c0 := hc w.heap.size 0 (by first | (simp; done) | (simp; omega) | omega); have c1 := hc w.heap.size 1 (by first | (simp; done) | (simp; omega) | omega); have f0 := hf w.heap.size 0 (by first | (simp; done) | (simp; omega) | omega); have f1 := hf w.heap.size 1 (by first | (simp; done) | (simp; omega) | omega)))
  go_wp2_with fail
  refine (X.out _ ((G.out.below (show Below w.heap.size w _ by (repeat (first | exact Below.refl _ _ | assumption | (refine Below.drew ?_) | (refine Below.alloc ?_ (by first | (simp; done) | (simp; omega) | omega) _) | (refine Below.setCell ?_ (by first | (simp; done) | (simp; omega) | omega) _) | (refine Below.trans ?_ (Below.mono (by assumption) (by first | (simp; done) | (simp; omega) | omega))))))).below hb)).mono ?_
  rintro e w2 ⟨rfl, hb2⟩
  (replace hb := hb.trans (hb2.mono hb.size); clear hb2; try clear sz; try clear c0; try clear c1; try clear f0; try clear f1; try clear hc; try clear hf; (obtain ⟨hc, hf⟩ := bcell hb; have sz := hb.size; simp at sz; have c0 := hc w.heap.size 0 (by first | (simp; done) | (simp; omega) | omega); have c1 := hc w.heap.size 1 (by first | (simp; done) | (simp; omega) | omega); have f0 := hf w.heap.size 0 (by first | (simp; done) | (simp; omega) | omega); have f1 := hf w.heap.size 1 (by first | (simp; done) | (simp; omega) | omega)))
  go_wp2
  exact bodyPost_ret (v := .agg #[.int .i64 (hiOf (s * 4294967296 + f)), .int .u64 (loOf (s * 4294967296 + f))]) (by simp [results, Tryd.results12, go_sem, c0, c1]) rfl (And.intro rfl (by (repeat (first | exact Below.refl _ _ | assumption | (refine Below.drew ?_) | (refine Below.alloc ?_ (by first | (simp; done) | (simp; omega) | omega) _) | (refine Below.setCell ?_ (by first | (simp; done) | (simp; omega) | omega) _) | (refine Below.trans ?_ (Below.mono (by assumption) (by first | (simp; done) | (simp; omega) | omega)))))))
theorem i64_lo {x : Int} (h : -9223372036854775808 ≤ x ∧ x ≤ 9223372036854775807) : IntKind.i64.wrap (loOf x) = x := by rw [IntKind.wrap_i64]; unfold loOf; omega
/-- A number of 128 bits in a box, and as the document's number in another. -/
def BoxedN (w : World) (x : Int) (p : Nat) (b : Bool) (m : Int) (W' : World) : Prop := WideAt W' w.heap.size x ∧ NumAt W' p b (dig m) ∧ Below w.heap.size w W'
def Boxed (w : World) (x : Int) (p : Nat) (W' : World) : Prop := BoxedN w x p (pair0 x) (absN x) W'
theorem WideAt.row {w : World} {b : Nat} {x : Int} (h : WideAt w b x) {g : Nat} (hn : b ≠ g) (cs : Array Value) : WideAt (w.setRow g cs) b x := (heap_setRow w g b cs hn).trans h
theorem BoxedN.on {w w1 w2 : World} {x m : Int} {p : Nat} {b : Bool} (h : BoxedN w x p b m w1) (hb : Below w1.heap.size w1 w2) : BoxedN w x p b m w2 := ⟨h.1.on hb, h.2.1.on hb, h.2.2.trans (hb.mono h.2.2.size)⟩
theorem BoxedN.of {w w1 : World} {x m : Int} {c : Bool} (h : WideAt w1 w.heap.size x) (s : Below w.heap.size w w1) (b : Bool) (f : Nat → Int) : BoxedN w x w1.heap.size c m (((w1.alloc (.cells (numC b f) 50)).setRow w1.heap.size (numC c (dig m)))) := by
  have lt := h.at.2.2
  exact ⟨(h.on (below_alloc _ _)).row (by omega) _, (NumAt.new w1 b f rfl).whole, Below.setRow' (s.trans ((below_alloc _ _).mono s.size)) s.size _⟩
theorem sgn_pos (a b : Int) : decide (0 < sgn a b) = decide (b < a) := by
  unfold sgn; congr 1; (repeat' split) <;> simp <;> omega
theorem sgn_neg (a b : Int) : decide (sgn a b < 0) = decide (a < b) := by
  unfold sgn; congr 1; (repeat' split) <;> simp <;> omega
set_option maxHeartbeats 2000000 in
theorem r2_clip (x : Int) (hx : In x) : Gives 32 #[(.agg #[.int .i64 (hiOf x), .int .u64 (loOf x)])] (.int .i64 (clip x)) := fun w hg => by
  have ax := absN_wide hx
  have G := Lib.hid hg
  have F := Lib.hid (r_from x hx)
  have O1 := Lib.hid ((r_of 9223372036854775807 (by omega)).as rfl (v' := .agg (numC false (dig 9223372036854775807))) rfl)
  have O2 := Lib.hid ((r_of (-9223372036854775808) (by omega)).as rfl (v' := .agg (numC true (dig 9223372036854775808))) rfl)
  have C1 := Lib.hid (r_cmp (pair0 x) false (absN x) 9223372036854775807 x 9223372036854775807 ⟨ax.1, by omega⟩ ⟨by omega, by omega⟩ (vz_pair x) rfl)
  have C2 := Lib.hid (r_cmp (pair0 x) true (absN x) 9223372036854775808 x (-9223372036854775808) ⟨ax.1, by omega⟩ ⟨by omega, by omega⟩ (vz_pair x) rfl)
  have W0 : Hid (WideAt (w.alloc (.cells #[.int .i64 (hiOf x), .int .u64 (loOf x)] 25)) w.heap.size x ∧ Below w.heap.size w (w.alloc (.cells #[.int .i64 (hiOf x), .int .u64 (loOf x)] 25))) := Lib.hid ⟨row_new _ _ rfl, by (repeat (first | (with_reducible exact Below.refl _ _) | (with_reducible assumption) | (with_reducible refine Below.drew ?_) | (with_reducible refine below_drewN ?_ _) | ((with_reducible refine Below.alloc ?_ ?_ _); rotate_left; (focus (first | (simp; done) | (simp; omega) | omega))) | ((with_reducible refine Below.setCell ?_ ?_ _); rotate_left; (focus (first | (simp; done) | (simp; omega) | omega))) | ((with_reducible refine Below.trans ?_ (Below.mono (by assumption) ?_)); rotate_left; (focus (first | (simp; done) | (simp; omega) | omega)))))⟩
  clear hg ax hx
  go_enter Tryd.func32, Tryd.ntmps32
  go_upto_region 1 with fail
  generalize w.alloc (.cells #[.int .i64 (hiOf x), .int .u64 (loOf x)] 25) = w0 at *
  go_cut [3] from 6 to 8 (fun v wr => ∃ p, v = .pointer (some ⟨p, 0, none⟩) ∧ Boxed w x p wr)
  case first =>
    obtain ⟨a0, a1, _⟩ := W0.out.1.at
    go_wp2_with (first
      | (go_at_call 30; refine (F.out _ (G.out.below W0.out.2)).mono ?_; rintro e w1 ⟨rfl, hb⟩; have W1 := Lib.hid (W0.out.1.on hb); have S1 := Lib.hid (W0.out.2.trans (hb.mono W0.out.2.size)); clear hb)
      | (refine store_num rfl (.tmp 3) (.tmp 7) rfl w1.heap.size rfl _ _ rfl false (fun _ => 0) (NumAt.new w1 false (fun _ => 0) rfl) ?_))
    go_meet
    exact ⟨w1.heap.size, rfl, BoxedN.of W1.out S1.out false (fun _ => 0)⟩
  case rest =>
  obtain ⟨p, rfl, hB⟩ := hcut
  obtain ⟨w1, rfl⟩ : ∃ v : World, v = wc := ⟨_, rfl⟩
  have B1 := Lib.hid hB
  have G1 := Lib.hid (G.out.below hB.2.2)
  clear hB W0 G
  obtain ⟨z1, Z1⟩ : ∃ z, z = sgn x 9223372036854775807 := ⟨_, rfl⟩
  obtain ⟨z2, Z2⟩ : ∃ z, z = sgn x (-9223372036854775808) := ⟨_, rfl⟩
  have D1 := Lib.hid (sgn_pos x 9223372036854775807)
  have D2 := Lib.hid (sgn_neg x (-9223372036854775808))
  rw [← Z1] at C1 D1
  rw [← Z2] at C2 D2
  clear Z1 Z2
  by_cases h1 : 9223372036854775807 < x
  · have k1 : decide (0 < z1) = true := by rw [D1.out]; simpa using h1
    have E := Lib.hid (show clip x = 9223372036854775807 by unfold clip; rw [if_neg (by omega), if_pos h1])
    clear h1 D1 D2
    go_upto_region 3 with fail
    refine wp_region_quiet_below (by kernel_rfl) (by kernel_rfl) ?_
    repeat (first
      | ((refine quiet_load_num (.tmp 3) rfl rfl p rfl _ _ B1.out.2.1.regrown ?_); (try simp only [Act.put, List.setIfInBounds_toArray, List.set_cons_zero, List.set_cons_succ]))
      | (go_big_quiet_step (first | (with_reducible exact (O1.out.quiet G1.out _ _)) | (with_reducible exact (C1.out.quiet G1.out _ _)))))
    (refine wpQuiet_nil ?_; intro _ hw'; obtain ⟨⟨dq, osq⟩, hw''⟩ := hw'; subst hw'')
    go_wp2
    go_ret
    exact ⟨by rw [E.out]; rfl, B1.out.2.2.trans ((below_quiet dq osq).mono B1.out.2.2.size)⟩
  · have k1 : decide (0 < z1) = false := by rw [D1.out]; simpa using h1
    have h1' := Lib.hid h1
    clear h1 D1
    go_upto_region 3 with fail
    refine wp_region_quiet_below (by kernel_rfl) (by kernel_rfl) ?_
    repeat (first
      | ((refine quiet_load_num (.tmp 3) rfl rfl p rfl _ _ B1.out.2.1.regrown ?_); (try simp only [Act.put, List.setIfInBounds_toArray, List.set_cons_zero, List.set_cons_succ]))
      | (go_big_quiet_step (first | (with_reducible exact (O1.out.quiet G1.out _ _)) | (with_reducible exact (C1.out.quiet G1.out _ _)))))
    (refine wpQuiet_nil ?_; intro _ hw'; obtain ⟨⟨dq, osq⟩, hw''⟩ := hw'; subst hw'')
    have B2 := Lib.hid (show Boxed w x p _ from ⟨B1.out.1.on (below_quiet dq osq), B1.out.2.1.on (below_quiet dq osq), B1.out.2.2.trans ((below_quiet dq osq).mono B1.out.2.2.size)⟩)
    have G2 := Lib.hid (G1.out.below (below_quiet dq osq))
    generalize grow (redrawn w1 dq) osq = w2 at *
    clear k1 C1 O1 G1 B1
    by_cases h2 : x < -9223372036854775808
    · have k2 : decide (z2 < 0) = true := by rw [D2.out]; simpa using h2
      have E := Lib.hid (show clip x = -9223372036854775808 by unfold clip; rw [if_pos h2])
      clear h2 D2
      go_upto_region 5 with fail
      refine wp_region_quiet_below (by kernel_rfl) (by kernel_rfl) ?_
      repeat (first
        | ((refine quiet_load_num (.tmp 3) rfl rfl p rfl _ _ B2.out.2.1.regrown ?_); (try simp only [Act.put, List.setIfInBounds_toArray, List.set_cons_zero, List.set_cons_succ]))
        | (go_big_quiet_step (first | (with_reducible exact (O2.out.quiet G2.out _ _)) | (with_reducible exact (C2.out.quiet G2.out _ _)))))
      (refine wpQuiet_nil ?_; intro _ hw'; obtain ⟨⟨dq, osq⟩, hw''⟩ := hw'; subst hw'')
      go_wp2
      go_ret
      exact ⟨by rw [E.out]; rfl, B2.out.2.2.trans ((below_quiet dq osq).mono B2.out.2.2.size)⟩
    · have k2 : decide (z2 < 0) = false := by rw [D2.out]; simpa using h2
      have E := Lib.hid (show clip x = x by unfold clip; rw [if_neg h2, if_neg h1'.out])
      have L := i64_lo (x := x) (by have := h1'.out; omega)
      clear h2 D2
      go_upto_region 5 with fail
      refine wp_region_quiet_below (by kernel_rfl) (by kernel_rfl) ?_
      repeat (first
        | ((refine quiet_load_num (.tmp 3) rfl rfl p rfl _ _ B2.out.2.1.regrown ?_); (try simp only [Act.put, List.setIfInBounds_toArray, List.set_cons_zero, List.set_cons_succ]))
        | (go_big_quiet_step (first | (with_reducible exact (O2.out.quiet G2.out _ _)) | (with_reducible exact (C2.out.quiet G2.out _ _)))))
      (refine wpQuiet_nil ?_; intro _ hw'; obtain ⟨⟨dq, osq⟩, hw''⟩ := hw'; subst hw'')
      obtain ⟨a0, a1⟩ := B2.out.1.at.q
      go_wp2
      go_ret
      exact ⟨by rw [E.out]; rfl, B2.out.2.2.trans ((below_quiet dq osq).mono B2.out.2.2.size)⟩
set_option maxHeartbeats 2000000 in
theorem r2_split (x : Int) (hx : In x) : Gives 10 #[(.agg #[.int .i64 (hiOf x), .int .u64 (loOf x)])] (.tuple #[.int .i64 (clip (x / 4294967296)), .int .u32 (x % 4294967296)]) := fun w hg => by
  have s3 := fl_bd hx (show (0 : Int) < 4294967296 by omega)
  have iq := div_in' hx (show (0 : Int) < 4294967296 by omega)
  have G := Lib.hid hg
  have F := Lib.hid (r_from x hx)
  have N1 := Lib.hid (r_num 4294967296 (by omega) (by omega))
  have FL := Lib.hid (r_floor x 4294967296 hx ⟨by omega, by omega⟩)
  have X := Lib.hid ((r_wide (pair0 x) (fl x 4294967296) (x / 4294967296) ⟨s3.1, by omega⟩ s3.2.2).as rfl (v' := .agg #[.int .i64 (hiOf (x / 4294967296)), .int .u64 (loOf (x / 4294967296))]) (by rw [sat_id iq]))
  have C := Lib.hid (r2_clip (x / 4294967296) iq)
  have lb := lo_bd x
  have c0 : 0 ≤ loOf x % 4294967296 := by omega
  have c1 : IntKind.u32.wrap (loOf x % 4294967296) = x % 4294967296 := by rw [IntKind.wrap_u32]; unfold loOf; omega
  have c2 : (loOf x).tmod 4294967296 = loOf x % 4294967296 := Int.tmod_eq_emod_of_nonneg lb.1
  have W0 : Hid (WideAt (w.alloc (.cells #[.int .i64 (hiOf x), .int .u64 (loOf x)] 25)) w.heap.size x ∧ Below w.heap.size w (w.alloc (.cells #[.int .i64 (hiOf x), .int .u64 (loOf x)] 25))) := Lib.hid ⟨row_new _ _ rfl, by (repeat (first | (with_reducible exact Below.refl _ _) | (with_reducible assumption) | (with_reducible refine Below.drew ?_) | (with_reducible refine below_drewN ?_ _) | ((with_reducible refine Below.alloc ?_ ?_ _); rotate_left; (focus (first | (simp; done) | (simp; omega) | omega))) | ((with_reducible refine Below.setCell ?_ ?_ _); rotate_left; (focus (first | (simp; done) | (simp; omega) | omega))) | ((with_reducible refine Below.trans ?_ (Below.mono (by assumption) ?_)); rotate_left; (focus (first | (simp; done) | (simp; omega) | omega)))))⟩
  have lb0 := lb.1
  have lb1 := lb.2
  clear hg hx s3 iq lb
  go_enter Tryd.func10, Tryd.ntmps10
  go_upto_region 1 with fail
  generalize w.alloc (.cells #[.int .i64 (hiOf x), .int .u64 (loOf x)] 25) = w0 at *
  go_cut [4] from 5 to 9 (fun v wr => ∃ p, v = .pointer (some ⟨p, 0, none⟩) ∧ BoxedN w x p (pair0 x) (fl x 4294967296) wr)
  case first =>
    obtain ⟨a0, a1, _⟩ := W0.out.1.at
    go_wp2_with (first
      | (go_at_call 30; refine (F.out _ (G.out.below W0.out.2)).mono ?_; rintro e w1 ⟨rfl, hb⟩; have W1 := Lib.hid (W0.out.1.on hb); have S1 := Lib.hid (W0.out.2.trans (hb.mono W0.out.2.size)); clear hb)
      | (go_at_call 31; refine (N1.out _ (G.out.below S1.out)).mono ?_; rintro e w2 ⟨rfl, hb⟩; have W2 := Lib.hid (W1.out.on hb); have S2 := Lib.hid (S1.out.trans (hb.mono S1.out.size)); clear hb)
      | (go_at_call 29; refine (FL.out _ (G.out.below S2.out)).mono ?_; rintro e w3 ⟨rfl, hb⟩; have W3 := Lib.hid (W2.out.on hb); have S3 := Lib.hid (S2.out.trans (hb.mono S2.out.size)); clear hb)
      | (refine store_num rfl (.tmp 4) (.tmp 8) rfl w3.heap.size rfl _ _ rfl false (fun _ => 0) (NumAt.new w3 false (fun _ => 0) rfl) ?_))
    go_meet
    exact ⟨w3.heap.size, rfl, BoxedN.of W3.out S3.out false (fun _ => 0)⟩
  case rest =>
  obtain ⟨p, rfl, hB⟩ := hcut
  obtain ⟨w1, rfl⟩ : ∃ v : World, v = wc := ⟨_, rfl⟩
  have B1 := Lib.hid hB
  have G1 := Lib.hid (G.out.below hB.2.2)
  clear hB W0 G
  obtain ⟨a0, a1⟩ := B1.out.1.at.q
  go_upto_region 2 with fail
  refine wp_region_quiet_below (by kernel_rfl) (by kernel_rfl) ?_
  repeat (first
    | ((refine quiet_load_num (.tmp 4) rfl rfl p rfl _ _ B1.out.2.1.regrown ?_); (try simp only [Act.put, List.setIfInBounds_toArray, List.set_cons_zero, List.set_cons_succ]))
    | (go_big_quiet_step (first | (with_reducible exact (X.out.quiet G1.out _ _)) | (with_reducible exact (C.out.quiet G1.out _ _)))))
  (refine wpQuiet_nil ?_; intro _ hw'; obtain ⟨⟨dq, osq⟩, hw''⟩ := hw'; subst hw'')
  go_wp2
  go_ret2
  exact ⟨rfl, B1.out.2.2.trans ((below_quiet dq osq).mono B1.out.2.2.size)⟩
end Go.Proofs.YtpjmngolnobomaaDoor
