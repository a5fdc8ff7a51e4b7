/-
  The statements' own 'known': the chapter's rows hold.
-/
import Derived.Test.YtleccjahkphocaaDoorScale
import Derived.Test.YtleccjahkphocaaDoorAdd
import Derived.Test.YtleccjahkphocaaDoorDiv
import Derived.Test.YtleccjahkphocaaDoorRoot
import Derived.Lib.QuietBelow
namespace Go.Proofs.YtleccjahkphocaaDoor
open Go.RowKit Go.Sort
/-- What a call answers, in whatever later world. -/
def Gives (f : FuncId) (args : Array Value) (v : Value) : Prop := ∀ w, Glob w → Calls Tryd.prog f args w fun e w' => e = .returned v ∧ Below w.heap.size w w'
theorem Gives.as {f : FuncId} {args args' : Array Value} {v v' : Value} (h : Gives f args v) (ha : args = args') (hv : v = v') : Gives f args' v' := by subst ha hv; exact h
theorem Glob.regrown {w : World} (h : Glob w) (d : Nat) (os : Array Obj) : Glob (grow (redrawn w d) os) := h.below (below_regrown w d os)
/-- .. met in a region that draws its order. -/
theorem Gives.quiet {f : FuncId} {args : Array Value} {v : Value} (h : Gives f args v) {w : World} (hg : Glob w) (d : Nat) (os : Array Obj) :
    Calls Tryd.prog f args (grow (redrawn w d) os) fun e w'' => e = .returned v ∧ ∃ p : Regrown, w'' = grow (redrawn w p.d) p.os :=
  Calls.regrown_of (h _ (hg.regrown d os))
theorem g_of (n : Int) (h : -9223372036854775808 ≤ n ∧ n ≤ 9223372036854775807) : Gives 10 #[.int .i64 n] (.agg #[.int .i64 (hiOf n), .int .u64 (loOf n)]) := fun w _ => of_any n h w
theorem g_add (x y : Int) (hx : In x) (hy : In y) : Gives 13 #[.agg #[.int .i64 (hiOf x), .int .u64 (loOf x)], .agg #[.int .i64 (hiOf y), .int .u64 (loOf y)]] (.agg #[.int .i64 (hiOf (sat (x + y))), .int .u64 (loOf (sat (x + y)))]) := fun w hg => add_any x y hx hy w hg
theorem g_sub (x y : Int) (hx : In x) (hy : In y) : Gives 15 #[.agg #[.int .i64 (hiOf x), .int .u64 (loOf x)], .agg #[.int .i64 (hiOf y), .int .u64 (loOf y)]] (.agg #[.int .i64 (hiOf (sat (x - y))), .int .u64 (loOf (sat (x - y)))]) := fun w hg => sub_any x y hx hy w hg
theorem g_neg (x : Int) (hx : In x) : Gives 17 #[.agg #[.int .i64 (hiOf x), .int .u64 (loOf x)]] (.agg #[.int .i64 (hiOf (sat (-x))), .int .u64 (loOf (sat (-x)))]) := fun w hg => neg_any x hx w hg
theorem g_abs (x : Int) (hx : In x) : Gives 18 #[.agg #[.int .i64 (hiOf x), .int .u64 (loOf x)]] (.agg #[.int .i64 (hiOf (sat (if x < 0 then -x else x))), .int .u64 (loOf (sat (if x < 0 then -x else x)))]) := fun w hg => abs_any x hx w hg
theorem g_cmp (x y : Int) : Gives 19 #[.agg #[.int .i64 (hiOf x), .int .u64 (loOf x)], .agg #[.int .i64 (hiOf y), .int .u64 (loOf y)]] (.int .i64 (sgn x y)) := fun w _ => cmp_any x y w
theorem g_half (x : Int) : Gives 25 #[.agg #[.int .i64 (hiOf x), .int .u64 (loOf x)]] (.agg #[.int .i64 (hiOf (x / 2)), .int .u64 (loOf (x / 2))]) := fun w _ => half_any x w
theorem g_mul (a b : Int) (ha : -9223372036854775808 ≤ a ∧ a ≤ 9223372036854775807) (hb : -9223372036854775808 ≤ b ∧ b ≤ 9223372036854775807) : Gives 21 #[.int .i64 a, .int .i64 b] (.agg #[.int .i64 (hiOf (sat (a * b))), .int .u64 (loOf (sat (a * b)))]) := fun w hg => wmul_any a b ha hb w hg
theorem g_scale (x n : Int) (hx : In x) (hn : 0 ≤ n ∧ n ≤ 4294967295) : Gives 23 #[.agg #[.int .i64 (hiOf x), .int .u64 (loOf x)], .int .u32 n] (.agg #[.int .i64 (hiOf (sat (x * n))), .int .u64 (loOf (sat (x * n)))]) := fun w hg => scale_any x n hx hn w hg
theorem g_div (x n : Int) (hx : In x) (hn : Word n) (h0 : 0 < n) : Gives 27 #[.agg #[.int .i64 (hiOf x), .int .u64 (loOf x)], .int .u64 n] (.tuple #[.agg #[.int .i64 (hiOf (x / n)), .int .u64 (loOf (x / n))], .int .u64 (x % n), .bool true]) := fun w _ => wdiv_any x n hx hn h0 w
theorem g_div0 (x : Int) : Gives 27 #[.agg #[.int .i64 (hiOf x), .int .u64 (loOf x)], .int .u64 0] (.tuple #[.agg #[.int .i64 0, .int .u64 0], .int .u64 0, .bool false]) := fun w _ => wdiv_zero x w
theorem g_clip (x : Int) (hx : In x) : Gives 28 #[.agg #[.int .i64 (hiOf x), .int .u64 (loOf x)]] (.int .i64 (clip x)) := fun w _ => clip_any x hx w
theorem g_root (x r : Int) (hx : In x) (h : IsRoot x r) : Gives 30 #[.agg #[.int .i64 (hiOf x), .int .u64 (loOf x)]] (.int .u64 r) := fun w _ =>
  (root_any x hx (by obtain ⟨a, _, b, _⟩ := h; have := Int.mul_nonneg a a; omega) w).mono fun _ _ ⟨s, hs, he, hb⟩ => ⟨by rw [he, h.one hs], hb⟩
theorem g_root_neg (x : Int) (h : x < 0) : Gives 30 #[.agg #[.int .i64 (hiOf x), .int .u64 (loOf x)]] (.int .u64 0) := fun w _ => root_neg x h w

/-- A variable that holds the number x, in block b. -/
def At (w : World) (b : Nat) (x : Int) : Prop := w.cell? ⟨b, 0, none⟩ = some (.int .i64 (hiOf x)) ∧ w.cell? ⟨b, 1, none⟩ = some (.int .u64 (loOf x)) ∧ b < w.heap.size
theorem At.below {w w' : World} {b : Nat} {x : Int} (h : At w b x) (hb : Below w.heap.size w w') : At w' b x :=
  ⟨by rw [hb.cell (by exact h.2.2)]; exact h.1, by rw [hb.cell (by exact h.2.2)]; exact h.2.1, by have := hb.size; have := h.2.2; omega⟩
theorem below_alloc (w : World) (o : Obj) : Below w.heap.size w (w.alloc o) := (Below.refl _ _).alloc (Nat.le_refl _) o
theorem At.alloc {w : World} {b : Nat} {x : Int} (h : At w b x) (o : Obj) : At (w.alloc o) b x := h.below (below_alloc w o)
theorem At.new (w : World) (x : Int) (t : TypeId) {b : Nat} (hb : b = w.heap.size) {v0 v1 : Value} (h0 : v0 = .int .i64 (hiOf x)) (h1 : v1 = .int .u64 (loOf x)) : At (w.alloc (.cells #[v0, v1] t)) b x := by
  subst hb h0 h1
  exact ⟨World.cell?_alloc_at _ _ _ _ rfl, World.cell?_alloc_at _ _ _ _ rfl, by simp⟩
set_option maxHeartbeats 4000000 in
theorem known_any (w : World) (hg : Glob w) : Calls Tryd.prog 8 #[] w fun e w' => e = .returned (.bool true) ∧ Below w.heap.size w w' := by
  have o7 := Lib.hid ((g_of (-7) (by omega)).as rfl (v' := .agg #[.int .i64 (-1), .int .u64 18446744073709551609]) rfl)
  have p7 := Lib.hid ((g_of 7 (by omega)).as rfl (v' := .agg #[.int .i64 0, .int .u64 7]) rfl)
  have d7 := Lib.hid ((g_div (-7) 2 (by unfold In; omega) ⟨by omega, by omega⟩ (by omega)).as (args' := #[.agg #[.int .i64 (-1), .int .u64 18446744073709551609], .int .u64 2]) rfl (v' := .tuple #[.agg #[.int .i64 (-1), .int .u64 18446744073709551612], .int .u64 1, .bool true]) rfl)
  have e7 := Lib.hid ((g_div0 7).as (args' := #[.agg #[.int .i64 0, .int .u64 7], .int .u64 0]) rfl rfl)
  have o1 := Lib.hid ((g_of 1 (by omega)).as rfl (v' := .agg #[.int .i64 0, .int .u64 1]) rfl)
  have o2 := Lib.hid ((g_of (-2) (by omega)).as rfl (v' := .agg #[.int .i64 (-1), .int .u64 18446744073709551614]) rfl)
  have o3 := Lib.hid ((g_of (-3) (by omega)).as rfl (v' := .agg #[.int .i64 (-1), .int .u64 18446744073709551613]) rfl)
  have o4 := Lib.hid ((g_of (-4) (by omega)).as rfl (v' := .agg #[.int .i64 (-1), .int .u64 18446744073709551612]) rfl)
  have o24 := Lib.hid ((g_of 24 (by omega)).as rfl (v' := .agg #[.int .i64 0, .int .u64 24]) rfl)
  have o25 := Lib.hid ((g_of 25 (by omega)).as rfl (v' := .agg #[.int .i64 0, .int .u64 25]) rfl)
  have a1 := Lib.hid ((g_add maxW 1 (by unfold In maxW; omega) (by unfold In; omega)).as (args' := #[.agg #[.int .i64 9223372036854775807, .int .u64 18446744073709551615], .agg #[.int .i64 0, .int .u64 1]]) rfl (v' := .agg #[.int .i64 9223372036854775807, .int .u64 18446744073709551615]) rfl)
  have n1 := Lib.hid ((g_neg minW (by unfold In minW; omega)).as (args' := #[.agg #[.int .i64 (-9223372036854775808), .int .u64 0]]) rfl (v' := .agg #[.int .i64 9223372036854775807, .int .u64 18446744073709551615]) rfl)
  have h3 := Lib.hid ((g_half (-3)).as (args' := #[.agg #[.int .i64 (-1), .int .u64 18446744073709551613]]) rfl (v' := .agg #[.int .i64 (-1), .int .u64 18446744073709551614]) rfl)
  have m1 := Lib.hid ((g_mul (-9223372036854775808) (-9223372036854775808) (by omega) (by omega)).as rfl (v' := .agg #[.int .i64 4611686018427387904, .int .u64 0]) rfl)
  have r24 := Lib.hid ((g_root 24 4 (by unfold In; omega) (by unfold IsRoot; omega)).as (args' := #[.agg #[.int .i64 0, .int .u64 24]]) rfl rfl)
  have r25 := Lib.hid ((g_root 25 5 (by unfold In; omega) (by unfold IsRoot; omega)).as (args' := #[.agg #[.int .i64 0, .int .u64 25]]) rfl rfl)
  have r4 := Lib.hid ((g_root_neg (-4) (by omega)).as (args' := #[.agg #[.int .i64 (-1), .int .u64 18446744073709551612]]) rfl rfl)
  have Hg := Lib.hid hg
  clear hg
  go_enter Tryd.func8, Tryd.ntmps8
  go_wp2_with fail
  refine (o7.out _ (Hg.out.below (by (repeat (first | exact Below.refl _ _ | assumption | (refine Below.drew ?_) | (refine Below.alloc ?_ (by first | (simp; done) | (simp; omega) | omega) _) | (refine Below.setCell ?_ (by first | (simp; done) | (simp; omega) | omega) _) | (refine Below.trans ?_ (Below.mono (by assumption) (by first | (simp; done) | (simp; omega) | omega)))))))).mono ?_
  rintro e w1 ⟨rfl, hb⟩
  go_wp2_with fail
  refine (d7.out _ ((Hg.out.below (show Below w.heap.size w _ by (repeat (first | exact Below.refl _ _ | assumption | (refine Below.drew ?_) | (refine Below.alloc ?_ (by first | (simp; done) | (simp; omega) | omega) _) | (refine Below.setCell ?_ (by first | (simp; done) | (simp; omega) | omega) _) | (refine Below.trans ?_ (Below.mono (by assumption) (by first | (simp; done) | (simp; omega) | omega))))))).below hb)).mono ?_
  rintro e w2 ⟨rfl, hb2⟩
  replace hb := hb.trans (hb2.mono hb.size)
  clear hb2
  have sz := hb.size
  simp at sz
  go_wp2_with fail
  have G2 := Lib.hid ((Hg.out.below (show Below w.heap.size w _ by (repeat (first | exact Below.refl _ _ | assumption | (refine Below.drew ?_) | (refine Below.alloc ?_ (by first | (simp; done) | (simp; omega) | omega) _) | (refine Below.setCell ?_ (by first | (simp; done) | (simp; omega) | omega) _) | (refine Below.trans ?_ (Below.mono (by assumption) (by first | (simp; done) | (simp; omega) | omega))))))).below hb)
  have C1 : Hid (At w2 w.heap.size maxW) := Lib.hid (((At.new _ maxW 24 rfl rfl rfl).alloc _).below hb)
  have C2 : Hid (At w2 (w.heap.size + 1) minW) := Lib.hid ((At.new _ minW 24 (by first | (simp; done) | (simp; omega) | omega) rfl rfl).below hb)
  have S2 : Hid (Below w.heap.size w w2) := Lib.hid (by (repeat (first | exact Below.refl _ _ | assumption | (refine Below.drew ?_) | (refine Below.alloc ?_ (by first | (simp; done) | (simp; omega) | omega) _) | (refine Below.setCell ?_ (by first | (simp; done) | (simp; omega) | omega) _) | (refine Below.trans ?_ (Below.mono (by assumption) (by first | (simp; done) | (simp; omega) | omega))))))
  clear hb
  have G3 := Lib.hid (G2.out.below (below_alloc w2 (.cells #[.int .i64 (-1), .int .u64 18446744073709551612] 24)))
  have C3 : Hid (At (w2.alloc (.cells #[.int .i64 (-1), .int .u64 18446744073709551612] 24)) w2.heap.size (-4)) := Lib.hid (At.new _ (-4) _ rfl rfl rfl)
  refine (p7.out _ G3.out).mono ?_
  rintro e w3 ⟨rfl, hb⟩
  go_wp2_with fail
  refine (e7.out _ (G3.out.below hb)).mono ?_
  rintro e w4 ⟨rfl, hb2⟩
  replace hb := hb.trans (hb2.mono hb.size)
  go_wp2_with fail
  have G4 := Lib.hid ((G3.out.below hb).below (below_alloc w4 (.cells #[.int .i64 0, .int .u64 0] 24)))
  have D1 := Lib.hid ((((C1.out.alloc (.cells #[.int .i64 (-1), .int .u64 18446744073709551612] 24)).below hb).alloc (.cells #[.int .i64 0, .int .u64 0] 24)))
  have D2 := Lib.hid ((((C2.out.alloc (.cells #[.int .i64 (-1), .int .u64 18446744073709551612] 24)).below hb).alloc (.cells #[.int .i64 0, .int .u64 0] 24)))
  have D3 := Lib.hid (((C3.out.below hb).alloc (.cells #[.int .i64 0, .int .u64 0] 24)))
  have S4 : Hid (Below w.heap.size w (w4.alloc (.cells #[.int .i64 0, .int .u64 0] 24))) := Lib.hid (by
    have s2 := S2.out.size
    have s3 := hb.size
    simp at s3
    exact (((S2.out.alloc s2 _).trans (hb.mono (by simp; omega))).alloc (by omega) _))
  clear hb G2 G3 C1 C2 C3 S2 sz
  generalize w4.alloc (.cells #[.int .i64 0, .int .u64 0] 24) = W at *
  have k1 := cell_regrown D1.out.1
  have k2 := cell_regrown D1.out.2.1
  have k3 := cell_regrown D2.out.1
  have k4 := cell_regrown D2.out.2.1
  have k5 := cell_regrown D3.out.1
  have k6 := cell_regrown D3.out.2.1
  rw [show hiOf maxW = 9223372036854775807 from rfl] at k1
  rw [show loOf maxW = 18446744073709551615 from rfl] at k2
  rw [show hiOf minW = -9223372036854775808 from rfl] at k3
  rw [show loOf minW = 0 from rfl] at k4
  rw [show hiOf (-4) = -1 from rfl] at k5
  rw [show loOf (-4) = 18446744073709551612 from rfl] at k6
  refine wp_region_quiet_below (by kernel_rfl) (by kernel_rfl) ?_
  repeat (go_big_quiet_step (first | (with_reducible exact (o1.out.quiet G4.out _ _)) | (with_reducible exact (o2.out.quiet G4.out _ _)) | (with_reducible exact (o3.out.quiet G4.out _ _)) | (with_reducible exact (o4.out.quiet G4.out _ _)) | (with_reducible exact (o24.out.quiet G4.out _ _)) | (with_reducible exact (o25.out.quiet G4.out _ _)) | (with_reducible exact (a1.out.quiet G4.out _ _)) | (with_reducible exact (n1.out.quiet G4.out _ _)) | (with_reducible exact (h3.out.quiet G4.out _ _)) | (with_reducible exact (m1.out.quiet G4.out _ _)) | (with_reducible exact (r24.out.quiet G4.out _ _)) | (with_reducible exact (r25.out.quiet G4.out _ _)) | (with_reducible exact (r4.out.quiet G4.out _ _))))
  refine wpQuiet_nil ?_
  intro _ hw'
  obtain ⟨⟨dq, osq⟩, hw''⟩ := hw'
  subst hw''
  go_wp2
  go_ret
  exact ⟨rfl, S4.out.trans ((below_regrown W dq osq).mono S4.out.size)⟩
end Go.Proofs.YtleccjahkphocaaDoor
