/-
  The law of package wide: the Go text of the statement returns true, for all numbers of 128 bits.
-/
import Derived.Test.YtleccjahkphocaaDoorEnds
import Derived.Deep.CutRange
import Derived.Deep.CutBlock
namespace Go.Proofs.YtleccjahkphocaaDoor
open Go.RowKit Go.Sort
/-- What lies where behind the heads of the law: its three numbers, in blocks n, n + 1, n + 2. -/
structure Ctx (w : World) (x y z : Int) (W : World) : Prop where
  a : At W w.heap.size x
  b : At W (w.heap.size + 1) y
  c : At W (w.heap.size + 1 + 1) z
  g : Glob W
  s : Below w.heap.size w W
theorem Ctx.on {w W W' : World} {x y z : Int} (h : Ctx w x y z W) (hb : Below W.heap.size W W') : Ctx w x y z W' :=
  ⟨h.a.below hb, h.b.below hb, h.c.below hb, h.g.below hb, h.s.trans (hb.mono h.s.size)⟩
theorem below_quiet {W : World} (d : Nat) (os : Array Obj) : Below W.heap.size W (grow (redrawn W d) os) := below_regrown W d os
theorem At.q {W : World} {b : Nat} {x : Int} (h : At W b x) : (∀ d os, (grow (redrawn W d) os).cell? ⟨b, 0, none⟩ = some (.int .i64 (hiOf x))) ∧ (∀ d os, (grow (redrawn W d) os).cell? ⟨b, 1, none⟩ = some (.int .u64 (loOf x))) :=
  ⟨cell_regrown h.1, cell_regrown h.2.1⟩
def Laid (W : World) (v : Value) (x : Int) : Prop := ∃ p, v = .pointer (some ⟨p, 0, none⟩) ∧ At W p x
theorem Laid.on {W W' : World} {v : Value} {x : Int} (h : Laid W v x) (hb : Below W.heap.size W W') : Laid W' v x := let ⟨p, e, a⟩ := h; ⟨p, e, a.below hb⟩
/-- Two new variables, filled one behind the other. -/
theorem At.drew {W : World} {p : Nat} {u : Int} (h : At W p u) : At W.drew p u := h
theorem At.stored {W : World} {p : Nat} {u X : Int} (h : At W p u) : At ((W.setCell ⟨p, 0, none⟩ (.int .i64 (hiOf X))).setCell ⟨p, 1, none⟩ (.int .u64 (loOf X))) p X := by
  obtain ⟨h0, h1, h2⟩ := h
  refine ⟨?_, ?_, by simpa using h2⟩
  · rw [World.cell?_setCell_other _ _ _ _ (by simp)]
    exact World.cell?_setCell_same _ _ _ h0
  · exact World.cell?_setCell_same _ _ _ (by rw [World.cell?_setCell_other _ _ _ _ (by simp)]; exact h1)
theorem At.other {W : World} {p : Nat} {X : Int} (h : At W p X) {a : Addr} (ha : a.block ≠ p) (v : Value) : At (W.setCell a v) p X := by
  obtain ⟨h0, h1, h2⟩ := h
  exact ⟨by rw [World.cell?_setCell_other _ _ _ _ (fun e => ha (by rw [e]))]; exact h0, by rw [World.cell?_setCell_other _ _ _ _ (fun e => ha (by rw [e]))]; exact h1, by simpa using h2⟩
theorem keep4 {W W' : World} {p q r s : Nat} {x y z u : Int} (hb : Below W.heap.size W W') (h1 : At W p x) (h2 : At W q y) (h3 : At W r z) (h4 : At W s u) :
    W'.cell? ⟨p, 0, none⟩ = some (.int .i64 (hiOf x)) ∧ W'.cell? ⟨p, 1, none⟩ = some (.int .u64 (loOf x)) ∧ W'.cell? ⟨q, 0, none⟩ = some (.int .i64 (hiOf y)) ∧ W'.cell? ⟨q, 1, none⟩ = some (.int .u64 (loOf y)) ∧
    W'.cell? ⟨r, 0, none⟩ = some (.int .i64 (hiOf z)) ∧ W'.cell? ⟨r, 1, none⟩ = some (.int .u64 (loOf z)) ∧ W'.cell? ⟨s, 0, none⟩ = some (.int .i64 (hiOf u)) ∧ W'.cell? ⟨s, 1, none⟩ = some (.int .u64 (loOf u)) :=
  ⟨(h1.below hb).1, (h1.below hb).2.1, (h2.below hb).1, (h2.below hb).2.1, (h3.below hb).1, (h3.below hb).2.1, (h4.below hb).1, (h4.below hb).2.1⟩
theorem keep3 {W W' : World} {p q r : Nat} {x y z : Int} (hb : Below W.heap.size W W') (h1 : At W p x) (h2 : At W q y) (h3 : At W r z) :
    W'.cell? ⟨p, 0, none⟩ = some (.int .i64 (hiOf x)) ∧ W'.cell? ⟨p, 1, none⟩ = some (.int .u64 (loOf x)) ∧ W'.cell? ⟨q, 0, none⟩ = some (.int .i64 (hiOf y)) ∧ W'.cell? ⟨q, 1, none⟩ = some (.int .u64 (loOf y)) ∧
    W'.cell? ⟨r, 0, none⟩ = some (.int .i64 (hiOf z)) ∧ W'.cell? ⟨r, 1, none⟩ = some (.int .u64 (loOf z)) :=
  ⟨(h1.below hb).1, (h1.below hb).2.1, (h2.below hb).1, (h2.below hb).2.1, (h3.below hb).1, (h3.below hb).2.1⟩
theorem keep22 {W W' : World} {p q : Nat} {x y : Int} (hb : Below W.heap.size W W') (h1 : At W p x) (h2 : At W q y) :
    W'.cell? ⟨p, 0, none⟩ = some (.int .i64 (hiOf x)) ∧ W'.cell? ⟨p, 1, none⟩ = some (.int .u64 (loOf x)) ∧ W'.cell? ⟨q, 0, none⟩ = some (.int .i64 (hiOf y)) ∧ W'.cell? ⟨q, 1, none⟩ = some (.int .u64 (loOf y)) :=
  ⟨(h1.below hb).1, (h1.below hb).2.1, (h2.below hb).1, (h2.below hb).2.1⟩
theorem sgn_vals (x y : Int) : (sgn x y = -1 ∧ x < y) ∨ (0 ≤ sgn x y ∧ ¬ x < y) := by unfold sgn; split <;> (try split) <;> omega
/-- The ways through the comparison of sums. -/
theorem law_cmps (x y z : Int) : (sgn x y = -1 ∧ ¬ 0 < sgn (sat (x + z)) (sat (y + z)) ∧ endsB (sat (x + z)) = true) ∨
    (sgn x y = -1 ∧ ¬ 0 < sgn (sat (x + z)) (sat (y + z)) ∧ endsB (sat (x + z)) = false ∧ endsB (sat (y + z)) = true) ∨
    (sgn x y = -1 ∧ sgn (sat (x + z)) (sat (y + z)) = -1 ∧ endsB (sat (x + z)) = false ∧ endsB (sat (y + z)) = false) ∨
    (¬ sgn x y < 0 ∧ endsB (sat (x + z)) = true) ∨ (¬ sgn x y < 0 ∧ endsB (sat (x + z)) = false ∧ endsB (sat (y + z)) = true) ∨
    (¬ sgn x y < 0 ∧ sgn (sat (x + z)) (sat (y + z)) = sgn x y ∧ endsB (sat (x + z)) = false ∧ endsB (sat (y + z)) = false) := by
  rcases sgn_vals x y with ⟨h, hl⟩ | ⟨h, hl⟩
  · have hm := law_mono x y z hl
    have hs : ¬ 0 < sgn (sat (x + z)) (sat (y + z)) := by unfold sgn; split <;> (try split) <;> omega
    cases h1 : endsB (sat (x + z))
    · cases h2 : endsB (sat (y + z))
      · exact .inr (.inr (.inl ⟨h, by rw [law_cmp x y z h1 h2, h], rfl, rfl⟩))
      · exact .inr (.inl ⟨h, hs, rfl, rfl⟩)
    · exact .inl ⟨h, hs, rfl⟩
  · have hn : ¬ sgn x y < 0 := by omega
    cases h1 : endsB (sat (x + z))
    · cases h2 : endsB (sat (y + z))
      · exact .inr (.inr (.inr (.inr (.inr ⟨hn, law_cmp x y z h1 h2, rfl, rfl⟩))))
      · exact .inr (.inr (.inr (.inr (.inl ⟨hn, rfl, rfl⟩))))
    · exact .inr (.inr (.inr (.inl ⟨hn, rfl⟩)))
theorem div_in' {x n : Int} (hx : In x) (hn : 0 < n) : In (x / n) := by
  by_cases h : 0 ≤ x
  · exact div_in hx h hn
  · have e := div_below (x := x) hn
    have c : In (-1 - x) := by unfold In at *; omega
    have := div_in c (by omega) hn
    unfold In at *; omega
theorem half_in {x : Int} (hx : In x) : In (x / 2) := by unfold In at *; omega
theorem law_divs (x n : Int) (hx : In x) (hn : 0 < n) (hn2 : n ≤ 4294967295) : sat (sat (x / n * n) + x % n) = x ∨
    (hiOf (sat (sat (x / n * n) + x % n)) ≠ hiOf x ∧ ¬ -9223372036854775808 < hiOf x) ∨ (hiOf (sat (sat (x / n * n) + x % n)) = hiOf x ∧ loOf (sat (sat (x / n * n) + x % n)) ≠ loOf x ∧ ¬ -9223372036854775808 < hiOf x) := by
  by_cases h : -9223372036854775808 < hiOf x
  · exact .inl (law_div x n hx hn hn2 h)
  · by_cases e : sat (sat (x / n * n) + x % n) = x
    · exact .inl e
    · by_cases h1 : hiOf (sat (sat (x / n * n) + x % n)) = hiOf x
      · exact .inr (.inr ⟨h1, fun h2 => e (words_inj h1 h2), h⟩)
      · exact .inr (.inl ⟨h1, h⟩)
/-- What a division answers. -/
def DivOut (x n q r : Int) (ok : Bool) : Prop := (0 < n ∧ q = x / n ∧ r = x % n ∧ ok = true) ∨ (n = 0 ∧ q = 0 ∧ r = 0 ∧ ok = false)
theorem keep2 {W W' : World} {p : Nat} {x : Int} (hb : Below W.heap.size W W') (h1 : At W p x) : W'.cell? ⟨p, 0, none⟩ = some (.int .i64 (hiOf x)) ∧ W'.cell? ⟨p, 1, none⟩ = some (.int .u64 (loOf x)) :=
  ⟨(h1.below hb).1, (h1.below hb).2.1⟩
set_option maxHeartbeats 8000000 in
set_option maxRecDepth 100000 in
theorem wideLaws_any (x y z n : Int) (hx : In x) (hy : In y) (hz : In z) (hn : 0 ≤ n ∧ n ≤ 4294967295) (w : World) (hg : Glob w) :
    Calls Tryd.prog 6 #[.agg #[.int .i64 (hiOf x), .int .u64 (loOf x)], .agg #[.int .i64 (hiOf y), .int .u64 (loOf y)], .agg #[.int .i64 (hiOf z), .int .u64 (loOf z)], .int .u32 n] w
      fun e w' => e = .returned (.bool true) ∧ Below w.heap.size w w' := by
  have Hx := Lib.hid hx
  have Hy := Lib.hid hy
  have Hz := Lib.hid hz
  have Hn := Lib.hid hn
  have n0 := hn.1
  have n1 := hn.2
  have K := Lib.hid g_known
  have Axy := Lib.hid (g_add x y hx hy)
  have Ayx := Lib.hid (g_add y x hy hx)
  rw [Int.add_comm y x] at Ayx
  have C0 : Hid (Ctx w x y z (((w.alloc (.cells #[.int .i64 (hiOf x), .int .u64 (loOf x)] 24)).alloc (.cells #[.int .i64 (hiOf y), .int .u64 (loOf y)] 24)).alloc (.cells #[.int .i64 (hiOf z), .int .u64 (loOf z)] 24))) :=
    Lib.hid ⟨((At.new _ x _ rfl rfl rfl).alloc _).alloc _, (At.new _ y _ (by first | (simp; done) | (simp; omega) | omega) rfl rfl).alloc _, At.new _ z _ (by first | (simp; done) | (simp; omega) | omega) rfl rfl, hg.below (by (repeat (first | (with_reducible exact Below.refl _ _) | (with_reducible assumption) | (with_reducible refine Below.drew ?_) | (with_reducible refine below_drewN ?_ _) | ((with_reducible refine Below.alloc ?_ ?_ _); rotate_left; (focus (first | (simp; done) | (simp; omega) | omega))) | ((with_reducible refine Below.setCell ?_ ?_ _); rotate_left; (focus (first | (simp; done) | (simp; omega) | omega))) | ((with_reducible refine Below.trans ?_ (Below.mono (by assumption) ?_)); rotate_left; (focus (first | (simp; done) | (simp; omega) | omega)))))), by (repeat (first | (with_reducible exact Below.refl _ _) | (with_reducible assumption) | (with_reducible refine Below.drew ?_) | (with_reducible refine below_drewN ?_ _) | ((with_reducible refine Below.alloc ?_ ?_ _); rotate_left; (focus (first | (simp; done) | (simp; omega) | omega))) | ((with_reducible refine Below.setCell ?_ ?_ _); rotate_left; (focus (first | (simp; done) | (simp; omega) | omega))) | ((with_reducible refine Below.trans ?_ (Below.mono (by assumption) ?_)); rotate_left; (focus (first | (simp; done) | (simp; omega) | omega)))))⟩
  clear hx hy hz hn hg
  go_enter Tryd.func6, Tryd.ntmps6
  go_upto_region 1 with fail
  generalize ((w.alloc (.cells #[.int .i64 (hiOf x), .int .u64 (loOf x)] 24)).alloc (.cells #[.int .i64 (hiOf y), .int .u64 (loOf y)] 24)).alloc (.cells #[.int .i64 (hiOf z), .int .u64 (loOf z)] 24) = w0 at *
  go_upto_region 3 with (go_at_call 8; refine (K.out _ C0.out.g).mono ?_; rintro e w1 ⟨rfl, hb⟩; have C1 := Lib.hid (C0.out.on hb); clear hb C0)
  go_cut [9] from 21 to 23 (fun s wr => Laid wr s (sat (x + y)) ∧ Ctx w x y z wr)
  case first =>
    obtain ⟨a0, a1, _⟩ := C1.out.a
    obtain ⟨b0, b1, _⟩ := C1.out.b
    go_wp2_with (go_at_call 13; refine (Axy.out _ C1.out.g).mono ?_; rintro e w2 ⟨rfl, hb⟩)
    go_meet
    exact ⟨⟨_, rfl, At.new _ _ _ rfl rfl rfl⟩, C1.out.on (hb.trans ((below_alloc _ _).mono hb.size))⟩
  case rest =>
  obtain ⟨⟨ps, rfl, S⟩, C⟩ := hcut
  have S := Lib.hid S
  have C2 := Lib.hid C
  clear C C1
  go_upto_region 4 with fail
  go_cut [28] from 24 to 28 (fun v wr => v = .bool false ∧ Below wc.heap.size wc wr)
  case first =>
    obtain ⟨a0, a1⟩ := C2.out.a.q
    obtain ⟨b0, b1⟩ := C2.out.b.q
    obtain ⟨s0, s1⟩ := S.out.q
    refine wp_region_quiet_below (by kernel_rfl) (by kernel_rfl) ?_
    repeat (go_big_quiet_step (with_reducible exact (Ayx.out.quiet C2.out.g _ _)))
    (refine wpQuiet_nil ?_; intro _ hw'; obtain ⟨⟨dq, osq⟩, hw''⟩ := hw'; subst hw'')
    go_wp2_with fail
    go_meet
    exact ⟨rfl, below_quiet _ _⟩
  case rest =>
  obtain ⟨rfl, hb⟩ := hcut
  have C3 := Lib.hid (C2.out.on hb)
  have S3 := Lib.hid (S.out.below hb)
  clear hb C2 S
  go_upto_region 6 with fail
  go_cut [45] from 29 to 45 (fun v wr => v = .bool false ∧ Below wc.heap.size wc wr)
  case first =>
    obtain ⟨a0, a1⟩ := C3.out.a.q
    obtain ⟨b0, b1⟩ := C3.out.b.q
    obtain ⟨s0, s1⟩ := S3.out.q
    cases he : endsB (sat (x + y))
    · obtain ⟨l1, l2⟩ := law_back x y Hx.out Hy.out he
      have E := Lib.hid (g_ends_at _ _ he)
      have B1 := Lib.hid ((g_sub (sat (x + y)) y (sat_in _) Hy.out))
      have B2 := Lib.hid ((g_sub (sat (x + y)) x (sat_in _) Hx.out))
      rw [l1] at B1
      rw [l2] at B2
      clear l1 l2 he
      refine wp_region_quiet_below (by kernel_rfl) (by kernel_rfl) ?_
      repeat (go_big_quiet_step (first | (with_reducible exact (E.out.quiet C3.out.g _ _)) | (with_reducible exact (B1.out.quiet C3.out.g _ _)) | (with_reducible exact (B2.out.quiet C3.out.g _ _))))
      (refine wpQuiet_nil ?_; intro _ hw'; obtain ⟨⟨dq, osq⟩, hw''⟩ := hw'; subst hw'')
      go_wp2_with fail
      go_meet
      exact ⟨rfl, below_quiet _ _⟩
    · have E := Lib.hid (g_ends_at _ _ he)
      clear he
      refine wp_region_quiet_below (by kernel_rfl) (by kernel_rfl) ?_
      repeat (go_big_quiet_step (first | (with_reducible exact (E.out.quiet C3.out.g _ _))))
      (refine wpQuiet_nil ?_; intro _ hw'; obtain ⟨⟨dq, osq⟩, hw''⟩ := hw'; subst hw'')
      go_wp2_with fail
      go_meet
      exact ⟨rfl, below_quiet _ _⟩
  case rest =>
  obtain ⟨rfl, hb⟩ := hcut
  have C4 := Lib.hid (C3.out.on hb)
  have S4 := Lib.hid (S3.out.below hb)
  clear hb C3 S3
  go_upto_region 8 with fail
  go_cut [10, 11] from 46 to 53 (fun l r wr => Laid wr l (sat (sat (x + y) + z)) ∧ Laid wr r (sat (x + sat (y + z))) ∧ Below wc.heap.size wc wr)
  case first =>
    have P1 := Lib.hid (g_add (sat (x + y)) z (sat_in _) Hz.out)
    have P2 := Lib.hid (g_add y z Hy.out Hz.out)
    have P3 := Lib.hid (g_add x (sat (y + z)) Hx.out (sat_in _))
    obtain ⟨a0, a1, _⟩ := C4.out.a
    obtain ⟨b0, b1, _⟩ := C4.out.b
    obtain ⟨c0, c1, _⟩ := C4.out.c
    obtain ⟨s0, s1, _⟩ := S4.out
    have lt2 : ∀ n : Nat, n < n + 1 + 1 := fun n => by omega
    go_region_held3 (fun W' => W'.cell? ⟨w.heap.size, 0, none⟩ = some (.int .i64 (hiOf x)) ∧ W'.cell? ⟨w.heap.size, 1, none⟩ = some (.int .u64 (loOf x)) ∧ W'.cell? ⟨w.heap.size + 1, 0, none⟩ = some (.int .i64 (hiOf y)) ∧ W'.cell? ⟨w.heap.size + 1, 1, none⟩ = some (.int .u64 (loOf y)) ∧ W'.cell? ⟨w.heap.size + 1 + 1, 0, none⟩ = some (.int .i64 (hiOf z)) ∧ W'.cell? ⟨w.heap.size + 1 + 1, 1, none⟩ = some (.int .u64 (loOf z)) ∧ W'.cell? ⟨ps, 0, none⟩ = some (.int .i64 (hiOf (sat (x + y)))) ∧ W'.cell? ⟨ps, 1, none⟩ = some (.int .u64 (loOf (sat (x + y)))))
      (first | exact keep4 (by (repeat (first | (with_reducible exact Below.refl _ _) | (with_reducible assumption) | (with_reducible refine Below.drew ?_) | (with_reducible refine below_drewN ?_ _) | ((with_reducible refine Below.alloc ?_ ?_ _); rotate_left; (focus (first | (simp; done) | (simp; omega) | omega))) | ((with_reducible refine Below.setCell ?_ ?_ _); rotate_left; (focus (first | (simp; done) | (simp; omega) | omega))) | ((with_reducible refine Below.trans ?_ (Below.mono (by assumption) ?_)); rotate_left; (focus (first | (simp; done) | (simp; omega) | omega)))))) C4.out.a C4.out.b C4.out.c S4.out)
      (first
        | (go_at_call_of 13 (hiOf (sat (x + y))); refine (P1.out _ (C4.out.g.below (by (repeat (first | (with_reducible exact Below.refl _ _) | (with_reducible assumption) | (with_reducible refine Below.drew ?_) | (with_reducible refine below_drewN ?_ _) | ((with_reducible refine Below.alloc ?_ ?_ _); rotate_left; (focus (first | (simp; done) | (simp; omega) | omega))) | ((with_reducible refine Below.setCell ?_ ?_ _); rotate_left; (focus (first | (simp; done) | (simp; omega) | omega))) | ((with_reducible refine Below.trans ?_ (Below.mono (by assumption) ?_)); rotate_left; (focus (first | (simp; done) | (simp; omega) | omega)))))))).mono ?_; rintro e wA ⟨rfl, hb⟩; have sz := hb.size; (try simp at sz); obtain ⟨hc, hf⟩ := bcell hb; (try have u : wc.heap.size < wA.heap.size := by omega); (try have u : wc.heap.size + 1 < wA.heap.size := by omega); (try have u : wB.heap.size < wA.heap.size := by omega); (try have u : wB.heap.size + 1 < wA.heap.size := by omega); (try have t1 := hc (wc.heap.size) 0 (by first | (simp; done) | (simp; omega) | omega)); (try have t2 := hc (wc.heap.size) 1 (by first | (simp; done) | (simp; omega) | omega)); (try have t3 := hf (wc.heap.size) 0 (by first | (simp; done) | (simp; omega) | omega)); (try have t4 := hf (wc.heap.size) 1 (by first | (simp; done) | (simp; omega) | omega)); (try have t1 := hc (wc.heap.size + 1) 0 (by first | (simp; done) | (simp; omega) | omega)); (try have t2 := hc (wc.heap.size + 1) 1 (by first | (simp; done) | (simp; omega) | omega)); (try have t3 := hf (wc.heap.size + 1) 0 (by first | (simp; done) | (simp; omega) | omega)); (try have t4 := hf (wc.heap.size + 1) 1 (by first | (simp; done) | (simp; omega) | omega)); (try have t1 := hc (wB.heap.size) 0 (by first | (simp; done) | (simp; omega) | omega)); (try have t2 := hc (wB.heap.size) 1 (by first | (simp; done) | (simp; omega) | omega)); (try have t3 := hf (wB.heap.size) 0 (by first | (simp; done) | (simp; omega) | omega)); (try have t4 := hf (wB.heap.size) 1 (by first | (simp; done) | (simp; omega) | omega)); (try have t1 := hc (wB.heap.size + 1) 0 (by first | (simp; done) | (simp; omega) | omega)); (try have t2 := hc (wB.heap.size + 1) 1 (by first | (simp; done) | (simp; omega) | omega)); (try have t3 := hf (wB.heap.size + 1) 0 (by first | (simp; done) | (simp; omega) | omega)); (try have t4 := hf (wB.heap.size + 1) 1 (by first | (simp; done) | (simp; omega) | omega)); clear hc hf)
        | (go_at_call_of 13 (hiOf y); refine (P2.out _ (C4.out.g.below (by (repeat (first | (with_reducible exact Below.refl _ _) | (with_reducible assumption) | (with_reducible refine Below.drew ?_) | (with_reducible refine below_drewN ?_ _) | ((with_reducible refine Below.alloc ?_ ?_ _); rotate_left; (focus (first | (simp; done) | (simp; omega) | omega))) | ((with_reducible refine Below.setCell ?_ ?_ _); rotate_left; (focus (first | (simp; done) | (simp; omega) | omega))) | ((with_reducible refine Below.trans ?_ (Below.mono (by assumption) ?_)); rotate_left; (focus (first | (simp; done) | (simp; omega) | omega)))))))).mono ?_; rintro e wB ⟨rfl, hb⟩; have sz := hb.size; (try simp at sz); obtain ⟨hc, hf⟩ := bcell hb; (try have u : wc.heap.size < wB.heap.size := by omega); (try have u : wc.heap.size + 1 < wB.heap.size := by omega); (try have u : wA.heap.size < wB.heap.size := by omega); (try have u : wA.heap.size + 1 < wB.heap.size := by omega); (try have t1 := hc (wc.heap.size) 0 (by first | (simp; done) | (simp; omega) | omega)); (try have t2 := hc (wc.heap.size) 1 (by first | (simp; done) | (simp; omega) | omega)); (try have t3 := hf (wc.heap.size) 0 (by first | (simp; done) | (simp; omega) | omega)); (try have t4 := hf (wc.heap.size) 1 (by first | (simp; done) | (simp; omega) | omega)); (try have t1 := hc (wc.heap.size + 1) 0 (by first | (simp; done) | (simp; omega) | omega)); (try have t2 := hc (wc.heap.size + 1) 1 (by first | (simp; done) | (simp; omega) | omega)); (try have t3 := hf (wc.heap.size + 1) 0 (by first | (simp; done) | (simp; omega) | omega)); (try have t4 := hf (wc.heap.size + 1) 1 (by first | (simp; done) | (simp; omega) | omega)); (try have t1 := hc (wA.heap.size) 0 (by first | (simp; done) | (simp; omega) | omega)); (try have t2 := hc (wA.heap.size) 1 (by first | (simp; done) | (simp; omega) | omega)); (try have t3 := hf (wA.heap.size) 0 (by first | (simp; done) | (simp; omega) | omega)); (try have t4 := hf (wA.heap.size) 1 (by first | (simp; done) | (simp; omega) | omega)); (try have t1 := hc (wA.heap.size + 1) 0 (by first | (simp; done) | (simp; omega) | omega)); (try have t2 := hc (wA.heap.size + 1) 1 (by first | (simp; done) | (simp; omega) | omega)); (try have t3 := hf (wA.heap.size + 1) 0 (by first | (simp; done) | (simp; omega) | omega)); (try have t4 := hf (wA.heap.size + 1) 1 (by first | (simp; done) | (simp; omega) | omega)); clear hc hf)
        | (go_at_call_of 13 (hiOf (sat (y + z))); refine (P3.out _ (C4.out.g.below (by (repeat (first | (with_reducible exact Below.refl _ _) | (with_reducible assumption) | (with_reducible refine Below.drew ?_) | (with_reducible refine below_drewN ?_ _) | ((with_reducible refine Below.alloc ?_ ?_ _); rotate_left; (focus (first | (simp; done) | (simp; omega) | omega))) | ((with_reducible refine Below.setCell ?_ ?_ _); rotate_left; (focus (first | (simp; done) | (simp; omega) | omega))) | ((with_reducible refine Below.trans ?_ (Below.mono (by assumption) ?_)); rotate_left; (focus (first | (simp; done) | (simp; omega) | omega)))))))).mono ?_; rintro e wC ⟨rfl, hb⟩; have sz := hb.size; (try simp at sz); obtain ⟨hc, hf⟩ := bcell hb; (try have u : wc.heap.size < wC.heap.size := by omega); (try have u : wc.heap.size + 1 < wC.heap.size := by omega); (try have u : wA.heap.size < wC.heap.size := by omega); (try have u : wA.heap.size + 1 < wC.heap.size := by omega); (try have u : wB.heap.size < wC.heap.size := by omega); (try have u : wB.heap.size + 1 < wC.heap.size := by omega); (try have t1 := hc (wc.heap.size) 0 (by first | (simp; done) | (simp; omega) | omega)); (try have t2 := hc (wc.heap.size) 1 (by first | (simp; done) | (simp; omega) | omega)); (try have t3 := hf (wc.heap.size) 0 (by first | (simp; done) | (simp; omega) | omega)); (try have t4 := hf (wc.heap.size) 1 (by first | (simp; done) | (simp; omega) | omega)); (try have t1 := hc (wc.heap.size + 1) 0 (by first | (simp; done) | (simp; omega) | omega)); (try have t2 := hc (wc.heap.size + 1) 1 (by first | (simp; done) | (simp; omega) | omega)); (try have t3 := hf (wc.heap.size + 1) 0 (by first | (simp; done) | (simp; omega) | omega)); (try have t4 := hf (wc.heap.size + 1) 1 (by first | (simp; done) | (simp; omega) | omega)); (try have t1 := hc (wA.heap.size) 0 (by first | (simp; done) | (simp; omega) | omega)); (try have t2 := hc (wA.heap.size) 1 (by first | (simp; done) | (simp; omega) | omega)); (try have t3 := hf (wA.heap.size) 0 (by first | (simp; done) | (simp; omega) | omega)); (try have t4 := hf (wA.heap.size) 1 (by first | (simp; done) | (simp; omega) | omega)); (try have t1 := hc (wA.heap.size + 1) 0 (by first | (simp; done) | (simp; omega) | omega)); (try have t2 := hc (wA.heap.size + 1) 1 (by first | (simp; done) | (simp; omega) | omega)); (try have t3 := hf (wA.heap.size + 1) 0 (by first | (simp; done) | (simp; omega) | omega)); (try have t4 := hf (wA.heap.size + 1) 1 (by first | (simp; done) | (simp; omega) | omega)); (try have t1 := hc (wB.heap.size) 0 (by first | (simp; done) | (simp; omega) | omega)); (try have t2 := hc (wB.heap.size) 1 (by first | (simp; done) | (simp; omega) | omega)); (try have t3 := hf (wB.heap.size) 0 (by first | (simp; done) | (simp; omega) | omega)); (try have t4 := hf (wB.heap.size) 1 (by first | (simp; done) | (simp; omega) | omega)); (try have t1 := hc (wB.heap.size + 1) 0 (by first | (simp; done) | (simp; omega) | omega)); (try have t2 := hc (wB.heap.size + 1) 1 (by first | (simp; done) | (simp; omega) | omega)); (try have t3 := hf (wB.heap.size + 1) 0 (by first | (simp; done) | (simp; omega) | omega)); (try have t4 := hf (wB.heap.size + 1) 1 (by first | (simp; done) | (simp; omega) | omega)); clear hc hf))
    all_goals
      go_wp2_with fail
      go_meet
      exact ⟨⟨_, rfl, by (repeat (first | ((with_reducible refine At.new _ _ _ ?_ ?_ ?_); (focus (first | (simp; done) | (simp; omega) | omega)); (focus rfl); (focus rfl)) | (with_reducible refine At.stored (u := 0) ?_) | ((with_reducible refine At.other ?_ ?_ _); rotate_left; (focus (dsimp only; omega))) | (with_reducible refine At.alloc ?_ _) | (with_reducible refine At.drew ?_) | (with_reducible refine At.below ?_ (by assumption))))⟩, ⟨_, rfl, by (repeat (first | ((with_reducible refine At.new _ _ _ ?_ ?_ ?_); (focus (first | (simp; done) | (simp; omega) | omega)); (focus rfl); (focus rfl)) | (with_reducible refine At.stored (u := 0) ?_) | ((with_reducible refine At.other ?_ ?_ _); rotate_left; (focus (dsimp only; omega))) | (with_reducible refine At.alloc ?_ _) | (with_reducible refine At.drew ?_) | (with_reducible refine At.below ?_ (by assumption))))⟩, by (repeat (first | (with_reducible exact Below.refl _ _) | (with_reducible assumption) | (with_reducible refine Below.drew ?_) | (with_reducible refine below_drewN ?_ _) | ((with_reducible refine Below.alloc ?_ ?_ _); rotate_left; (focus (first | (simp; done) | (simp; omega) | omega))) | ((with_reducible refine Below.setCell ?_ ?_ _); rotate_left; (focus (first | (simp; done) | (simp; omega) | omega))) | ((with_reducible refine Below.trans ?_ (Below.mono (by assumption) ?_)); rotate_left; (focus (first | (simp; done) | (simp; omega) | omega)))))⟩
  case rest =>
  obtain ⟨⟨pl, rfl, L⟩, ⟨pr, rfl, R⟩, hb⟩ := hcut
  have C5 := Lib.hid (C4.out.on hb)
  have S5 := Lib.hid (S4.out.below hb)
  have L5 := Lib.hid L
  have R5 := Lib.hid R
  clear hb C4 S4 L R
  go_upto_region 9 with fail
  go_cut [78] from 54 to 78 (fun v wr => v = .bool false ∧ Below wc.heap.size wc wr)
  case first =>
    have P2 := Lib.hid (g_add y z Hy.out Hz.out)
    have hb : Below wc.heap.size wc wc := Below.refl _ _
    have kb := keep2 hb C5.out.b; have kc := keep2 hb C5.out.c; have ks := keep2 hb S5.out; have kl := keep2 hb L5.out; have kr := keep2 hb R5.out
    cases h1 : endsB (sat (x + y))
    · cases h2 : endsB (sat (y + z))
      · have hlr := law_assoc x y z h1 h2
        cases h3 : endsB (sat (sat (x + y) + z))
        · have h4 := h3
          rw [hlr] at h4
          have E1 := Lib.hid (g_ends_at _ _ h1)
          have E2 := Lib.hid (g_ends_at _ _ h2)
          have E3 := Lib.hid (g_ends_at _ _ h3)
          have E4 := Lib.hid (g_ends_at _ _ h4)
          rw [hlr] at kl E3
          clear h1 h2 h3 h4
          go_wp2_with (first
            | (go_at_call_of 29 (hiOf (sat (x + y))); refine (E1.out _ (C5.out.g.below hb)).mono ?_; rintro e w2 ⟨rfl, hb2⟩; replace hb := hb.trans (hb2.mono hb.size); clear hb2 kb kc ks kl kr; have kb := keep2 hb C5.out.b; have kc := keep2 hb C5.out.c; have ks := keep2 hb S5.out; have kl := keep2 hb L5.out; have kr := keep2 hb R5.out)
            | (go_at_call_of 13 (hiOf y); refine (P2.out _ (C5.out.g.below hb)).mono ?_; rintro e w2 ⟨rfl, hb2⟩; replace hb := hb.trans (hb2.mono hb.size); clear hb2 kb kc ks kl kr; have kb := keep2 hb C5.out.b; have kc := keep2 hb C5.out.c; have ks := keep2 hb S5.out; have kl := keep2 hb L5.out; have kr := keep2 hb R5.out)
            | (go_at_call_of 29 (hiOf (sat (y + z))); refine (E2.out _ (C5.out.g.below hb)).mono ?_; rintro e w2 ⟨rfl, hb2⟩; replace hb := hb.trans (hb2.mono hb.size); clear hb2 kb kc ks kl kr; have kb := keep2 hb C5.out.b; have kc := keep2 hb C5.out.c; have ks := keep2 hb S5.out; have kl := keep2 hb L5.out; have kr := keep2 hb R5.out)
            | (go_at_call_of 29 (hiOf (sat (sat (x + y) + z))); refine (E3.out _ (C5.out.g.below hb)).mono ?_; rintro e w2 ⟨rfl, hb2⟩; replace hb := hb.trans (hb2.mono hb.size); clear hb2 kb kc ks kl kr; have kb := keep2 hb C5.out.b; have kc := keep2 hb C5.out.c; have ks := keep2 hb S5.out; have kl := keep2 hb L5.out; have kr := keep2 hb R5.out)
            | (go_at_call_of 29 (hiOf (sat (x + sat (y + z)))); refine (E4.out _ (C5.out.g.below hb)).mono ?_; rintro e w2 ⟨rfl, hb2⟩; replace hb := hb.trans (hb2.mono hb.size); clear hb2 kb kc ks kl kr; have kb := keep2 hb C5.out.b; have kc := keep2 hb C5.out.c; have ks := keep2 hb S5.out; have kl := keep2 hb L5.out; have kr := keep2 hb R5.out))
          go_meet
          exact ⟨rfl, hb⟩
        · have E1 := Lib.hid (g_ends_at _ _ h1)
          have E2 := Lib.hid (g_ends_at _ _ h2)
          have E3 := Lib.hid (g_ends_at _ _ h3)
          clear h1 h2 h3 hlr
          go_wp2_with (first
            | (go_at_call_of 29 (hiOf (sat (x + y))); refine (E1.out _ (C5.out.g.below hb)).mono ?_; rintro e w2 ⟨rfl, hb2⟩; replace hb := hb.trans (hb2.mono hb.size); clear hb2 kb kc ks kl kr; have kb := keep2 hb C5.out.b; have kc := keep2 hb C5.out.c; have ks := keep2 hb S5.out; have kl := keep2 hb L5.out; have kr := keep2 hb R5.out)
            | (go_at_call_of 13 (hiOf y); refine (P2.out _ (C5.out.g.below hb)).mono ?_; rintro e w2 ⟨rfl, hb2⟩; replace hb := hb.trans (hb2.mono hb.size); clear hb2 kb kc ks kl kr; have kb := keep2 hb C5.out.b; have kc := keep2 hb C5.out.c; have ks := keep2 hb S5.out; have kl := keep2 hb L5.out; have kr := keep2 hb R5.out)
            | (go_at_call_of 29 (hiOf (sat (y + z))); refine (E2.out _ (C5.out.g.below hb)).mono ?_; rintro e w2 ⟨rfl, hb2⟩; replace hb := hb.trans (hb2.mono hb.size); clear hb2 kb kc ks kl kr; have kb := keep2 hb C5.out.b; have kc := keep2 hb C5.out.c; have ks := keep2 hb S5.out; have kl := keep2 hb L5.out; have kr := keep2 hb R5.out)
            | (go_at_call_of 29 (hiOf (sat (sat (x + y) + z))); refine (E3.out _ (C5.out.g.below hb)).mono ?_; rintro e w2 ⟨rfl, hb2⟩; replace hb := hb.trans (hb2.mono hb.size); clear hb2 kb kc ks kl kr; have kb := keep2 hb C5.out.b; have kc := keep2 hb C5.out.c; have ks := keep2 hb S5.out; have kl := keep2 hb L5.out; have kr := keep2 hb R5.out))
          go_meet
          exact ⟨rfl, hb⟩
      · have E1 := Lib.hid (g_ends_at _ _ h1)
        have E2 := Lib.hid (g_ends_at _ _ h2)
        clear h1 h2
        go_wp2_with (first
          | (go_at_call_of 29 (hiOf (sat (x + y))); refine (E1.out _ (C5.out.g.below hb)).mono ?_; rintro e w2 ⟨rfl, hb2⟩; replace hb := hb.trans (hb2.mono hb.size); clear hb2 kb kc ks kl kr; have kb := keep2 hb C5.out.b; have kc := keep2 hb C5.out.c; have ks := keep2 hb S5.out; have kl := keep2 hb L5.out; have kr := keep2 hb R5.out)
          | (go_at_call_of 13 (hiOf y); refine (P2.out _ (C5.out.g.below hb)).mono ?_; rintro e w2 ⟨rfl, hb2⟩; replace hb := hb.trans (hb2.mono hb.size); clear hb2 kb kc ks kl kr; have kb := keep2 hb C5.out.b; have kc := keep2 hb C5.out.c; have ks := keep2 hb S5.out; have kl := keep2 hb L5.out; have kr := keep2 hb R5.out)
          | (go_at_call_of 29 (hiOf (sat (y + z))); refine (E2.out _ (C5.out.g.below hb)).mono ?_; rintro e w2 ⟨rfl, hb2⟩; replace hb := hb.trans (hb2.mono hb.size); clear hb2 kb kc ks kl kr; have kb := keep2 hb C5.out.b; have kc := keep2 hb C5.out.c; have ks := keep2 hb S5.out; have kl := keep2 hb L5.out; have kr := keep2 hb R5.out))
        go_meet
        exact ⟨rfl, hb⟩
    · have E1 := Lib.hid (g_ends_at _ _ h1)
      clear h1
      go_wp2_with (first
        | (go_at_call_of 29 (hiOf (sat (x + y))); refine (E1.out _ (C5.out.g.below hb)).mono ?_; rintro e w2 ⟨rfl, hb2⟩; replace hb := hb.trans (hb2.mono hb.size); clear hb2 kb kc ks kl kr; have kb := keep2 hb C5.out.b; have kc := keep2 hb C5.out.c; have ks := keep2 hb S5.out; have kl := keep2 hb L5.out; have kr := keep2 hb R5.out))
      go_meet
      exact ⟨rfl, hb⟩
  case rest =>
  obtain ⟨rfl, hb⟩ := hcut
  have C6 := Lib.hid (C5.out.on hb)
  clear hb C5 S5 L5 R5
  go_upto_region 11 with fail
  go_cut [12, 13] from 79 to 84 (fun l r wr => Laid wr l (sat (x + z)) ∧ Laid wr r (sat (y + z)) ∧ Below wc.heap.size wc wr)
  case first =>
    have P1 := Lib.hid (g_add x z Hx.out Hz.out)
    have P2 := Lib.hid (g_add y z Hy.out Hz.out)
    obtain ⟨a0, a1, _⟩ := C6.out.a
    obtain ⟨b0, b1, _⟩ := C6.out.b
    obtain ⟨c0, c1, _⟩ := C6.out.c
    have lt2 : ∀ n : Nat, n < n + 1 + 1 := fun n => by omega
    go_region_held3 (fun W' => W'.cell? ⟨w.heap.size, 0, none⟩ = some (.int .i64 (hiOf x)) ∧ W'.cell? ⟨w.heap.size, 1, none⟩ = some (.int .u64 (loOf x)) ∧ W'.cell? ⟨w.heap.size + 1, 0, none⟩ = some (.int .i64 (hiOf y)) ∧ W'.cell? ⟨w.heap.size + 1, 1, none⟩ = some (.int .u64 (loOf y)) ∧ W'.cell? ⟨w.heap.size + 1 + 1, 0, none⟩ = some (.int .i64 (hiOf z)) ∧ W'.cell? ⟨w.heap.size + 1 + 1, 1, none⟩ = some (.int .u64 (loOf z)))
      (first | exact keep3 (by (repeat (first | (with_reducible exact Below.refl _ _) | (with_reducible assumption) | (with_reducible refine Below.drew ?_) | (with_reducible refine below_drewN ?_ _) | ((with_reducible refine Below.alloc ?_ ?_ _); rotate_left; (focus (first | (simp; done) | (simp; omega) | omega))) | ((with_reducible refine Below.setCell ?_ ?_ _); rotate_left; (focus (first | (simp; done) | (simp; omega) | omega))) | ((with_reducible refine Below.trans ?_ (Below.mono (by assumption) ?_)); rotate_left; (focus (first | (simp; done) | (simp; omega) | omega)))))) C6.out.a C6.out.b C6.out.c)
      (first
        | (go_at_call_of 13 (hiOf x); refine (P1.out _ (C6.out.g.below (by (repeat (first | (with_reducible exact Below.refl _ _) | (with_reducible assumption) | (with_reducible refine Below.drew ?_) | (with_reducible refine below_drewN ?_ _) | ((with_reducible refine Below.alloc ?_ ?_ _); rotate_left; (focus (first | (simp; done) | (simp; omega) | omega))) | ((with_reducible refine Below.setCell ?_ ?_ _); rotate_left; (focus (first | (simp; done) | (simp; omega) | omega))) | ((with_reducible refine Below.trans ?_ (Below.mono (by assumption) ?_)); rotate_left; (focus (first | (simp; done) | (simp; omega) | omega)))))))).mono ?_; rintro e wA ⟨rfl, hb⟩; have sz := hb.size; (try simp at sz); obtain ⟨hc, hf⟩ := bcell hb; (try have u : wc.heap.size < wA.heap.size := by omega); (try have u : wc.heap.size + 1 < wA.heap.size := by omega); (try have u : wB.heap.size < wA.heap.size := by omega); (try have u : wB.heap.size + 1 < wA.heap.size := by omega); (try have t1 := hc (wc.heap.size) 0 (by first | (simp; done) | (simp; omega) | omega)); (try have t2 := hc (wc.heap.size) 1 (by first | (simp; done) | (simp; omega) | omega)); (try have t3 := hf (wc.heap.size) 0 (by first | (simp; done) | (simp; omega) | omega)); (try have t4 := hf (wc.heap.size) 1 (by first | (simp; done) | (simp; omega) | omega)); (try have t1 := hc (wc.heap.size + 1) 0 (by first | (simp; done) | (simp; omega) | omega)); (try have t2 := hc (wc.heap.size + 1) 1 (by first | (simp; done) | (simp; omega) | omega)); (try have t3 := hf (wc.heap.size + 1) 0 (by first | (simp; done) | (simp; omega) | omega)); (try have t4 := hf (wc.heap.size + 1) 1 (by first | (simp; done) | (simp; omega) | omega)); (try have t1 := hc (wB.heap.size) 0 (by first | (simp; done) | (simp; omega) | omega)); (try have t2 := hc (wB.heap.size) 1 (by first | (simp; done) | (simp; omega) | omega)); (try have t3 := hf (wB.heap.size) 0 (by first | (simp; done) | (simp; omega) | omega)); (try have t4 := hf (wB.heap.size) 1 (by first | (simp; done) | (simp; omega) | omega)); (try have t1 := hc (wB.heap.size + 1) 0 (by first | (simp; done) | (simp; omega) | omega)); (try have t2 := hc (wB.heap.size + 1) 1 (by first | (simp; done) | (simp; omega) | omega)); (try have t3 := hf (wB.heap.size + 1) 0 (by first | (simp; done) | (simp; omega) | omega)); (try have t4 := hf (wB.heap.size + 1) 1 (by first | (simp; done) | (simp; omega) | omega)); clear hc hf)
        | (go_at_call_of 13 (hiOf y); refine (P2.out _ (C6.out.g.below (by (repeat (first | (with_reducible exact Below.refl _ _) | (with_reducible assumption) | (with_reducible refine Below.drew ?_) | (with_reducible refine below_drewN ?_ _) | ((with_reducible refine Below.alloc ?_ ?_ _); rotate_left; (focus (first | (simp; done) | (simp; omega) | omega))) | ((with_reducible refine Below.setCell ?_ ?_ _); rotate_left; (focus (first | (simp; done) | (simp; omega) | omega))) | ((with_reducible refine Below.trans ?_ (Below.mono (by assumption) ?_)); rotate_left; (focus (first | (simp; done) | (simp; omega) | omega)))))))).mono ?_; rintro e wB ⟨rfl, hb⟩; have sz := hb.size; (try simp at sz); obtain ⟨hc, hf⟩ := bcell hb; (try have u : wc.heap.size < wB.heap.size := by omega); (try have u : wc.heap.size + 1 < wB.heap.size := by omega); (try have u : wA.heap.size < wB.heap.size := by omega); (try have u : wA.heap.size + 1 < wB.heap.size := by omega); (try have t1 := hc (wc.heap.size) 0 (by first | (simp; done) | (simp; omega) | omega)); (try have t2 := hc (wc.heap.size) 1 (by first | (simp; done) | (simp; omega) | omega)); (try have t3 := hf (wc.heap.size) 0 (by first | (simp; done) | (simp; omega) | omega)); (try have t4 := hf (wc.heap.size) 1 (by first | (simp; done) | (simp; omega) | omega)); (try have t1 := hc (wc.heap.size + 1) 0 (by first | (simp; done) | (simp; omega) | omega)); (try have t2 := hc (wc.heap.size + 1) 1 (by first | (simp; done) | (simp; omega) | omega)); (try have t3 := hf (wc.heap.size + 1) 0 (by first | (simp; done) | (simp; omega) | omega)); (try have t4 := hf (wc.heap.size + 1) 1 (by first | (simp; done) | (simp; omega) | omega)); (try have t1 := hc (wA.heap.size) 0 (by first | (simp; done) | (simp; omega) | omega)); (try have t2 := hc (wA.heap.size) 1 (by first | (simp; done) | (simp; omega) | omega)); (try have t3 := hf (wA.heap.size) 0 (by first | (simp; done) | (simp; omega) | omega)); (try have t4 := hf (wA.heap.size) 1 (by first | (simp; done) | (simp; omega) | omega)); (try have t1 := hc (wA.heap.size + 1) 0 (by first | (simp; done) | (simp; omega) | omega)); (try have t2 := hc (wA.heap.size + 1) 1 (by first | (simp; done) | (simp; omega) | omega)); (try have t3 := hf (wA.heap.size + 1) 0 (by first | (simp; done) | (simp; omega) | omega)); (try have t4 := hf (wA.heap.size + 1) 1 (by first | (simp; done) | (simp; omega) | omega)); clear hc hf))
    all_goals
      go_wp2_with fail
      go_meet
      exact ⟨⟨_, rfl, by (repeat (first | ((with_reducible refine At.new _ _ _ ?_ ?_ ?_); (focus (first | (simp; done) | (simp; omega) | omega)); (focus rfl); (focus rfl)) | (with_reducible refine At.stored (u := 0) ?_) | ((with_reducible refine At.other ?_ ?_ _); rotate_left; (focus (dsimp only; omega))) | (with_reducible refine At.alloc ?_ _) | (with_reducible refine At.drew ?_) | (with_reducible refine At.below ?_ (by assumption))))⟩, ⟨_, rfl, by (repeat (first | ((with_reducible refine At.new _ _ _ ?_ ?_ ?_); (focus (first | (simp; done) | (simp; omega) | omega)); (focus rfl); (focus rfl)) | (with_reducible refine At.stored (u := 0) ?_) | ((with_reducible refine At.other ?_ ?_ _); rotate_left; (focus (dsimp only; omega))) | (with_reducible refine At.alloc ?_ _) | (with_reducible refine At.drew ?_) | (with_reducible refine At.below ?_ (by assumption))))⟩, by (repeat (first | (with_reducible exact Below.refl _ _) | (with_reducible assumption) | (with_reducible refine Below.drew ?_) | (with_reducible refine below_drewN ?_ _) | ((with_reducible refine Below.alloc ?_ ?_ _); rotate_left; (focus (first | (simp; done) | (simp; omega) | omega))) | ((with_reducible refine Below.setCell ?_ ?_ _); rotate_left; (focus (first | (simp; done) | (simp; omega) | omega))) | ((with_reducible refine Below.trans ?_ (Below.mono (by assumption) ?_)); rotate_left; (focus (first | (simp; done) | (simp; omega) | omega)))))⟩
  case rest =>
  obtain ⟨⟨pl, rfl, L⟩, ⟨pr, rfl, R⟩, hb⟩ := hcut
  have C7 := Lib.hid (C6.out.on hb)
  have L7 := Lib.hid L
  have R7 := Lib.hid R
  clear hb C6 L R
  go_upto_region 12 with fail
  go_cut [113] from 85 to 113 (fun v wr => v = .bool false ∧ Below wc.heap.size wc wr)
  case first =>
    obtain ⟨a0, a1⟩ := C7.out.a.q
    obtain ⟨b0, b1⟩ := C7.out.b.q
    obtain ⟨l0, l1⟩ := L7.out.q
    obtain ⟨r0, r1⟩ := R7.out.q
    have Q1 := Lib.hid (g_cmp x y)
    have Q2 := Lib.hid (g_cmp (sat (x + z)) (sat (y + z)))
    rcases law_cmps x y z with ⟨h1, h2, h3⟩ | ⟨h1, h2, h3, h4⟩ | ⟨h1, h2, h3, h4⟩ | ⟨h1, h3⟩ | ⟨h1, h3, h4⟩ | ⟨h1, h2, h3, h4⟩
    · rw [h1] at Q1
      have k2 : decide (0 < sgn (sat (x + z)) (sat (y + z))) = false := by simpa using h2
      have E1 := Lib.hid (g_ends_at _ _ h3)
      clear h1 h2 h3
      refine wp_region_quiet_below (by kernel_rfl) (by kernel_rfl) ?_
      repeat (go_big_quiet_step (first | (with_reducible exact (Q1.out.quiet C7.out.g _ _)) | (with_reducible exact (Q2.out.quiet C7.out.g _ _)) | (with_reducible exact (E1.out.quiet C7.out.g _ _))))
      (refine wpQuiet_nil ?_; intro _ hw'; obtain ⟨⟨dq, osq⟩, hw''⟩ := hw'; subst hw'')
      go_wp2_with fail
      go_meet
      exact ⟨rfl, below_quiet _ _⟩
    · rw [h1] at Q1
      have k2 : decide (0 < sgn (sat (x + z)) (sat (y + z))) = false := by simpa using h2
      have E1 := Lib.hid (g_ends_at _ _ h3)
      have E2 := Lib.hid (g_ends_at _ _ h4)
      clear h1 h2 h3 h4
      refine wp_region_quiet_below (by kernel_rfl) (by kernel_rfl) ?_
      repeat (go_big_quiet_step (first | (with_reducible exact (Q1.out.quiet C7.out.g _ _)) | (with_reducible exact (Q2.out.quiet C7.out.g _ _)) | (with_reducible exact (E1.out.quiet C7.out.g _ _)) | (with_reducible exact (E2.out.quiet C7.out.g _ _))))
      (refine wpQuiet_nil ?_; intro _ hw'; obtain ⟨⟨dq, osq⟩, hw''⟩ := hw'; subst hw'')
      go_wp2_with fail
      go_meet
      exact ⟨rfl, below_quiet _ _⟩
    · rw [h1] at Q1
      rw [h2] at Q2
      have E1 := Lib.hid (g_ends_at _ _ h3)
      have E2 := Lib.hid (g_ends_at _ _ h4)
      clear h1 h2 h3 h4
      refine wp_region_quiet_below (by kernel_rfl) (by kernel_rfl) ?_
      repeat (go_big_quiet_step (first | (with_reducible exact (Q1.out.quiet C7.out.g _ _)) | (with_reducible exact (Q2.out.quiet C7.out.g _ _)) | (with_reducible exact (E1.out.quiet C7.out.g _ _)) | (with_reducible exact (E2.out.quiet C7.out.g _ _))))
      (refine wpQuiet_nil ?_; intro _ hw'; obtain ⟨⟨dq, osq⟩, hw''⟩ := hw'; subst hw'')
      go_wp2_with fail
      go_meet
      exact ⟨rfl, below_quiet _ _⟩
    · have k1 : decide (sgn x y < 0) = false := by simpa using h1
      have E1 := Lib.hid (g_ends_at _ _ h3)
      clear h1 h3
      refine wp_region_quiet_below (by kernel_rfl) (by kernel_rfl) ?_
      repeat (go_big_quiet_step (first | (with_reducible exact (Q1.out.quiet C7.out.g _ _)) | (with_reducible exact (Q2.out.quiet C7.out.g _ _)) | (with_reducible exact (E1.out.quiet C7.out.g _ _))))
      (refine wpQuiet_nil ?_; intro _ hw'; obtain ⟨⟨dq, osq⟩, hw''⟩ := hw'; subst hw'')
      go_wp2_with fail
      go_meet
      exact ⟨rfl, below_quiet _ _⟩
    · have k1 : decide (sgn x y < 0) = false := by simpa using h1
      have E1 := Lib.hid (g_ends_at _ _ h3)
      have E2 := Lib.hid (g_ends_at _ _ h4)
      clear h1 h3 h4
      refine wp_region_quiet_below (by kernel_rfl) (by kernel_rfl) ?_
      repeat (go_big_quiet_step (first | (with_reducible exact (Q1.out.quiet C7.out.g _ _)) | (with_reducible exact (Q2.out.quiet C7.out.g _ _)) | (with_reducible exact (E1.out.quiet C7.out.g _ _)) | (with_reducible exact (E2.out.quiet C7.out.g _ _))))
      (refine wpQuiet_nil ?_; intro _ hw'; obtain ⟨⟨dq, osq⟩, hw''⟩ := hw'; subst hw'')
      go_wp2_with fail
      go_meet
      exact ⟨rfl, below_quiet _ _⟩
    · have k1 : decide (sgn x y < 0) = false := by simpa using h1
      rw [h2] at Q2
      have E1 := Lib.hid (g_ends_at _ _ h3)
      have E2 := Lib.hid (g_ends_at _ _ h4)
      clear h1 h2 h3 h4
      refine wp_region_quiet_below (by kernel_rfl) (by kernel_rfl) ?_
      repeat (go_big_quiet_step (first | (with_reducible exact (Q1.out.quiet C7.out.g _ _)) | (with_reducible exact (Q2.out.quiet C7.out.g _ _)) | (with_reducible exact (E1.out.quiet C7.out.g _ _)) | (with_reducible exact (E2.out.quiet C7.out.g _ _))))
      (refine wpQuiet_nil ?_; intro _ hw'; obtain ⟨⟨dq, osq⟩, hw''⟩ := hw'; subst hw'')
      go_wp2_with fail
      go_meet
      exact ⟨rfl, below_quiet _ _⟩
  case rest =>
  obtain ⟨rfl, hb⟩ := hcut
  have C8 := Lib.hid (C7.out.on hb)
  clear hb C7 L7 R7
  go_upto_region 14 with fail
  go_cut [14, 15, 16] from 114 to 121 (fun q r ok wr => (∃ q' r' ok', Laid wr q q' ∧ r = .int .u64 r' ∧ ok = .bool ok' ∧ Hid (DivOut x n q' r' ok')) ∧ Below wc.heap.size wc wr)
  case first =>
    obtain ⟨a0, a1, _⟩ := C8.out.a
    by_cases h0 : n = 0
    · subst h0
      go_wp2_with (go_at_call 27; refine (g_div0 x _ C8.out.g).mono ?_; rintro e w2 ⟨rfl, hb⟩)
      go_meet
      exact ⟨⟨0, 0, false, ⟨_, rfl, At.new _ _ _ rfl rfl rfl⟩, rfl, rfl, Lib.hid (.inr ⟨rfl, rfl, rfl, rfl⟩)⟩, hb.trans ((below_alloc _ _).mono hb.size)⟩
    · have hpos : 0 < n := by omega
      have D := Lib.hid (g_div x n Hx.out ⟨n0, by omega⟩ hpos)
      clear h0
      go_wp2_with (go_at_call 27; refine (D.out _ C8.out.g).mono ?_; rintro e w2 ⟨rfl, hb⟩)
      go_meet
      exact ⟨⟨x / n, x % n, true, ⟨_, rfl, At.new _ _ _ rfl rfl rfl⟩, rfl, rfl, Lib.hid (.inl ⟨hpos, rfl, rfl, rfl⟩)⟩, hb.trans ((below_alloc _ _).mono hb.size)⟩
  case rest =>
  obtain ⟨⟨q, r, ok, ⟨pq, rfl, Q⟩, rfl, rfl, D⟩, hb⟩ := hcut
  have C9 := Lib.hid (C8.out.on hb)
  have Q9 := Lib.hid Q
  clear hb C8 Q
  go_upto_region 15 with fail
  go_cut [149] from 122 to 149 (fun v wr => v = .bool false ∧ Below wc.heap.size wc wr)
  case first =>
    obtain ⟨a0, a1⟩ := C9.out.a.q
    obtain ⟨q0, q1⟩ := Q9.out.q
    rcases D.out with ⟨d1, rfl, rfl, rfl⟩ | ⟨rfl, rfl, rfl, rfl⟩
    · have m0 := Int.emod_nonneg x (show n ≠ 0 by omega)
      have m1 := Int.emod_lt_of_pos x d1
      have k0 : decide (0 < n) = true := by simpa using d1
      have km : decide (n ≤ x % n) = false := by simpa using m1
      have S1 := Lib.hid (g_scale (x / n) n (div_in' Hx.out d1) ⟨n0, n1⟩)
      have O1 := Lib.hid (g_of (x % n) ⟨by omega, by omega⟩)
      have A1 := Lib.hid (g_add (sat (x / n * n)) (x % n) (sat_in _) (by unfold In; omega))
      rcases law_divs x n Hx.out d1 n1 with h | ⟨h1, h2⟩ | ⟨h1, h2, h3⟩
      · rw [h] at A1
        clear h
        refine wp_region_quiet_below (by kernel_rfl) (by kernel_rfl) ?_
        repeat (go_big_quiet_step (first | (with_reducible exact (S1.out.quiet C9.out.g _ _)) | (with_reducible exact (O1.out.quiet C9.out.g _ _)) | (with_reducible exact (A1.out.quiet C9.out.g _ _))))
        (refine wpQuiet_nil ?_; intro _ hw'; obtain ⟨⟨dq, osq⟩, hw''⟩ := hw'; subst hw'')
        go_wp2_with fail
        go_meet
        exact ⟨rfl, below_quiet _ _⟩
      · have k1 : (hiOf (sat (sat (x / n * n) + x % n)) == hiOf x) = false := by simpa using h1
        have k2 : decide (-9223372036854775808 < hiOf x) = false := by simpa using h2
        clear h1 h2
        refine wp_region_quiet_below (by kernel_rfl) (by kernel_rfl) ?_
        repeat (go_big_quiet_step (first | (with_reducible exact (S1.out.quiet C9.out.g _ _)) | (with_reducible exact (O1.out.quiet C9.out.g _ _)) | (with_reducible exact (A1.out.quiet C9.out.g _ _))))
        (refine wpQuiet_nil ?_; intro _ hw'; obtain ⟨⟨dq, osq⟩, hw''⟩ := hw'; subst hw'')
        go_wp2_with fail
        go_meet
        exact ⟨rfl, below_quiet _ _⟩
      · rw [h1] at A1
        have k1 : (loOf (sat (sat (x / n * n) + x % n)) == loOf x) = false := by simpa using h2
        have k2 : decide (-9223372036854775808 < hiOf x) = false := by simpa using h3
        clear h1 h2 h3
        refine wp_region_quiet_below (by kernel_rfl) (by kernel_rfl) ?_
        repeat (go_big_quiet_step (first | (with_reducible exact (S1.out.quiet C9.out.g _ _)) | (with_reducible exact (O1.out.quiet C9.out.g _ _)) | (with_reducible exact (A1.out.quiet C9.out.g _ _))))
        (refine wpQuiet_nil ?_; intro _ hw'; obtain ⟨⟨dq, osq⟩, hw''⟩ := hw'; subst hw'')
        go_wp2_with fail
        go_meet
        exact ⟨rfl, below_quiet _ _⟩
    · refine wp_region_quiet_below (by kernel_rfl) (by kernel_rfl) ?_
      repeat (go_big_quiet_step (first | (with_reducible exact (K.out.quiet C9.out.g _ _))))
      (refine wpQuiet_nil ?_; intro _ hw'; obtain ⟨⟨dq, osq⟩, hw''⟩ := hw'; subst hw'')
      go_wp2_with fail
      go_meet
      exact ⟨rfl, below_quiet _ _⟩
  case rest =>
  obtain ⟨rfl, hb⟩ := hcut
  have C10 := Lib.hid (C9.out.on hb)
  clear hb C9 Q9 D
  have Hh := Lib.hid (g_half x)
  go_upto_region 17 with fail
  go_cut [17] from 150 to 151 (fun h wr => Laid wr h (x / 2) ∧ Below wc.heap.size wc wr)
  case first =>
    obtain ⟨a0, a1, _⟩ := C10.out.a
    go_wp2_with (go_at_call 25; refine (Hh.out _ C10.out.g).mono ?_; rintro e w2 ⟨rfl, hb⟩)
    go_meet
    exact ⟨⟨_, rfl, At.new _ _ _ rfl rfl rfl⟩, hb.trans ((below_alloc _ _).mono hb.size)⟩
  case rest =>
  obtain ⟨⟨ph, rfl, H⟩, hb⟩ := hcut
  have C11 := Lib.hid (C10.out.on hb)
  have H11 := Lib.hid H
  clear hb C10 H Hh
  go_upto_region 18 with fail
  go_cut [18] from 152 to 156 (fun r wr => Laid wr r (x % 2) ∧ Below wc.heap.size wc wr)
  case first =>
    have P1 := Lib.hid (g_add (x / 2) (x / 2) (half_in Hx.out) (half_in Hx.out))
    have P2 := Lib.hid (g_sub x (sat (x / 2 + x / 2)) Hx.out (sat_in _))
    rw [law_half x Hx.out] at P2
    obtain ⟨a0, a1, _⟩ := C11.out.a
    obtain ⟨h0, h1, _⟩ := H11.out
    have lt2 : ∀ n : Nat, n < n + 1 + 1 := fun n => by omega
    go_region_held3 (fun W' => W'.cell? ⟨w.heap.size, 0, none⟩ = some (.int .i64 (hiOf x)) ∧ W'.cell? ⟨w.heap.size, 1, none⟩ = some (.int .u64 (loOf x)) ∧ W'.cell? ⟨ph, 0, none⟩ = some (.int .i64 (hiOf (x / 2))) ∧ W'.cell? ⟨ph, 1, none⟩ = some (.int .u64 (loOf (x / 2))))
      (first | exact keep22 (by (repeat (first | (with_reducible exact Below.refl _ _) | (with_reducible assumption) | (with_reducible refine Below.drew ?_) | (with_reducible refine below_drewN ?_ _) | ((with_reducible refine Below.alloc ?_ ?_ _); rotate_left; (focus (first | (simp; done) | (simp; omega) | omega))) | ((with_reducible refine Below.setCell ?_ ?_ _); rotate_left; (focus (first | (simp; done) | (simp; omega) | omega))) | ((with_reducible refine Below.trans ?_ (Below.mono (by assumption) ?_)); rotate_left; (focus (first | (simp; done) | (simp; omega) | omega)))))) C11.out.a H11.out)
      (first
        | (go_at_call 13; refine (P1.out _ (C11.out.g.below (by (repeat (first | (with_reducible exact Below.refl _ _) | (with_reducible assumption) | (with_reducible refine Below.drew ?_) | (with_reducible refine below_drewN ?_ _) | ((with_reducible refine Below.alloc ?_ ?_ _); rotate_left; (focus (first | (simp; done) | (simp; omega) | omega))) | ((with_reducible refine Below.setCell ?_ ?_ _); rotate_left; (focus (first | (simp; done) | (simp; omega) | omega))) | ((with_reducible refine Below.trans ?_ (Below.mono (by assumption) ?_)); rotate_left; (focus (first | (simp; done) | (simp; omega) | omega)))))))).mono ?_; rintro e wA ⟨rfl, hb⟩; have sz := hb.size; (try simp at sz); obtain ⟨hc, hf⟩ := bcell hb; (try have u : wc.heap.size < wA.heap.size := by omega); (try have u : wc.heap.size + 1 < wA.heap.size := by omega); (try have u : wB.heap.size < wA.heap.size := by omega); (try have u : wB.heap.size + 1 < wA.heap.size := by omega); (try have t1 := hc (wc.heap.size) 0 (by first | (simp; done) | (simp; omega) | omega)); (try have t2 := hc (wc.heap.size) 1 (by first | (simp; done) | (simp; omega) | omega)); (try have t3 := hf (wc.heap.size) 0 (by first | (simp; done) | (simp; omega) | omega)); (try have t4 := hf (wc.heap.size) 1 (by first | (simp; done) | (simp; omega) | omega)); (try have t1 := hc (wc.heap.size + 1) 0 (by first | (simp; done) | (simp; omega) | omega)); (try have t2 := hc (wc.heap.size + 1) 1 (by first | (simp; done) | (simp; omega) | omega)); (try have t3 := hf (wc.heap.size + 1) 0 (by first | (simp; done) | (simp; omega) | omega)); (try have t4 := hf (wc.heap.size + 1) 1 (by first | (simp; done) | (simp; omega) | omega)); (try have t1 := hc (wB.heap.size) 0 (by first | (simp; done) | (simp; omega) | omega)); (try have t2 := hc (wB.heap.size) 1 (by first | (simp; done) | (simp; omega) | omega)); (try have t3 := hf (wB.heap.size) 0 (by first | (simp; done) | (simp; omega) | omega)); (try have t4 := hf (wB.heap.size) 1 (by first | (simp; done) | (simp; omega) | omega)); (try have t1 := hc (wB.heap.size + 1) 0 (by first | (simp; done) | (simp; omega) | omega)); (try have t2 := hc (wB.heap.size + 1) 1 (by first | (simp; done) | (simp; omega) | omega)); (try have t3 := hf (wB.heap.size + 1) 0 (by first | (simp; done) | (simp; omega) | omega)); (try have t4 := hf (wB.heap.size + 1) 1 (by first | (simp; done) | (simp; omega) | omega)); clear hc hf)
        | (go_at_call 15; refine (P2.out _ (C11.out.g.below (by (repeat (first | (with_reducible exact Below.refl _ _) | (with_reducible assumption) | (with_reducible refine Below.drew ?_) | (with_reducible refine below_drewN ?_ _) | ((with_reducible refine Below.alloc ?_ ?_ _); rotate_left; (focus (first | (simp; done) | (simp; omega) | omega))) | ((with_reducible refine Below.setCell ?_ ?_ _); rotate_left; (focus (first | (simp; done) | (simp; omega) | omega))) | ((with_reducible refine Below.trans ?_ (Below.mono (by assumption) ?_)); rotate_left; (focus (first | (simp; done) | (simp; omega) | omega)))))))).mono ?_; rintro e wB ⟨rfl, hb⟩; have sz := hb.size; (try simp at sz); obtain ⟨hc, hf⟩ := bcell hb; (try have u : wc.heap.size < wB.heap.size := by omega); (try have u : wc.heap.size + 1 < wB.heap.size := by omega); (try have u : wA.heap.size < wB.heap.size := by omega); (try have u : wA.heap.size + 1 < wB.heap.size := by omega); (try have t1 := hc (wc.heap.size) 0 (by first | (simp; done) | (simp; omega) | omega)); (try have t2 := hc (wc.heap.size) 1 (by first | (simp; done) | (simp; omega) | omega)); (try have t3 := hf (wc.heap.size) 0 (by first | (simp; done) | (simp; omega) | omega)); (try have t4 := hf (wc.heap.size) 1 (by first | (simp; done) | (simp; omega) | omega)); (try have t1 := hc (wc.heap.size + 1) 0 (by first | (simp; done) | (simp; omega) | omega)); (try have t2 := hc (wc.heap.size + 1) 1 (by first | (simp; done) | (simp; omega) | omega)); (try have t3 := hf (wc.heap.size + 1) 0 (by first | (simp; done) | (simp; omega) | omega)); (try have t4 := hf (wc.heap.size + 1) 1 (by first | (simp; done) | (simp; omega) | omega)); (try have t1 := hc (wA.heap.size) 0 (by first | (simp; done) | (simp; omega) | omega)); (try have t2 := hc (wA.heap.size) 1 (by first | (simp; done) | (simp; omega) | omega)); (try have t3 := hf (wA.heap.size) 0 (by first | (simp; done) | (simp; omega) | omega)); (try have t4 := hf (wA.heap.size) 1 (by first | (simp; done) | (simp; omega) | omega)); (try have t1 := hc (wA.heap.size + 1) 0 (by first | (simp; done) | (simp; omega) | omega)); (try have t2 := hc (wA.heap.size + 1) 1 (by first | (simp; done) | (simp; omega) | omega)); (try have t3 := hf (wA.heap.size + 1) 0 (by first | (simp; done) | (simp; omega) | omega)); (try have t4 := hf (wA.heap.size + 1) 1 (by first | (simp; done) | (simp; omega) | omega)); clear hc hf))
    all_goals
      go_wp2_with fail
      go_meet
      exact ⟨⟨_, rfl, by (repeat (first | ((with_reducible refine At.new _ _ _ ?_ ?_ ?_); (focus (first | (simp; done) | (simp; omega) | omega)); (focus rfl); (focus rfl)) | (with_reducible refine At.stored (u := 0) ?_) | ((with_reducible refine At.other ?_ ?_ _); rotate_left; (focus (dsimp only; omega))) | (with_reducible refine At.alloc ?_ _) | (with_reducible refine At.drew ?_) | (with_reducible refine At.below ?_ (by assumption))))⟩, by (repeat (first | (with_reducible exact Below.refl _ _) | (with_reducible assumption) | (with_reducible refine Below.drew ?_) | (with_reducible refine below_drewN ?_ _) | ((with_reducible refine Below.alloc ?_ ?_ _); rotate_left; (focus (first | (simp; done) | (simp; omega) | omega))) | ((with_reducible refine Below.setCell ?_ ?_ _); rotate_left; (focus (first | (simp; done) | (simp; omega) | omega))) | ((with_reducible refine Below.trans ?_ (Below.mono (by assumption) ?_)); rotate_left; (focus (first | (simp; done) | (simp; omega) | omega)))))⟩
  case rest =>
  obtain ⟨⟨pr, rfl, R⟩, hb⟩ := hcut
  have C12 := Lib.hid (C11.out.on hb)
  have R12 := Lib.hid R
  clear hb C11 H11 R
  go_upto_region 19 with fail
  obtain ⟨r0, r1⟩ := R12.out.q
  have O0 := Lib.hid (g_of 0 ⟨by decide, by decide⟩)
  have O1 := Lib.hid (g_of 1 ⟨by decide, by decide⟩)
  rcases (show x % 2 = 0 ∨ x % 2 = 1 by omega) with h | h
  · rw [h] at r0 r1
    clear h
    refine wp_region_quiet_below (by kernel_rfl) (by kernel_rfl) ?_
    repeat (go_big_quiet_step (first | (with_reducible exact (O0.out.quiet C12.out.g _ _)) | (with_reducible exact (O1.out.quiet C12.out.g _ _))))
    (refine wpQuiet_nil ?_; intro _ hw'; obtain ⟨⟨dq, osq⟩, hw''⟩ := hw'; subst hw'')
    go_wp2
    go_ret
    exact ⟨rfl, C12.out.s.trans ((below_quiet _ _).mono C12.out.s.size)⟩
  · rw [h] at r0 r1
    clear h
    have k : (hiOf 1 == hiOf 0) = true := rfl
    have k1 : (loOf 1 == loOf 0) = false := rfl
    refine wp_region_quiet_below (by kernel_rfl) (by kernel_rfl) ?_
    repeat (go_big_quiet_step (first | (with_reducible exact (O0.out.quiet C12.out.g _ _)) | (with_reducible exact (O1.out.quiet C12.out.g _ _))))
    (refine wpQuiet_nil ?_; intro _ hw'; obtain ⟨⟨dq, osq⟩, hw''⟩ := hw'; subst hw'')
    go_wp2
    go_ret
    exact ⟨rfl, C12.out.s.trans ((below_quiet _ _).mono C12.out.s.size)⟩
end Go.Proofs.YtleccjahkphocaaDoor
