/-
  Package fix: Moment, Split, Short, Frac, Parts: what each answers.
-/
import Derived.Test.YthmkfkmcamjnoaaDoorGives
namespace Go.Proofs.YthmkfkmcamjnoaaDoor
open Go.RowKit Go.Sort
/-- Are the parts within their bounds? -/
def withinB (n d : Int) : Bool := decide (d ≤ 1099511627776 ∧ n < d)
theorem within_any (n d : Int) (k0 : 0 ≤ d ∧ d ≤ 18446744073709551615) : Gives 46 #[.int .u64 n, .int .u64 d] (.bool (withinB n d)) := fun w _ => by
  by_cases a : 1099511627776 < d
  · have e : withinB n d = false := by unfold withinB; simp; omega
    rw [e]
    clear e
    go_enter Tryd.func46, Tryd.ntmps46
    go_wp2
    go_ret
    exact ⟨rfl, by (repeat (first | exact Below.refl _ _ | assumption | (refine Below.drew ?_) | (refine Below.alloc ?_ (by first | (simp; done) | (simp; omega) | omega) _) | (refine Below.setCell ?_ (by first | (simp; done) | (simp; omega) | omega) _) | (refine Below.trans ?_ (Below.mono (by assumption) (by first | (simp; done) | (simp; omega) | omega)))))⟩
  · by_cases b : n < d
    · have e : withinB n d = true := by unfold withinB; simp; omega
      rw [e]
      clear e
      go_enter Tryd.func46, Tryd.ntmps46
      go_wp2
      go_ret
      exact ⟨rfl, by (repeat (first | exact Below.refl _ _ | assumption | (refine Below.drew ?_) | (refine Below.alloc ?_ (by first | (simp; done) | (simp; omega) | omega) _) | (refine Below.setCell ?_ (by first | (simp; done) | (simp; omega) | omega) _) | (refine Below.trans ?_ (Below.mono (by assumption) (by first | (simp; done) | (simp; omega) | omega)))))⟩
    · have e : withinB n d = false := by unfold withinB; simp; omega
      rw [e]
      clear e
      go_enter Tryd.func46, Tryd.ntmps46
      go_wp2
      go_ret
      exact ⟨rfl, by (repeat (first | exact Below.refl _ _ | assumption | (refine Below.drew ?_) | (refine Below.alloc ?_ (by first | (simp; done) | (simp; omega) | omega) _) | (refine Below.setCell ?_ (by first | (simp; done) | (simp; omega) | omega) _) | (refine Below.trans ?_ (Below.mono (by assumption) (by first | (simp; done) | (simp; omega) | omega)))))⟩
set_option maxHeartbeats 1000000 in
theorem f_moment (s f : Int) (hs : -9223372036854775808 ≤ s ∧ s ≤ 9223372036854775807) (hf : 0 ≤ f ∧ f ≤ 4294967295) :
    Gives 40 #[.int .i64 s, .int .u32 f] (.agg #[.int .i64 (hiOf (s * 4294967296 + f)), .int .u64 (loOf (s * 4294967296 + f))]) := fun w hg => by
  have M := Lib.hid ((g_mul s 4294967296 hs (by omega)).as rfl (v' := .agg #[.int .i64 (hiOf (s * 4294967296)), .int .u64 (loOf (s * 4294967296))]) (by rw [sat_id (by unfold In; omega)]))
  have O := Lib.hid (g_of f (by omega))
  have A := Lib.hid ((g_add (s * 4294967296) f (by unfold In; omega) (by unfold In; omega)).as rfl (v' := .agg #[.int .i64 (hiOf (s * 4294967296 + f)), .int .u64 (loOf (s * 4294967296 + f))]) (by rw [sat_id (by unfold In; omega)]))
  have G := Lib.hid hg
  have cv : IntKind.i64.wrap f = f := by rw [IntKind.wrap_i64]; omega
  clear hg
  go_enter Tryd.func40, Tryd.ntmps40
  go_wp2_with (first
    | (go_at_call 47; refine (M.out _ (G.out.below (by (repeat (first | exact Below.refl _ _ | assumption | (refine Below.drew ?_) | (refine Below.alloc ?_ (by first | (simp; done) | (simp; omega) | omega) _) | (refine Below.setCell ?_ (by first | (simp; done) | (simp; omega) | omega) _) | (refine Below.trans ?_ (Below.mono (by assumption) (by first | (simp; done) | (simp; omega) | omega)))))))).mono ?_; rintro e w1 ⟨rfl, hb⟩; (obtain ⟨hc, hf⟩ := bcell hb; have sz := hb.size; simp at sz; have c0 := hc w.heap.size 0 (by first | (simp; done) | (simp; omega) | omega); have c1 := hc w.heap.size 1 (by first | (simp; done) | (simp; omega) | omega); have f0 := hf w.heap.size 0 (by first | (simp; done) | (simp; omega) | omega); have f1 := hf w.heap.size 1 (by first | (simp; done) | (simp; omega) | omega)))
    | (go_at_call 61; refine (O.out _ ((G.out.below (show Below w.heap.size w _ by (repeat (first | exact Below.refl _ _ | assumption | (refine Below.drew ?_) | (refine Below.alloc ?_ (by first | (simp; done) | (simp; omega) | omega) _) | (refine Below.setCell ?_ (by first | (simp; done) | (simp; omega) | omega) _) | (refine Below.trans ?_ (Below.mono (by assumption) (by first | (simp; done) | (simp; omega) | omega))))))).below hb)).mono ?_; rintro e w2 ⟨rfl, hb2⟩; (replace hb := hb.trans (hb2.mono hb.size); clear hb2; try clear sz; try clear c0; try clear c1; try clear f0; try clear f1; try clear hc; try clear hf; (obtain ⟨hc, hf⟩ := bcell hb; have sz := hb.size; simp at sz; have c0 := hc w.heap.size 0 (by first | (simp; done) | (simp; omega) | omega); have c1 := hc w.heap.size 1 (by first | (simp; done) | (simp; omega) | omega); have f0 := hf w.heap.size 0 (by first | (simp; done) | (simp; omega) | omega); have f1 := hf w.heap.size 1 (by first | (simp; done) | (simp; omega) | omega))))
    | (go_at_call 39; refine (A.out _ ((G.out.below (show Below w.heap.size w _ by (repeat (first | exact Below.refl _ _ | assumption | (refine Below.drew ?_) | (refine Below.alloc ?_ (by first | (simp; done) | (simp; omega) | omega) _) | (refine Below.setCell ?_ (by first | (simp; done) | (simp; omega) | omega) _) | (refine Below.trans ?_ (Below.mono (by assumption) (by first | (simp; done) | (simp; omega) | omega))))))).below hb)).mono ?_; rintro e w3 ⟨rfl, hb2⟩; (replace hb := hb.trans (hb2.mono hb.size); clear hb2; try clear sz; try clear c0; try clear c1; try clear f0; try clear f1; try clear hc; try clear hf; (obtain ⟨hc, hf⟩ := bcell hb; have sz := hb.size; simp at sz; have c0 := hc w.heap.size 0 (by first | (simp; done) | (simp; omega) | omega); have c1 := hc w.heap.size 1 (by first | (simp; done) | (simp; omega) | omega); have f0 := hf w.heap.size 0 (by first | (simp; done) | (simp; omega) | omega); have f1 := hf w.heap.size 1 (by first | (simp; done) | (simp; omega) | omega)))))
  exact bodyPost_ret (v := .agg #[.int .i64 (hiOf (s * 4294967296 + f)), .int .u64 (loOf (s * 4294967296 + f))]) (by simp [results, Tryd.results40, go_sem, c0, c1]) rfl (And.intro rfl (by (repeat (first | exact Below.refl _ _ | assumption | (refine Below.drew ?_) | (refine Below.alloc ?_ (by first | (simp; done) | (simp; omega) | omega) _) | (refine Below.setCell ?_ (by first | (simp; done) | (simp; omega) | omega) _) | (refine Below.trans ?_ (Below.mono (by assumption) (by first | (simp; done) | (simp; omega) | omega)))))))
/-- The least number of units. -/
def fracI (n d : Int) : Int := if withinB n d then (if 0 < n * 4294967296 % d ∧ n * 4294967296 / d < 4294967295 then n * 4294967296 / d + 1 else n * 4294967296 / d) else 0
theorem fquot_bd {n d : Int} (hn : 0 ≤ n) (h : withinB n d = true) : 0 < d ∧ d ≤ 1099511627776 ∧ n < d ∧ 0 ≤ n * 4294967296 / d ∧ n * 4294967296 / d ≤ 4294967295 ∧ 0 ≤ n * 4294967296 % d ∧ n * 4294967296 % d < d := by
  unfold withinB at h
  simp at h
  have d0 : 0 < d := by omega
  refine ⟨d0, h.1, h.2, Int.ediv_nonneg (by omega) (by omega), ?_, Int.emod_nonneg _ (by omega), Int.emod_lt_of_pos _ d0⟩
  have : n * 4294967296 / d < 4294967296 := Int.ediv_lt_of_lt_mul d0 (by omega)
  omega
set_option maxHeartbeats 2000000 in
theorem f_frac (n d : Int) (hn : 0 ≤ n ∧ n ≤ 18446744073709551615) (hd : 0 ≤ d ∧ d ≤ 18446744073709551615) : Gives 36 #[.int .u64 n, .int .u64 d] (.tuple #[.int .u32 (fracI n d), .bool (withinB n d)]) := fun w hg => by
  have W := Lib.hid (within_any n d hd)
  cases h : withinB n d
  · rw [h] at W
    rw [show fracI n d = 0 by unfold fracI; rw [h]; rfl]
    clear h hn hd
    have G := Lib.hid hg
    clear hg
    go_enter Tryd.func36, Tryd.ntmps36
    go_wp2_with (go_at_call 46; refine (W.out _ G.out).mono ?_; rintro e w1 ⟨rfl, hb⟩)
    go_ret2
    exact ⟨rfl, by (repeat (first | exact Below.refl _ _ | assumption | (refine Below.drew ?_) | (refine Below.alloc ?_ (by first | (simp; done) | (simp; omega) | omega) _) | (refine Below.setCell ?_ (by first | (simp; done) | (simp; omega) | omega) _) | (refine Below.trans ?_ (Below.mono (by assumption) (by first | (simp; done) | (simp; omega) | omega)))))⟩
  · rw [h] at W
    obtain ⟨d0, d1, nd, q0, q1, r0, r1⟩ := fquot_bd hn.1 h
    have cn : IntKind.i64.wrap n = n := by rw [IntKind.wrap_i64]; omega
    have iq : In (n * 4294967296) := by unfold In; omega
    have M := Lib.hid ((g_mul n 4294967296 (by omega) (by omega)).as rfl (v' := .agg #[.int .i64 (hiOf (n * 4294967296)), .int .u64 (loOf (n * 4294967296))]) (by rw [sat_id iq]))
    have D := Lib.hid ((g_div (n * 4294967296) d iq hd d0).as rfl (v' := .tuple #[.agg #[.int .i64 0, .int .u64 (n * 4294967296 / d)], .int .u64 (n * 4294967296 % d), .bool true]) (by
      rw [show hiOf (n * 4294967296 / d) = 0 by unfold hiOf; omega, show loOf (n * 4294967296 / d) = n * 4294967296 / d by unfold loOf; omega]))
    have F := Lib.hid (show fracI n d = if 0 < n * 4294967296 % d ∧ n * 4294967296 / d < 4294967295 then n * 4294967296 / d + 1 else n * 4294967296 / d by unfold fracI; rw [h]; rfl)
    have G := Lib.hid hg
    clear hg h iq
    generalize n * 4294967296 / d = q at *
    generalize n * 4294967296 % d = r at *
    by_cases hr : 0 < r
    · by_cases hq : q < 4294967295
      · have e1 : IntKind.u64.wrap (q + 1) = q + 1 := by rw [IntKind.wrap_u64]; omega
        have e2 : IntKind.u32.wrap (q + 1) = q + 1 := by rw [IntKind.wrap_u32]; omega
        rw [F.out, if_pos ⟨hr, hq⟩]
        go_enter Tryd.func36, Tryd.ntmps36
        go_wp2_with (first
          | (go_at_call 46; refine (W.out _ G.out).mono ?_; rintro e w1 ⟨rfl, hb⟩)
          | (go_at_call 47; refine (M.out _ (G.out.below hb)).mono ?_; rintro e w2 ⟨rfl, hb2⟩; replace hb := hb.trans (hb2.mono hb.size); clear hb2)
          | (go_at_call 44; refine (D.out _ (G.out.below hb)).mono ?_; rintro e w3 ⟨rfl, hb2⟩; replace hb := hb.trans (hb2.mono hb.size); clear hb2))
        go_ret2
        exact ⟨rfl, by have sz := hb.size; (repeat (first | exact Below.refl _ _ | assumption | (refine Below.drew ?_) | (refine Below.alloc ?_ (by first | (simp; done) | (simp; omega) | omega) _) | (refine Below.setCell ?_ (by first | (simp; done) | (simp; omega) | omega) _) | (refine Below.trans ?_ (Below.mono (by assumption) (by first | (simp; done) | (simp; omega) | omega)))))⟩
      · have e2 : IntKind.u32.wrap q = q := by rw [IntKind.wrap_u32]; omega
        rw [F.out, if_neg (by omega)]
        go_enter Tryd.func36, Tryd.ntmps36
        go_wp2_with (first
          | (go_at_call 46; refine (W.out _ G.out).mono ?_; rintro e w1 ⟨rfl, hb⟩)
          | (go_at_call 47; refine (M.out _ (G.out.below hb)).mono ?_; rintro e w2 ⟨rfl, hb2⟩; replace hb := hb.trans (hb2.mono hb.size); clear hb2)
          | (go_at_call 44; refine (D.out _ (G.out.below hb)).mono ?_; rintro e w3 ⟨rfl, hb2⟩; replace hb := hb.trans (hb2.mono hb.size); clear hb2))
        go_ret2
        exact ⟨rfl, by have sz := hb.size; (repeat (first | exact Below.refl _ _ | assumption | (refine Below.drew ?_) | (refine Below.alloc ?_ (by first | (simp; done) | (simp; omega) | omega) _) | (refine Below.setCell ?_ (by first | (simp; done) | (simp; omega) | omega) _) | (refine Below.trans ?_ (Below.mono (by assumption) (by first | (simp; done) | (simp; omega) | omega)))))⟩
    · have e2 : IntKind.u32.wrap q = q := by rw [IntKind.wrap_u32]; omega
      rw [F.out, if_neg (by omega)]
      go_enter Tryd.func36, Tryd.ntmps36
      go_wp2_with (first
        | (go_at_call 46; refine (W.out _ G.out).mono ?_; rintro e w1 ⟨rfl, hb⟩)
        | (go_at_call 47; refine (M.out _ (G.out.below hb)).mono ?_; rintro e w2 ⟨rfl, hb2⟩; replace hb := hb.trans (hb2.mono hb.size); clear hb2)
        | (go_at_call 44; refine (D.out _ (G.out.below hb)).mono ?_; rintro e w3 ⟨rfl, hb2⟩; replace hb := hb.trans (hb2.mono hb.size); clear hb2))
      go_ret2
      exact ⟨rfl, by have sz := hb.size; (repeat (first | exact Below.refl _ _ | assumption | (refine Below.drew ?_) | (refine Below.alloc ?_ (by first | (simp; done) | (simp; omega) | omega) _) | (refine Below.setCell ?_ (by first | (simp; done) | (simp; omega) | omega) _) | (refine Below.trans ?_ (Below.mono (by assumption) (by first | (simp; done) | (simp; omega) | omega)))))⟩
/-- How many whole parts. -/
def partsI (f d : Int) : Int := if withinB 0 d then f * d / 4294967296 else 0
theorem fprod_bd {f d : Int} (hf : 0 ≤ f ∧ f ≤ 4294967295) (h : withinB 0 d = true) : 0 < d ∧ d ≤ 1099511627776 ∧ 0 ≤ f * d ∧ f * d ≤ 4722366481770246144000 := by
  unfold withinB at h
  simp at h
  refine ⟨h.2, h.1, Int.mul_nonneg hf.1 (by omega), ?_⟩
  have := Int.mul_le_mul hf.2 h.1 (by omega) (by omega)
  omega
set_option maxHeartbeats 2000000 in
theorem f_parts (f d : Int) (hf : 0 ≤ f ∧ f ≤ 4294967295) (hd : 0 ≤ d ∧ d ≤ 18446744073709551615) : Gives 33 #[.int .u32 f, .int .u64 d] (.tuple #[.int .u64 (partsI f d), .bool (withinB 0 d)]) := fun w hg => by
  have W := Lib.hid (within_any 0 d hd)
  have G := Lib.hid hg
  clear hg
  cases h : withinB 0 d
  · rw [h] at W
    rw [show partsI f d = 0 by unfold partsI; rw [h]; rfl]
    clear h hf hd
    go_enter Tryd.func33, Tryd.ntmps33
    go_wp2_with (go_at_call 46; refine (W.out _ G.out).mono ?_; rintro e w1 ⟨rfl, hb⟩)
    go_ret2
    exact ⟨rfl, by (repeat (first | exact Below.refl _ _ | assumption | (refine Below.drew ?_) | (refine Below.alloc ?_ (by first | (simp; done) | (simp; omega) | omega) _) | (refine Below.setCell ?_ (by first | (simp; done) | (simp; omega) | omega) _) | (refine Below.trans ?_ (Below.mono (by assumption) (by first | (simp; done) | (simp; omega) | omega)))))⟩
  · rw [h] at W
    obtain ⟨d0, d1, p0, p1⟩ := fprod_bd hf h
    have c1 : IntKind.i64.wrap f = f := by rw [IntKind.wrap_i64]; omega
    have c2 : IntKind.i64.wrap d = d := by rw [IntKind.wrap_i64]; omega
    have ip : In (f * d) := by unfold In; omega
    have M := Lib.hid ((g_mul f d (by omega) (by omega)).as rfl (v' := .agg #[.int .i64 (hiOf (f * d)), .int .u64 (loOf (f * d))]) (by rw [sat_id ip]))
    have D := Lib.hid ((g_div (f * d) 4294967296 ip ⟨by omega, by omega⟩ (by omega)).as rfl (v' := .tuple #[.agg #[.int .i64 0, .int .u64 (f * d / 4294967296)], .int .u64 (f * d % 4294967296), .bool true]) (by
      rw [show hiOf (f * d / 4294967296) = 0 by unfold hiOf; omega, show loOf (f * d / 4294967296) = f * d / 4294967296 by unfold loOf; omega]))
    rw [show partsI f d = f * d / 4294967296 by unfold partsI; rw [h]; rfl]
    clear h ip p0 p1
    generalize f * d / 4294967296 = q at *
    go_enter Tryd.func33, Tryd.ntmps33
    go_wp2_with (first
      | (go_at_call 46; refine (W.out _ G.out).mono ?_; rintro e w1 ⟨rfl, hb⟩)
      | (go_at_call 47; refine (M.out _ (G.out.below hb)).mono ?_; rintro e w2 ⟨rfl, hb2⟩; replace hb := hb.trans (hb2.mono hb.size); clear hb2)
      | (go_at_call 44; refine (D.out _ (G.out.below hb)).mono ?_; rintro e w3 ⟨rfl, hb2⟩; replace hb := hb.trans (hb2.mono hb.size); clear hb2))
    go_ret2
    exact ⟨rfl, by have sz := hb.size; (repeat (first | exact Below.refl _ _ | assumption | (refine Below.drew ?_) | (refine Below.alloc ?_ (by first | (simp; done) | (simp; omega) | omega) _) | (refine Below.setCell ?_ (by first | (simp; done) | (simp; omega) | omega) _) | (refine Below.trans ?_ (Below.mono (by assumption) (by first | (simp; done) | (simp; omega) | omega)))))⟩
end Go.Proofs.YthmkfkmcamjnoaaDoor
