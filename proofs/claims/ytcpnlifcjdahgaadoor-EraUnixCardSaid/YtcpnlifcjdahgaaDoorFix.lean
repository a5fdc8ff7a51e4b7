/-
  Package fix: Moment, Split, Short, Frac, Parts: what each answers.
-/
import Derived.Test.YtcpnlifcjdahgaaDoorGives
namespace Go.Proofs.YtcpnlifcjdahgaaDoor
open Go.RowKit Go.Sort
/-- Are the parts within their bounds? -/
def withinB (n d : Int) : Bool := decide (d ≤ 1099511627776 ∧ n < d)
set_option maxHeartbeats 1000000 in
theorem f_moment (s f : Int) (hs : -9223372036854775808 ≤ s ∧ s ≤ 9223372036854775807) (hf : 0 ≤ f ∧ f ≤ 4294967295) :
    Gives 18 #[.int .i64 s, .int .u32 f] (.agg #[.int .i64 (hiOf (s * 4294967296 + f)), .int .u64 (loOf (s * 4294967296 + f))]) := fun w hg => by
  have M := Lib.hid ((g_mul s 4294967296 hs (by omega)).as rfl (v' := .agg #[.int .i64 (hiOf (s * 4294967296)), .int .u64 (loOf (s * 4294967296))]) (by rw [sat_id (by unfold In; omega)]))
  have O := Lib.hid (g_of f (by omega))
  have A := Lib.hid ((g_add (s * 4294967296) f (by unfold In; omega) (by unfold In; omega)).as rfl (v' := .agg #[.int .i64 (hiOf (s * 4294967296 + f)), .int .u64 (loOf (s * 4294967296 + f))]) (by rw [sat_id (by unfold In; omega)]))
  have G := Lib.hid hg
  have cv : IntKind.i64.wrap f = f := by rw [IntKind.wrap_i64]; omega
  clear hg
  go_enter Tryd.func18, Tryd.ntmps18
  go_wp2_with (first
    | (go_at_call 36; refine (M.out _ (G.out.below (by (repeat (first | exact Below.refl _ _ | assumption | (refine Below.drew ?_) | (refine Below.alloc ?_ (by first | (simp; done) | (simp; omega) | omega) _) | (refine Below.setCell ?_ (by first | (simp; done) | (simp; omega) | omega) _) | (refine Below.trans ?_ (Below.mono (by assumption) (by first | (simp; done) | (simp; omega) | omega)))))))).mono ?_; rintro e w1 ⟨rfl, hb⟩; (obtain ⟨hc, hf⟩ := bcell hb; have sz := hb.size; simp at sz; have c0 := hc w.heap.size 0 (by first | (simp; done) | (simp; omega) | omega); have c1 := hc w.heap.size 1 (by first | (simp; done) | (simp; omega) | omega); have f0 := hf w.heap.size 0 (by first | (simp; done) | (simp; omega) | omega); have f1 := hf w.heap.size 1 (by first | (simp; done) | (simp; omega) | omega)))
    | (go_at_call 37; refine (O.out _ ((G.out.below (show Below w.heap.size w _ by (repeat (first | exact Below.refl _ _ | assumption | (refine Below.drew ?_) | (refine Below.alloc ?_ (by first | (simp; done) | (simp; omega) | omega) _) | (refine Below.setCell ?_ (by first | (simp; done) | (simp; omega) | omega) _) | (refine Below.trans ?_ (Below.mono (by assumption) (by first | (simp; done) | (simp; omega) | omega))))))).below hb)).mono ?_; rintro e w2 ⟨rfl, hb2⟩; (replace hb := hb.trans (hb2.mono hb.size); clear hb2; try clear sz; try clear c0; try clear c1; try clear f0; try clear f1; try clear hc; try clear hf; (obtain ⟨hc, hf⟩ := bcell hb; have sz := hb.size; simp at sz; have c0 := hc w.heap.size 0 (by first | (simp; done) | (simp; omega) | omega); have c1 := hc w.heap.size 1 (by first | (simp; done) | (simp; omega) | omega); have f0 := hf w.heap.size 0 (by first | (simp; done) | (simp; omega) | omega); have f1 := hf w.heap.size 1 (by first | (simp; done) | (simp; omega) | omega))))
    | (go_at_call 26; refine (A.out _ ((G.out.below (show Below w.heap.size w _ by (repeat (first | exact Below.refl _ _ | assumption | (refine Below.drew ?_) | (refine Below.alloc ?_ (by first | (simp; done) | (simp; omega) | omega) _) | (refine Below.setCell ?_ (by first | (simp; done) | (simp; omega) | omega) _) | (refine Below.trans ?_ (Below.mono (by assumption) (by first | (simp; done) | (simp; omega) | omega))))))).below hb)).mono ?_; rintro e w3 ⟨rfl, hb2⟩; (replace hb := hb.trans (hb2.mono hb.size); clear hb2; try clear sz; try clear c0; try clear c1; try clear f0; try clear f1; try clear hc; try clear hf; (obtain ⟨hc, hf⟩ := bcell hb; have sz := hb.size; simp at sz; have c0 := hc w.heap.size 0 (by first | (simp; done) | (simp; omega) | omega); have c1 := hc w.heap.size 1 (by first | (simp; done) | (simp; omega) | omega); have f0 := hf w.heap.size 0 (by first | (simp; done) | (simp; omega) | omega); have f1 := hf w.heap.size 1 (by first | (simp; done) | (simp; omega) | omega)))))
  exact bodyPost_ret (v := .agg #[.int .i64 (hiOf (s * 4294967296 + f)), .int .u64 (loOf (s * 4294967296 + f))]) (by simp [results, Tryd.results18, go_sem, c0, c1]) rfl (And.intro rfl (by (repeat (first | exact Below.refl _ _ | assumption | (refine Below.drew ?_) | (refine Below.alloc ?_ (by first | (simp; done) | (simp; omega) | omega) _) | (refine Below.setCell ?_ (by first | (simp; done) | (simp; omega) | omega) _) | (refine Below.trans ?_ (Below.mono (by assumption) (by first | (simp; done) | (simp; omega) | omega)))))))
/-- The least number of units. -/
def fracI (n d : Int) : Int := if withinB n d then (if 0 < n * 4294967296 % d ∧ n * 4294967296 / d < 4294967295 then n * 4294967296 / d + 1 else n * 4294967296 / d) else 0
theorem fquot_bd {n d : Int} (hn : 0 ≤ n) (h : withinB n d = true) : 0 < d ∧ d ≤ 1099511627776 ∧ n < d ∧ 0 ≤ n * 4294967296 / d ∧ n * 4294967296 / d ≤ 4294967295 ∧ 0 ≤ n * 4294967296 % d ∧ n * 4294967296 % d < d := by
  unfold withinB at h
  simp at h
  have d0 : 0 < d := by omega
  refine ⟨d0, h.1, h.2, Int.ediv_nonneg (by omega) (by omega), ?_, Int.emod_nonneg _ (by omega), Int.emod_lt_of_pos _ d0⟩
  have : n * 4294967296 / d < 4294967296 := Int.ediv_lt_of_lt_mul d0 (by omega)
  omega
/-- How many whole parts. -/
def partsI (f d : Int) : Int := if withinB 0 d then f * d / 4294967296 else 0
theorem fprod_bd {f d : Int} (hf : 0 ≤ f ∧ f ≤ 4294967295) (h : withinB 0 d = true) : 0 < d ∧ d ≤ 1099511627776 ∧ 0 ≤ f * d ∧ f * d ≤ 4722366481770246144000 := by
  unfold withinB at h
  simp at h
  refine ⟨h.2, h.1, Int.mul_nonneg hf.1 (by omega), ?_⟩
  have := Int.mul_le_mul hf.2 h.1 (by omega) (by omega)
  omega
end Go.Proofs.YtcpnlifcjdahgaaDoor
