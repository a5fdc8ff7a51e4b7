/-
  Parts of a second: plain lemmas.
-/
import Derived.Test.YthmkfkmcamjnoaaDoorRef2d
namespace Go.Proofs.YthmkfkmcamjnoaaDoor
open Go.RowKit Go.Sort
theorem frac_mono {n m d : Int} (h0 : 0 ≤ n) (h : n ≤ m) (hn : withinB n d = true) (hm : withinB m d = true) : fracI n d ≤ fracI m d := by
  have b := frac_bd (n := m) (by omega) hm
  have c := frac_bd h0 hn
  by_cases e : fracI m d ≤ 4294967294
  · refine (enough h0 hn b.1 e).1 ?_
    have := (enough (n := m) (by omega) hm b.1 e).2 (Int.le_refl _)
    omega
  · omega
theorem frac_parts {n d : Int} (h0 : 0 ≤ n) (h : withinB n d = true) (hd : d ≤ 4294967296) : partsI (fracI n d) d = n := by
  obtain ⟨d0, d1, nd, q0, q1, r0, r1⟩ := fquot_bd h0 h
  have h' := h
  rw [within_zero h0] at h'
  have hz := ((Bool.and_eq_true _ _).mp h').1
  have e : fracI n d = if 0 < n * 4294967296 % d ∧ n * 4294967296 / d < 4294967295 then n * 4294967296 / d + 1 else n * 4294967296 / d := by unfold fracI; rw [h]; rfl
  unfold partsI
  rw [hz, e]
  simp only [if_true]
  have hq : n * 4294967296 = n * 4294967296 / d * d + n * 4294967296 % d := (Int.ediv_mul_add_emod _ _).symm
  generalize n * 4294967296 / d = q at *
  generalize n * 4294967296 % d = r at *
  by_cases c : 0 < r
  · by_cases c2 : q < 4294967295
    · rw [if_pos ⟨c, c2⟩, Int.add_mul]
      omega
    · obtain rfl : q = 4294967295 := by omega
      omega
  · rw [if_neg (by omega)]
    omega
theorem parts_lt {f d : Int} (hf : 0 ≤ f ∧ f ≤ 4294967295) (h : withinB 0 d = true) : 0 ≤ partsI f d ∧ partsI f d < d := by
  obtain ⟨d0, d1, p0, p1⟩ := fprod_bd hf h
  unfold partsI
  rw [h]
  simp only [if_true]
  have := Int.mul_le_mul_of_nonneg_right (show f ≤ 4294967295 by omega) (show 0 ≤ d by omega)
  generalize f * d = m at *
  omega
theorem parts_frac {f d : Int} (hf : 0 ≤ f ∧ f ≤ 4294967295) (h : withinB 0 d = true) (hd : 4294967296 ≤ d) : fracI (partsI f d) d = f := by
  obtain ⟨d0, d1, p0, p1⟩ := fprod_bd hf h
  obtain ⟨l0, l1⟩ := parts_lt hf h
  have hw : withinB (partsI f d) d = true := by rw [within_zero l0, h]; simpa using l1
  have b := frac_bd l0 hw
  have up : partsI f d * 4294967296 ≤ f * d ∧ f * d < partsI f d * 4294967296 + 4294967296 := by
    unfold partsI
    rw [h]
    simp only [if_true]
    generalize f * d = m at *
    omega
  have hi : fracI (partsI f d) d ≤ f := by
    by_cases c : f ≤ 4294967294
    · exact (enough l0 hw hf.1 c).1 up.1
    · omega
  have lo : f ≤ fracI (partsI f d) d := by
    by_cases c : f = 0
    · omega
    · rcases Int.lt_or_le (fracI (partsI f d) d) f with g | g
      · have := (enough l0 hw (f := f - 1) (by omega) (by omega)).2 (by omega)
        rw [Int.sub_mul] at this
        omega
      · exact g
  omega
theorem moment_split {s f : Int} (hs : -9223372036854775808 ≤ s ∧ s ≤ 9223372036854775807) (hf : 0 ≤ f ∧ f ≤ 4294967295) : clip ((s * 4294967296 + f) / 4294967296) = s ∧ (s * 4294967296 + f) % 4294967296 = f := by
  rw [show (s * 4294967296 + f) / 4294967296 = s by omega]
  refine ⟨?_, by omega⟩
  unfold clip
  rw [if_neg (by omega), if_neg (by omega)]
end Go.Proofs.YthmkfkmcamjnoaaDoor
