/-
  FixBack: walked.
-/
import Derived.Test.YtpjmngolnobomaaDoorKnown2
import Derived.Test.YtpjmngolnobomaaDoorRef2d
namespace Go.Proofs.YtpjmngolnobomaaDoor
open Go.RowKit Go.Sort
theorem frac_mono {n m d : Int} (h0 : 0 ≤ n) (h : n ≤ m) (hn : withinB n d = true) (hm : withinB m d = true) : fracI n d ≤ fracI m d := by
  have b := frac_bd (n := m) (by omega) hm
  have c := frac_bd h0 hn
  by_cases e : fracI m d ≤ 4294967294
  · refine (enough h0 hn b.1 e).1 ?_
    have := (enough (n := m) (by omega) hm b.1 e).2 (Int.le_refl _)
    omega
  · omega
theorem frac_parts {n d : Int} (h0 : 0 ≤ n) (h : withinB n d = true) (hd : d ≤ 4294967296) : partsI (fracI n d) d = n := by
  obtain ⟨d0, d1, nd, q0, q1, r0, r1⟩ := fquot_bd h0 h
  have h' := h
  rw [within_zero h0] at h'
  have hz := ((Bool.and_eq_true _ _).mp h').1
  have e : fracI n d = if 0 < n * 4294967296 % d ∧ n * 4294967296 / d < 4294967295 then n * 4294967296 / d + 1 else n * 4294967296 / d := by unfold fracI; rw [h]; rfl
  unfold partsI
  rw [hz, e]
  simp only [if_true]
  have hq : n * 4294967296 = n * 4294967296 / d * d + n * 4294967296 % d := (Int.ediv_mul_add_emod _ _).symm
  generalize n * 4294967296 / d = q at *
  generalize n * 4294967296 % d = r at *
  by_cases c : 0 < r
  · by_cases c2 : q < 4294967295
    · rw [if_pos ⟨c, c2⟩, Int.add_mul]
      omega
    · obtain rfl : q = 4294967295 := by omega
      omega
  · rw [if_neg (by omega)]
    omega
theorem parts_lt {f d : Int} (hf : 0 ≤ f ∧ f ≤ 4294967295) (h : withinB 0 d = true) : 0 ≤ partsI f d ∧ partsI f d < d := by
  obtain ⟨d0, d1, p0, p1⟩ := fprod_bd hf h
  unfold partsI
  rw [h]
  simp only [if_true]
  have := Int.mul_le_mul_of_nonneg_right (show f ≤ 4294967295 by omega) (show 0 ≤ d by omega)
  generalize f * d = m at *
  omega
theorem parts_frac {f d : Int} (hf : 0 ≤ f ∧ f ≤ 4294967295) (h : withinB 0 d = true) (hd : 4294967296 ≤ d) : fracI (partsI f d) d = f := by
  obtain ⟨d0, d1, p0, p1⟩ := fprod_bd hf h
  obtain ⟨l0, l1⟩ := parts_lt hf h
  have hw : withinB (partsI f d) d = true := by rw [within_zero l0, h]; simpa using l1
  have b := frac_bd l0 hw
  have up : partsI f d * 4294967296 ≤ f * d ∧ f * d < partsI f d * 4294967296 + 4294967296 := by
    unfold partsI
    rw [h]
    simp only [if_true]
    generalize f * d = m at *
    omega
  have hi : fracI (partsI f d) d ≤ f := by
    by_cases c : f ≤ 4294967294
    · exact (enough l0 hw hf.1 c).1 up.1
    · omega
  have lo : f ≤ fracI (partsI f d) d := by
    by_cases c : f = 0
    · omega
    · rcases Int.lt_or_le (fracI (partsI f d) d) f with g | g
      · have := (enough l0 hw (f := f - 1) (by omega) (by omega)).2 (by omega)
        rw [Int.sub_mul] at this
        omega
      · exact g
  omega
theorem moment_split {s f : Int} (hs : -9223372036854775808 ≤ s ∧ s ≤ 9223372036854775807) (hf : 0 ≤ f ∧ f ≤ 4294967295) : clip ((s * 4294967296 + f) / 4294967296) = s ∧ (s * 4294967296 + f) % 4294967296 = f := by
  rw [show (s * 4294967296 + f) / 4294967296 = s by omega]
  refine ⟨?_, by omega⟩
  unfold clip
  rw [if_neg (by omega), if_neg (by omega)]
set_option maxHeartbeats 8000000 in
theorem fixBack_any (s f n m d : Int) (hs : -9223372036854775808 ≤ s ∧ s ≤ 9223372036854775807) (hf : 0 ≤ f ∧ f ≤ 4294967295) (hn : 0 ≤ n ∧ n ≤ 18446744073709551615) (hm : 0 ≤ m ∧ m ≤ 18446744073709551615) (hd : 0 ≤ d ∧ d ≤ 18446744073709551615) (w : World) (hg : Glob w) :
    Calls Tryd.prog 6 #[.int .i64 s, .int .u32 f, .int .u64 n, .int .u64 m, .int .u64 d] w fun e w' => e = .returned (.bool true) ∧ Below w.heap.size w w' := by
  have K := Lib.hid g_known2
  obtain ⟨e1, e2⟩ := moment_split hs hf
  have M1 := Lib.hid (f_moment s f hs hf)
  have A1 := Lib.hid ((f_split (s * 4294967296 + f) (by unfold In; omega)).as rfl (v' := .tuple #[.int .i64 s, .int .u32 f]) (by rw [e1, e2]))
  have G := Lib.hid hg
  have hb : Below w.heap.size w w := Below.refl _ _
  have Hf := Lib.hid hf
  clear hg e1 e2 hs
  by_cases c : 1 ≤ d ∧ d ≤ 1099511627776
  · obtain ⟨cd0, cd1⟩ := c
    have hz : withinB 0 d = true := by unfold withinB; simp; omega
    have l1 : 0 ≤ n % d ∧ n % d < d := ⟨Int.emod_nonneg _ (by omega), Int.emod_lt_of_pos _ (by omega)⟩
    have l2 : 0 ≤ m % d ∧ m % d < d := ⟨Int.emod_nonneg _ (by omega), Int.emod_lt_of_pos _ (by omega)⟩
    have t1 : n.tmod d = n % d := Int.tmod_eq_emod_of_nonneg hn.1
    have t2 : m.tmod d = m % d := Int.tmod_eq_emod_of_nonneg hm.1
    have k0 : (d == 0) = false := by simp; omega
    have q1 : withinB (n % d) d = true := by rw [within_zero l1.1, hz]; simpa using l1.2
    have q2 : withinB (m % d) d = true := by rw [within_zero l2.1, hz]; simpa using l2.2
    generalize n % d = n' at *
    generalize m % d = m' at *
    go_enter Tryd.func6, Tryd.ntmps6
    go_upto_region 3 with (go_at_call 8; refine (K.out _ (G.out.below hb)).mono ?_; rintro e w1 ⟨rfl, hb2⟩; replace hb := hb.trans (hb2.mono hb.size); clear hb2)
    go_wp2_with fail
    refine (M1.out _ (G.out.below hb)).mono ?_
    rintro e w3 ⟨rfl, hb2⟩
    replace hb := hb.trans (hb2.mono hb.size)
    clear hb2
    go_wp2_with fail
    refine (A1.out _ (G.out.below hb)).mono ?_
    rintro e w4 ⟨rfl, hb2⟩
    replace hb := hb.trans (hb2.mono hb.size)
    clear hb2
    go_upto_region 8 with fail
    refine wp_region_quiet_below (by kernel_rfl) (by kernel_rfl) ?_
    repeat (go_big_quiet_step (fail))
    (refine wpQuiet_nil ?_; intro _ hw'; obtain ⟨⟨dq, osq⟩, hw''⟩ := hw'; subst hw'')
    replace hb := hb.trans ((below_quiet dq osq).mono hb.size)
    generalize grow (redrawn w4 dq) osq = w5 at *
    have F1 := Lib.hid (f_frac n' d ⟨l1.1, by omega⟩ hd)
    have F2 := Lib.hid (f_frac m' d ⟨l2.1, by omega⟩ hd)
    have B1 := frac_bd l1.1 q1
    have P1 := Lib.hid (f_parts (fracI n' d) d B1 hd)
    have P2 := Lib.hid (f_parts f d Hf.out hd)
    have B2 := parts_lt Hf.out hz
    have q3 : withinB (partsI f d) d = true := by rw [within_zero B2.1, hz]; simpa using B2.2
    have F3 := Lib.hid (f_frac (partsI f d) d ⟨B2.1, by omega⟩ hd)
    have X1 := Lib.hid (fun h : n' ≤ m' => frac_mono l1.1 h q1 q2)
    have X2 := Lib.hid (fun h : d ≤ 4294967296 => frac_parts l1.1 q1 h)
    have X3 := Lib.hid (fun h : 4294967296 ≤ d => parts_frac Hf.out hz h)
    rw [q1] at F1
    rw [q2] at F2
    rw [hz] at P1 P2
    rw [q3] at F3
    generalize fracI n' d = x1 at *
    generalize fracI m' d = x2 at *
    generalize partsI x1 d = x3 at *
    generalize fracI (partsI f d) d = x5 at *
    generalize partsI f d = x4 at *
    have k4 : decide (d ≤ x4) = false := by simp; omega
    have k1 : decide (1 ≤ d) = true := by simp; omega
    have C1 : (n' ≤ m' ∧ decide (n' ≤ m') = true ∧ decide (x2 < x1) = false) ∨ decide (n' ≤ m') = false := by
      by_cases h : n' ≤ m'
      · exact .inl ⟨h, by simpa using h, by have := X1.out h; simp; omega⟩
      · exact .inr (by simpa using h)
    have C2 : (decide (d ≤ 4294967296) = true ∧ x3 = n') ∨ decide (d ≤ 4294967296) = false := by
      by_cases h : d ≤ 4294967296
      · exact .inl ⟨by simpa using h, X2.out h⟩
      · exact .inr (by simpa using h)
    have C3 : (decide (4294967296 ≤ d) = true ∧ x5 = f) ∨ decide (4294967296 ≤ d) = false := by
      by_cases h : 4294967296 ≤ d
      · exact .inl ⟨by simpa using h, X3.out h⟩
      · exact .inr (by simpa using h)
    clear X1 X2 X3 q1 q2 q3 hz B1 B2 t1 t2 k0
    rcases C1 with ⟨_, j1, j2⟩ | j1 <;> rcases C2 with ⟨j3, rfl⟩ | j3 <;> rcases C3 with ⟨j5, rfl⟩ | j5
    all_goals
      go_wp2_with fail
      refine (F1.out _ (G.out.below hb)).mono ?_
      rintro e w1 ⟨rfl, hb2⟩
      replace hb := hb.trans (hb2.mono hb.size)
      clear hb2
      go_wp2_with fail
      refine (F2.out _ (G.out.below hb)).mono ?_
      rintro e w1 ⟨rfl, hb2⟩
      replace hb := hb.trans (hb2.mono hb.size)
      clear hb2
      go_wp2_with fail
      refine (P1.out _ (G.out.below hb)).mono ?_
      rintro e w1 ⟨rfl, hb2⟩
      replace hb := hb.trans (hb2.mono hb.size)
      clear hb2
      go_wp2_with fail
      refine (P2.out _ (G.out.below hb)).mono ?_
      rintro e w1 ⟨rfl, hb2⟩
      replace hb := hb.trans (hb2.mono hb.size)
      clear hb2
      go_wp2_with fail
      refine (F3.out _ (G.out.below hb)).mono ?_
      rintro e w1 ⟨rfl, hb2⟩
      replace hb := hb.trans (hb2.mono hb.size)
      clear hb2
      go_wp2
      go_ret
      exact ⟨rfl, hb⟩
  · have C1 : decide (d < 1) = true ∨ (decide (d < 1) = false ∧ decide (1099511627776 < d) = true) := by
      by_cases h : d < 1
      · exact .inl (by simpa using h)
      · exact .inr ⟨by simpa using h, by simp; omega⟩
    clear c
    rcases C1 with j1 | ⟨j1, j2⟩
    all_goals
      go_enter Tryd.func6, Tryd.ntmps6
      go_wp2_with fail
      refine (K.out _ (G.out.below hb)).mono ?_
      rintro e w1 ⟨rfl, hb2⟩
      replace hb := hb.trans (hb2.mono hb.size)
      clear hb2
      go_wp2_with fail
      refine (M1.out _ (G.out.below hb)).mono ?_
      rintro e w1 ⟨rfl, hb2⟩
      replace hb := hb.trans (hb2.mono hb.size)
      clear hb2
      go_wp2_with fail
      refine (A1.out _ (G.out.below hb)).mono ?_
      rintro e w1 ⟨rfl, hb2⟩
      replace hb := hb.trans (hb2.mono hb.size)
      clear hb2
      go_wp2
      go_ret
      exact ⟨rfl, hb⟩
end Go.Proofs.YtpjmngolnobomaaDoor
