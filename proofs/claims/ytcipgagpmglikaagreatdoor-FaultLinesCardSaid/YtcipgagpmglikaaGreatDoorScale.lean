/-
  Package wide's Scale and Half.
-/
import Derived.Test.YtcipgagpmglikaaGreatDoorMul
namespace Go.Proofs.YtcipgagpmglikaaGreatDoor
open Go.RowKit
theorem sign_over (m : Bool) (h l : Int) (hh : 9223372036854775807 < h) (hl : Word l) (a : Addr) (w : World) (hg : Glob w) (ha : w.cell? a = some (.bool m)) (hb0 : a.block < w.heap.size) :
    Calls Tryz.prog 82 #[.int .u64 h, .int .u64 l, .pointer (some a)] w fun e w' =>
      e = .returned (.agg #[.int .i64 (hiOf (bnd m)), .int .u64 (loOf (bnd m))]) ∧ Below w.heap.size w w' := by
  have h1 := hiOf_mk (h := h) hl.1 hl.2
  have h2 := loOf_mk (h := h) hl.1 hl.2
  have := sign_call m (h * 18446744073709551616 + l) (by have := hl.1; omega) a w hg ha hb0
  rw [signed_over (by rw [h1]; exact hh), h1, h2] at this
  exact this
/-- The product in two words, and whether it needs more. -/
theorem scale_fits {v n : Int} (hv : 0 ≤ v ∧ v ≤ 170141183460469231731687303715884105728) (hn : 0 ≤ n ∧ n ≤ 4294967295)
    (h1 : hiOf (hiOf v * n) = 0) (h2 : sumCy (loOf (hiOf v * n)) (hiOf (loOf v * n)) 0 = 0) :
    sumLo (loOf (hiOf v * n)) (hiOf (loOf v * n)) 0 = hiOf (v * n) ∧ loOf (loOf v * n) = loOf (v * n) := by
  have e : v * n = hiOf v * n * 18446744073709551616 + loOf v * n := by
    have := split_eq v
    have k : (hiOf v * 18446744073709551616 + loOf v) * n = hiOf v * n * 18446744073709551616 + loOf v * n := by rw [Int.add_mul, Int.mul_assoc, Int.mul_comm 18446744073709551616 n, Int.mul_assoc]
    rw [this] at k; exact k
  rw [e]
  have p0 : 0 ≤ hiOf v * n := Int.mul_nonneg (by unfold hiOf; omega) hn.1
  have p1 : 0 ≤ loOf v * n := Int.mul_nonneg (by unfold loOf; omega) hn.1
  generalize hiOf v * n = a at *
  generalize loOf v * n = b at *
  unfold hiOf loOf sumLo sumCy at *
  omega
theorem scale_over {v n : Int} (hv : 0 ≤ v ∧ v ≤ 170141183460469231731687303715884105728) (hn : 0 ≤ n ∧ n ≤ 4294967295) (m : Bool)
    (h : hiOf (hiOf v * n) ≠ 0 ∨ sumCy (loOf (hiOf v * n)) (hiOf (loOf v * n)) 0 ≠ 0) : signed m (v * n) = bnd m := by
  have e : v * n = hiOf v * n * 18446744073709551616 + loOf v * n := by
    have := split_eq v
    have k : (hiOf v * 18446744073709551616 + loOf v) * n = hiOf v * n * 18446744073709551616 + loOf v * n := by rw [Int.add_mul, Int.mul_assoc, Int.mul_comm 18446744073709551616 n, Int.mul_assoc]
    rw [this] at k; exact k
  refine signed_over ?_
  rw [e]
  have p0 : 0 ≤ hiOf v * n := Int.mul_nonneg (by unfold hiOf; omega) hn.1
  have p1 : 0 ≤ loOf v * n := Int.mul_nonneg (by unfold loOf; omega) hn.1
  generalize hiOf v * n = a at *
  generalize loOf v * n = b at *
  unfold hiOf loOf sumCy at *
  omega
theorem scale_sat (x n : Int) : signed (neg x) (absI x * n) = sat (x * n) := by
  unfold signed neg absI
  congr 1
  by_cases h : x < 0 <;> simp [h, Int.neg_mul]
theorem hi_word {v : Int} (hv : 0 ≤ v ∧ v ≤ 170141183460469231731687303715884105728) : Word (hiOf v) := by unfold Word hiOf; omega
theorem lo_word (v : Int) : Word (loOf v) := lo_bd v
set_option maxHeartbeats 2000000 in
theorem scale_any (x n : Int) (hx : In x) (hn : 0 ≤ n ∧ n ≤ 4294967295) (w : World) (hg : Glob w) :
    Calls Tryz.prog 57 #[.agg #[.int .i64 (hiOf x), .int .u64 (loOf x)], .int .u32 n] w fun e w' =>
      e = .returned (.agg #[.int .i64 (hiOf (sat (x * n))), .int .u64 (loOf (sat (x * n)))]) ∧ Below w.heap.size w w' := by
  rw [← scale_sat x n]
  have Hv := Lib.hid (abs_bd hx)
  have Hn := Lib.hid hn
  have Hx := Lib.hid hx
  have Wn : Hid (Word n) := Lib.hid ⟨hn.1, by omega⟩
  have P : Hid (0 ≤ absI x * n) := Lib.hid (Int.mul_nonneg Hv.out.1 hn.1)
  have P1 : Hid (Word (loOf (hiOf (absI x) * n))) := Lib.hid (lo_bd _)
  have P2 : Hid (Word (hiOf (loOf (absI x) * n))) := by
    have h := lo_bd (absI x)
    have a := Int.mul_nonneg h.1 hn.1
    have b : loOf (absI x) * n ≤ 18446744073709551615 * 4294967295 := Int.mul_le_mul h.2 hn.2 hn.1 (by decide)
    refine Lib.hid ?_
    unfold Word
    generalize loOf (absI x) * n = t at *
    unfold hiOf
    omega
  have Z0 : Hid ((0 : Int) ≤ 0 ∧ (0 : Int) ≤ 1) := ⟨by decide, by decide⟩
  have n0 := hn.1
  have n1 := hn.2
  have N : Hid (neg x = neg x) := Lib.hid rfl
  clear hn hx
  by_cases h1 : hiOf (hiOf (absI x) * n) = 0
  · by_cases h2 : sumCy (loOf (hiOf (absI x) * n)) (hiOf (loOf (absI x) * n)) 0 = 0
    · obtain ⟨e1, e2⟩ := scale_fits Hv.out Hn.out h1 h2
      go_enter Tryz.func57, Tryz.ntmps57
      go_wp2_with (first
        | (go_at_call 60; refine (negative_at x _ N.out _).mono ?_; rintro e w' ⟨rfl, cs, rfl⟩)
        | (go_at_call 69; refine (signer_any _ _).mono ?_; rintro e w' ⟨rfl, rfl⟩)
        | (go_at_call 70; refine (magnitude_any x Hx.out _).mono ?_; rintro e w3 ⟨rfl, hb⟩; (obtain ⟨hc, hf⟩ := bcell hb; have sz := hb.size; simp at sz; have c0 := hc w.heap.size 0 (by first | (simp; done) | (simp; omega) | omega); have c1 := hc w.heap.size 1 (by first | (simp; done) | (simp; omega) | omega); have f0 := hf w.heap.size 0 (by first | (simp; done) | (simp; omega) | omega); have f1 := hf w.heap.size 1 (by first | (simp; done) | (simp; omega) | omega)))
        | (go_at_call_of 71 (loOf (absI x)); refine (mul64_any _ _ (lo_word _) Wn.out _).mono ?_; rintro e w' ⟨rfl, rfl⟩)
        | (go_at_call_of 71 (hiOf (absI x)); refine (mul64_any _ _ (hi_word Hv.out) Wn.out _).mono ?_; rintro e w' ⟨rfl, rfl⟩)
        | simp only [call_add64 _ _ _ P1.out P2.out Z0.out])
      have hx := (hc (w.heap.size + 1 + 1 + 1) 0 (by first | (simp; done) | (simp; omega) | omega)).trans (World.cell?_alloc_at _ _ _ _ (by first | (simp; done) | (simp; omega) | omega))
      have c2 := hc (w.heap.size + 1) 0 (by first | (simp; done) | (simp; omega) | omega)
      refine (sign_call _ _ P.out _ _ ((hg.below (by (repeat (first | exact Below.refl _ _ | assumption | (refine Below.drew ?_) | (refine Below.alloc ?_ (by first | (simp; done) | (simp; omega) | omega) _) | (refine Below.setCell ?_ (by first | (simp; done) | (simp; omega) | omega) _) | (refine Below.trans ?_ (Below.mono (by assumption) (by first | (simp; done) | (simp; omega) | omega))))))).below hb) hx (by have := hb.size; simp at this; simp; omega)).mono ?_
      rintro e w6 ⟨rfl, hb2⟩
      (replace hb := hb.trans (hb2.mono hb.size); clear hb2; try clear sz; try clear c0; try clear c1; try clear f0; try clear f1; try clear hc; try clear hf; (obtain ⟨hc, hf⟩ := bcell hb; have sz := hb.size; simp at sz; have c0 := hc w.heap.size 0 (by first | (simp; done) | (simp; omega) | omega); have c1 := hc w.heap.size 1 (by first | (simp; done) | (simp; omega) | omega); have f0 := hf w.heap.size 0 (by first | (simp; done) | (simp; omega) | omega); have f1 := hf w.heap.size 1 (by first | (simp; done) | (simp; omega) | omega)))
      have c2 := hc (w.heap.size + 1) 0 (by first | (simp; done) | (simp; omega) | omega)
      have c3 := hc (w.heap.size + 1) 1 (by first | (simp; done) | (simp; omega) | omega)
      go_wp2
      exact bodyPost_ret (v := .agg #[.int .i64 (hiOf (signed (neg x) (absI x * n))), .int .u64 (loOf (signed (neg x) (absI x * n)))]) (by simp [results, Tryz.results57, go_sem, c2, c3]) rfl (And.intro rfl (by (repeat (first | exact Below.refl _ _ | assumption | (refine Below.drew ?_) | (refine Below.alloc ?_ (by first | (simp; done) | (simp; omega) | omega) _) | (refine Below.setCell ?_ (by first | (simp; done) | (simp; omega) | omega) _) | (refine Below.trans ?_ (Below.mono (by assumption) (by first | (simp; done) | (simp; omega) | omega)))))))
    · rw [scale_over Hv.out Hn.out (neg x) (.inr h2)]
      have k2 : (sumCy (loOf (hiOf (absI x) * n)) (hiOf (loOf (absI x) * n)) 0 == 0) = false := by simpa using h2
      clear h2
      go_enter Tryz.func57, Tryz.ntmps57
      go_wp2_with (first
        | (go_at_call 60; refine (negative_at x _ N.out _).mono ?_; rintro e w' ⟨rfl, cs, rfl⟩)
        | (go_at_call 69; refine (signer_any _ _).mono ?_; rintro e w' ⟨rfl, rfl⟩)
        | (go_at_call 70; refine (magnitude_any x Hx.out _).mono ?_; rintro e w3 ⟨rfl, hb⟩; (obtain ⟨hc, hf⟩ := bcell hb; have sz := hb.size; simp at sz; have c0 := hc w.heap.size 0 (by first | (simp; done) | (simp; omega) | omega); have c1 := hc w.heap.size 1 (by first | (simp; done) | (simp; omega) | omega); have f0 := hf w.heap.size 0 (by first | (simp; done) | (simp; omega) | omega); have f1 := hf w.heap.size 1 (by first | (simp; done) | (simp; omega) | omega)))
        | (go_at_call_of 71 (loOf (absI x)); refine (mul64_any _ _ (lo_word _) Wn.out _).mono ?_; rintro e w' ⟨rfl, rfl⟩)
        | (go_at_call_of 71 (hiOf (absI x)); refine (mul64_any _ _ (hi_word Hv.out) Wn.out _).mono ?_; rintro e w' ⟨rfl, rfl⟩)
        | simp only [call_add64 _ _ _ P1.out P2.out Z0.out])
      have hx := (hc (w.heap.size + 1 + 1 + 1) 0 (by first | (simp; done) | (simp; omega) | omega)).trans (World.cell?_alloc_at _ _ _ _ (by first | (simp; done) | (simp; omega) | omega))
      refine (sign_over (neg x) 18446744073709551615 _ (by decide) (lo_word _) _ _ ((hg.below (by (repeat (first | exact Below.refl _ _ | assumption | (refine Below.drew ?_) | (refine Below.alloc ?_ (by first | (simp; done) | (simp; omega) | omega) _) | (refine Below.setCell ?_ (by first | (simp; done) | (simp; omega) | omega) _) | (refine Below.trans ?_ (Below.mono (by assumption) (by first | (simp; done) | (simp; omega) | omega))))))).below hb) hx (by have := hb.size; simp at this; simp; omega)).mono ?_
      rintro e w6 ⟨rfl, hb2⟩
      (replace hb := hb.trans (hb2.mono hb.size); clear hb2; try clear sz; try clear c0; try clear c1; try clear f0; try clear f1; try clear hc; try clear hf; (obtain ⟨hc, hf⟩ := bcell hb; have sz := hb.size; simp at sz; have c0 := hc w.heap.size 0 (by first | (simp; done) | (simp; omega) | omega); have c1 := hc w.heap.size 1 (by first | (simp; done) | (simp; omega) | omega); have f0 := hf w.heap.size 0 (by first | (simp; done) | (simp; omega) | omega); have f1 := hf w.heap.size 1 (by first | (simp; done) | (simp; omega) | omega)))
      have c2 := hc (w.heap.size + 1) 0 (by first | (simp; done) | (simp; omega) | omega)
      have c3 := hc (w.heap.size + 1) 1 (by first | (simp; done) | (simp; omega) | omega)
      go_wp2
      exact bodyPost_ret (v := .agg #[.int .i64 (hiOf (bnd (neg x))), .int .u64 (loOf (bnd (neg x)))]) (by simp [results, Tryz.results57, go_sem, c2, c3]) rfl (And.intro rfl (by (repeat (first | exact Below.refl _ _ | assumption | (refine Below.drew ?_) | (refine Below.alloc ?_ (by first | (simp; done) | (simp; omega) | omega) _) | (refine Below.setCell ?_ (by first | (simp; done) | (simp; omega) | omega) _) | (refine Below.trans ?_ (Below.mono (by assumption) (by first | (simp; done) | (simp; omega) | omega)))))))
  · rw [scale_over Hv.out Hn.out (neg x) (.inl h1)]
    have k1 : (hiOf (hiOf (absI x) * n) == 0) = false := by simpa using h1
    clear h1
    go_enter Tryz.func57, Tryz.ntmps57
    go_wp2_with (first
      | (go_at_call 60; refine (negative_at x _ N.out _).mono ?_; rintro e w' ⟨rfl, cs, rfl⟩)
      | (go_at_call 69; refine (signer_any _ _).mono ?_; rintro e w' ⟨rfl, rfl⟩)
      | (go_at_call 70; refine (magnitude_any x Hx.out _).mono ?_; rintro e w3 ⟨rfl, hb⟩; (obtain ⟨hc, hf⟩ := bcell hb; have sz := hb.size; simp at sz; have c0 := hc w.heap.size 0 (by first | (simp; done) | (simp; omega) | omega); have c1 := hc w.heap.size 1 (by first | (simp; done) | (simp; omega) | omega); have f0 := hf w.heap.size 0 (by first | (simp; done) | (simp; omega) | omega); have f1 := hf w.heap.size 1 (by first | (simp; done) | (simp; omega) | omega)))
      | (go_at_call_of 71 (loOf (absI x)); refine (mul64_any _ _ (lo_word _) Wn.out _).mono ?_; rintro e w' ⟨rfl, rfl⟩)
      | (go_at_call_of 71 (hiOf (absI x)); refine (mul64_any _ _ (hi_word Hv.out) Wn.out _).mono ?_; rintro e w' ⟨rfl, rfl⟩)
      | simp only [call_add64 _ _ _ P1.out P2.out Z0.out])
    have hx := (hc (w.heap.size + 1 + 1 + 1) 0 (by first | (simp; done) | (simp; omega) | omega)).trans (World.cell?_alloc_at _ _ _ _ (by first | (simp; done) | (simp; omega) | omega))
    refine (sign_over (neg x) 18446744073709551615 _ (by decide) (lo_word _) _ _ ((hg.below (by (repeat (first | exact Below.refl _ _ | assumption | (refine Below.drew ?_) | (refine Below.alloc ?_ (by first | (simp; done) | (simp; omega) | omega) _) | (refine Below.setCell ?_ (by first | (simp; done) | (simp; omega) | omega) _) | (refine Below.trans ?_ (Below.mono (by assumption) (by first | (simp; done) | (simp; omega) | omega))))))).below hb) hx (by have := hb.size; simp at this; simp; omega)).mono ?_
    rintro e w6 ⟨rfl, hb2⟩
    (replace hb := hb.trans (hb2.mono hb.size); clear hb2; try clear sz; try clear c0; try clear c1; try clear f0; try clear f1; try clear hc; try clear hf; (obtain ⟨hc, hf⟩ := bcell hb; have sz := hb.size; simp at sz; have c0 := hc w.heap.size 0 (by first | (simp; done) | (simp; omega) | omega); have c1 := hc w.heap.size 1 (by first | (simp; done) | (simp; omega) | omega); have f0 := hf w.heap.size 0 (by first | (simp; done) | (simp; omega) | omega); have f1 := hf w.heap.size 1 (by first | (simp; done) | (simp; omega) | omega)))
    have c2 := hc (w.heap.size + 1) 0 (by first | (simp; done) | (simp; omega) | omega)
    have c3 := hc (w.heap.size + 1) 1 (by first | (simp; done) | (simp; omega) | omega)
    go_wp2
    exact bodyPost_ret (v := .agg #[.int .i64 (hiOf (bnd (neg x))), .int .u64 (loOf (bnd (neg x)))]) (by simp [results, Tryz.results57, go_sem, c2, c3]) rfl (And.intro rfl (by (repeat (first | exact Below.refl _ _ | assumption | (refine Below.drew ?_) | (refine Below.alloc ?_ (by first | (simp; done) | (simp; omega) | omega) _) | (refine Below.setCell ?_ (by first | (simp; done) | (simp; omega) | omega) _) | (refine Below.trans ?_ (Below.mono (by assumption) (by first | (simp; done) | (simp; omega) | omega)))))))
/-- Half. -/
theorem half_hi (x : Int) : hiOf x / 2 = hiOf (x / 2) := by unfold hiOf; omega
theorem or_top (a b : Nat) (ha : a < 9223372036854775808) : a ||| (b * 9223372036854775808) = a + b * 9223372036854775808 := by
  have h := Nat.shiftLeft_add_eq_or_of_lt (b := a) (i := 63) (by simpa using ha) b
  rw [Nat.shiftLeft_eq] at h
  rw [Nat.or_comm]
  have e : (2 : Nat) ^ 63 = 9223372036854775808 := by decide
  rw [e] at h
  omega
theorem half_lo (x : Int) : bits .or .u64 (loOf x / 2) (IntKind.u64.wrap (IntKind.u64.wrap (hiOf x) * 9223372036854775808)) = loOf (x / 2) := by
  have hA : 0 ≤ loOf x / 2 ∧ loOf x / 2 < 9223372036854775808 := by unfold loOf; omega
  have hB : IntKind.u64.wrap (IntKind.u64.wrap (hiOf x) * 9223372036854775808) = (hiOf x % 2) * 9223372036854775808 := by rw [IntKind.wrap_u64, IntKind.wrap_u64]; omega
  have hC : loOf (x / 2) = loOf x / 2 + (hiOf x % 2) * 9223372036854775808 := by unfold loOf hiOf; omega
  rw [hB, hC]
  obtain ⟨A, hA'⟩ := Int.eq_ofNat_of_zero_le hA.1
  obtain ⟨B, hB'⟩ := Int.eq_ofNat_of_zero_le (show 0 ≤ hiOf x % 2 by omega)
  have hb : B ≤ 1 := by omega
  rw [hA', hB']
  have h := bits_or_u64_nat A (B * 9223372036854775808) (by omega) (by omega)
  rw [or_top A B (by omega)] at h
  have e : ((B : Int) * 9223372036854775808) = ((B * 9223372036854775808 : Nat) : Int) := by omega
  rw [e, h]
  omega
end Go.Proofs.YtcipgagpmglikaaGreatDoor
