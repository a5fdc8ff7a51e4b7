/-
  Package wide's divide and Div.
-/
import Derived.Test.YthmkfkmcamjnoaaDoorDiv64
import Derived.Test.YthmkfkmcamjnoaaDoorClip
namespace Go.Proofs.YthmkfkmcamjnoaaDoor
open Go.RowKit
theorem div_words {h l n : Int} (hn : 0 < n) (hl : Word l) :
    (h * 18446744073709551616 + l) / n = h / n * 18446744073709551616 + (h % n * 18446744073709551616 + l) / n ∧
    (h * 18446744073709551616 + l) % n = (h % n * 18446744073709551616 + l) % n ∧
    0 ≤ (h % n * 18446744073709551616 + l) / n ∧ (h % n * 18446744073709551616 + l) / n ≤ 18446744073709551615 := by
  have e : h * 18446744073709551616 + l = (h % n * 18446744073709551616 + l) + n * (h / n * 18446744073709551616) := by
    have := Int.ediv_mul_add_emod h n
    have k : n * (h / n * 18446744073709551616) = h / n * n * 18446744073709551616 := by rw [← Int.mul_assoc, Int.mul_comm n]
    rw [k]; omega
  have hm0 := Int.emod_nonneg h (show n ≠ 0 by omega)
  have hm1 := Int.emod_lt_of_pos h hn
  have hl0 := hl.1; have hl1 := hl.2
  have lt : (h % n * 18446744073709551616 + l) / n < 18446744073709551616 := Int.ediv_lt_of_lt_mul hn (by omega)
  have ge : 0 ≤ (h % n * 18446744073709551616 + l) / n := Int.ediv_nonneg (by omega) (by omega)
  rw [e, Int.add_mul_ediv_left _ _ (by omega), Int.add_mul_emod_self_left]
  exact ⟨by omega, rfl, ge, by omega⟩
theorem div_hi {x n : Int} (hn : 0 < n) : hiOf (x / n) = hiOf x / n ∧ loOf (x / n) = (hiOf x % n * 18446744073709551616 + loOf x) / n ∧ x % n = (hiOf x % n * 18446744073709551616 + loOf x) % n := by
  obtain ⟨a, b, c, d⟩ := div_words (h := hiOf x) hn (lo_bd x)
  rw [split_eq] at a b
  rw [a]
  exact ⟨hiOf_mk c d, loOf_mk c d, b⟩
set_option maxHeartbeats 1000000 in
theorem divide_any (x n : Int) (hx : In x) (h0 : 0 ≤ x) (hn : Word n) (hn0 : 0 < n) (w : World) :
    Calls Tryd.prog 64 #[.agg #[.int .i64 (hiOf x), .int .u64 (loOf x)], .int .u64 n] w fun e w' =>
      e = .returned (.tuple #[.agg #[.int .i64 (hiOf (x / n)), .int .u64 (loOf (x / n))], .int .u64 (x % n)]) ∧ Below w.heap.size w w' := by
  obtain ⟨d1, d2, d3⟩ := div_hi (x := x) hn0
  rw [d1, d2, d3]
  have hb := hi_bd hx
  have b1 : 0 ≤ hiOf x := by unfold hiOf; omega
  have b2 := hb.2
  have c0 : 0 ≤ hiOf x / n := Int.ediv_nonneg b1 (by omega)
  have c1 : hiOf x / n ≤ 9223372036854775807 := Int.le_trans (Int.ediv_le_self _ b1) b2
  have m0 := Int.emod_nonneg (hiOf x) (show n ≠ 0 by omega)
  have m1 := Int.emod_lt_of_pos (hiOf x) hn0
  have C := Lib.hid (fun w => div64_any (hiOf x % n) (loOf x) n ⟨m0, by have := hn.2; omega⟩ (lo_bd x) hn m1 w)
  clear d1 d2 d3 hb m0 m1
  obtain ⟨n0, n1⟩ := hn
  go_enter Tryd.func64, Tryd.ntmps64
  go_wp2
  go_quiet ((go_at_call 73; exact Calls.quiet_of (C.out _)))
  go_wp2
  exact bodyPost_ret (v := .tuple #[.agg #[.int .i64 (hiOf x / n), .int .u64 ((hiOf x % n * 18446744073709551616 + loOf x) / n)], .int .u64 ((hiOf x % n * 18446744073709551616 + loOf x) % n)]) (by simp [results, Tryd.results64, go_sem]) rfl (And.intro rfl (by (repeat (first | exact Below.refl _ _ | assumption | (refine Below.drew ?_) | (refine below_drewN ?_ _) | (refine Below.alloc ?_ (by first | (simp; done) | (simp; omega) | omega) _) | (refine Below.setCell ?_ (by first | (simp; done) | (simp; omega) | omega) _) | (refine Below.trans ?_ (Below.mono (by assumption) (by first | (simp; done) | (simp; omega) | omega)))))))
theorem div_below {x n : Int} (hn : 0 < n) : -1 - (-1 - x) / n = x / n ∧ n - 1 - (-1 - x) % n = x % n := by
  have h := Int.ediv_mul_add_emod (-1 - x) n
  have m0 := Int.emod_nonneg (-1 - x) (show n ≠ 0 by omega)
  have m1 := Int.emod_lt_of_pos (-1 - x) hn
  have u := (Int.ediv_emod_unique (a := x) (b := n) (r := n - 1 - (-1 - x) % n) (q := -1 - (-1 - x) / n) hn).2 ⟨by rw [Int.mul_sub, Int.mul_comm n ((-1 - x) / n)]; omega, by omega, by omega⟩
  exact ⟨u.1.symm, u.2.symm⟩
theorem div_in {x n : Int} (hx : In x) (h0 : 0 ≤ x) (hn : 0 < n) : In (x / n) := by
  have a := Int.ediv_nonneg h0 (show 0 ≤ n by omega)
  have b := Int.ediv_le_self n h0
  unfold In at *; omega
set_option maxHeartbeats 2000000 in
theorem wdiv_any (x n : Int) (hx : In x) (hn : Word n) (hn0 : 0 < n) (w : World) :
    Calls Tryd.prog 44 #[.agg #[.int .i64 (hiOf x), .int .u64 (loOf x)], .int .u64 n] w fun e w' =>
      e = .returned (.tuple #[.agg #[.int .i64 (hiOf (x / n)), .int .u64 (loOf (x / n))], .int .u64 (x % n), .bool true]) ∧ Below w.heap.size w w' := by
  have k : (n == 0) = false := by simp; omega
  have Hn := Lib.hid hn
  have Hn0 := Lib.hid hn0
  have Hx := Lib.hid hx
  clear hx hn0
  obtain ⟨n0, n1⟩ := hn
  by_cases h : x < 0
  · have H := Lib.hid ((neg_true_iff x).2 h)
    obtain ⟨d1, d2⟩ := div_below (x := x) Hn0.out
    have c0 : 0 ≤ -1 - x := by omega
    have C0 := Lib.hid c0
    have cin : Hid (In (-1 - x)) := Lib.hid (by have := Hx.out; unfold In at *; omega)
    have m0 := Int.emod_nonneg (-1 - x) (show n ≠ 0 by have := Hn0.out; omega)
    have m1 := Int.emod_lt_of_pos (-1 - x) Hn0.out
    have E2 := Lib.hid d2
    have Q := Lib.hid (div_in cin.out c0 Hn0.out)
    have X := Lib.hid (fun w => complement_any x Hx.out w)
    have Y := Lib.hid (fun w => complement_any ((-1 - x) / n) Q.out w)
    rw [d1] at Y
    rw [← d2]
    have D := Lib.hid (fun w => divide_any (-1 - x) n cin.out C0.out Hn.out Hn0.out w)
    clear h d1 d2 c0
    go_enter Tryd.func44, Tryd.ntmps44
    go_wp2_with (first
      | (go_at_call 59; refine (negative_at x _ H.out _).mono ?_; rintro e w' ⟨rfl, cs, rfl⟩)
      | (go_at_call_of 65 (hiOf x); refine (X.out _).mono ?_; rintro e w1 ⟨rfl, hb⟩; (obtain ⟨hc, hf⟩ := bcell hb; have sz := hb.size; simp at sz; have c0 := hc w.heap.size 0 (by first | (simp; done) | (simp; omega) | omega); have c1 := hc w.heap.size 1 (by first | (simp; done) | (simp; omega) | omega); have f0 := hf w.heap.size 0 (by first | (simp; done) | (simp; omega) | omega); have f1 := hf w.heap.size 1 (by first | (simp; done) | (simp; omega) | omega)))
      | (go_at_call 64; refine (D.out _).mono ?_; rintro e w2 ⟨rfl, hb2⟩; (replace hb := hb.trans (hb2.mono hb.size); clear hb2; try clear sz; try clear c0; try clear c1; try clear f0; try clear f1; try clear hc; try clear hf; (obtain ⟨hc, hf⟩ := bcell hb; have sz := hb.size; simp at sz; have c0 := hc w.heap.size 0 (by first | (simp; done) | (simp; omega) | omega); have c1 := hc w.heap.size 1 (by first | (simp; done) | (simp; omega) | omega); have f0 := hf w.heap.size 0 (by first | (simp; done) | (simp; omega) | omega); have f1 := hf w.heap.size 1 (by first | (simp; done) | (simp; omega) | omega))); have c2 := hc (w.heap.size + 1) 0 (by first | (simp; done) | (simp; omega) | omega); have c3 := hc (w.heap.size + 1) 1 (by first | (simp; done) | (simp; omega) | omega)))
    refine (Y.out _).mono ?_
    rintro e w3 ⟨rfl, hb3⟩
    obtain ⟨hc3, hf3⟩ := bcell hb3
    have c4 := hc3 (w.heap.size + 1) 0 (by first | (simp; done) | (simp; omega) | omega)
    have c5 := hc3 (w.heap.size + 1) 1 (by first | (simp; done) | (simp; omega) | omega)
    have f4 := hf3 (w.heap.size + 1) 0 (by first | (simp; done) | (simp; omega) | omega)
    have f5 := hf3 (w.heap.size + 1) 1 (by first | (simp; done) | (simp; omega) | omega)
    have s3 := hb3.size
    simp at s3
    go_wp2
    have e2 := E2.out
    exact bodyPost_ret (v := .tuple #[.agg #[.int .i64 (hiOf (x / n)), .int .u64 (loOf (x / n))], .int .u64 (n - 1 - (-1 - x) % n), .bool true]) (by simp (maxDischargeDepth := 8) [results, Tryd.results44, go_sem, c2, c3, c4, c5]) rfl (And.intro rfl (by (repeat (first | exact Below.refl _ _ | assumption | (refine Below.drew ?_) | (refine Below.alloc ?_ (by first | (simp; done) | (simp; omega) | omega) _) | (refine Below.setCell ?_ (by first | (simp; done) | (simp; omega) | omega) _) | (refine Below.trans ?_ (Below.mono (by assumption) (by first | (simp; done) | (simp; omega) | omega)))))))
  · have H := Lib.hid ((neg_false_iff x).2 (by omega))
    have C0 : Hid (0 ≤ x) := Lib.hid (by omega)
    have m0 := Int.emod_nonneg x (show n ≠ 0 by have := Hn0.out; omega)
    have m1 := Int.emod_lt_of_pos x Hn0.out
    have D := Lib.hid (fun w => divide_any x n Hx.out C0.out Hn.out Hn0.out w)
    clear h
    go_enter Tryd.func44, Tryd.ntmps44
    go_wp2_with (first
      | (go_at_call 59; refine (negative_at x _ H.out _).mono ?_; rintro e w' ⟨rfl, cs, rfl⟩)
      | (go_at_call 64; refine (D.out _).mono ?_; rintro e w2 ⟨rfl, hb⟩; (obtain ⟨hc, hf⟩ := bcell hb; have sz := hb.size; simp at sz; have c0 := hc w.heap.size 0 (by first | (simp; done) | (simp; omega) | omega); have c1 := hc w.heap.size 1 (by first | (simp; done) | (simp; omega) | omega); have f0 := hf w.heap.size 0 (by first | (simp; done) | (simp; omega) | omega); have f1 := hf w.heap.size 1 (by first | (simp; done) | (simp; omega) | omega)); have c2 := hc (w.heap.size + 1) 0 (by first | (simp; done) | (simp; omega) | omega); have c3 := hc (w.heap.size + 1) 1 (by first | (simp; done) | (simp; omega) | omega)))
    exact bodyPost_ret (v := .tuple #[.agg #[.int .i64 (hiOf (x / n)), .int .u64 (loOf (x / n))], .int .u64 (x % n), .bool true]) (by simp (maxDischargeDepth := 8) [results, Tryd.results44, go_sem, c2, c3]) rfl (And.intro rfl (by (repeat (first | exact Below.refl _ _ | assumption | (refine Below.drew ?_) | (refine Below.alloc ?_ (by first | (simp; done) | (simp; omega) | omega) _) | (refine Below.setCell ?_ (by first | (simp; done) | (simp; omega) | omega) _) | (refine Below.trans ?_ (Below.mono (by assumption) (by first | (simp; done) | (simp; omega) | omega)))))))
theorem wdiv_zero (x : Int) (w : World) :
    Calls Tryd.prog 44 #[.agg #[.int .i64 (hiOf x), .int .u64 (loOf x)], .int .u64 0] w fun e w' =>
      e = .returned (.tuple #[.agg #[.int .i64 0, .int .u64 0], .int .u64 0, .bool false]) ∧ Below w.heap.size w w' := by
  go_enter Tryd.func44, Tryd.ntmps44
  go_wp2
  exact bodyPost_ret (v := .tuple #[.agg #[.int .i64 0, .int .u64 0], .int .u64 0, .bool false]) (by simp [results, Tryd.results44, go_sem]) rfl (And.intro rfl (by (repeat (first | exact Below.refl _ _ | assumption | (refine Below.drew ?_) | (refine Below.alloc ?_ (by first | (simp; done) | (simp; omega) | omega) _) | (refine Below.setCell ?_ (by first | (simp; done) | (simp; omega) | omega) _) | (refine Below.trans ?_ (Below.mono (by assumption) (by first | (simp; done) | (simp; omega) | omega)))))))
end Go.Proofs.YthmkfkmcamjnoaaDoor
