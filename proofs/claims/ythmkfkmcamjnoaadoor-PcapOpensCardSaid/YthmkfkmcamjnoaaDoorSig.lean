/-
  Package wide's Sub, for all numbers of 128 bits.
  Package wide's Neg, Abs and Cmp, and the statements' own 'ends'.
  Package wide's magnitude, signer and its closure; math/bits.Mul64.
-/
import Derived.Test.YthmkfkmcamjnoaaDoorWidA
import Derived.Lib.Mul64
import Derived.Laws.Bits64b
namespace Go.Proofs.YthmkfkmcamjnoaaDoor
open Go.RowKit
set_option maxHeartbeats 1000000 in
theorem sub_far (x y : Int) (b bs : Bool) (H1 : Hid (neg x = b)) (H2 : Hid (neg y = !b)) (H3 : Hid (neg (wrapW (x - y)) = bs)) (w : World) (hg : Glob w) :
    Calls Tryd.prog 45 #[.agg #[.int .i64 (hiOf x), .int .u64 (loOf x)], .agg #[.int .i64 (hiOf y), .int .u64 (loOf y)]] w fun e w' =>
      e = .returned (.agg #[.int .i64 (hiOf (bif bs != b then bnd b else wrapW (x - y))), .int .u64 (loOf (bif bs != b then bnd b else wrapW (x - y)))]) ∧ Below w.heap.size w w' := by
  have e1 := sub_lo x y
  have e2 := sub_hi x y
  have B1 := Lib.hid (lo_bd x)
  have B2 := Lib.hid (lo_bd y)
  have B3 := Lib.hid (u64_bd (hiOf x))
  have B4 := Lib.hid (u64_bd (hiOf y))
  have Z0 : Hid ((0 : Int) ≤ 0 ∧ (0 : Int) ≤ 1) := ⟨by decide, by decide⟩
  have B5 := Lib.hid (difBr_bd (loOf x) (loOf y) 0)
  cases b <;> cases bs
  all_goals
    go_enter Tryd.func45, Tryd.ntmps45
    go_wp2_with (first | simp only [call_sub64 _ _ 0 B1.out B2.out Z0.out] | simp only [call_sub64 _ _ _ B3.out B4.out B5.out])
    go_region_held3 (fun w' => w'.cell? ⟨w.heap.size, 0, none⟩ = some (.int .i64 (hiOf x)) ∧ w'.cell? ⟨w.heap.size, 1, none⟩ = some (.int .u64 (loOf x)) ∧ w'.cell? ⟨w.heap.size + 1, 0, none⟩ = some (.int .i64 (hiOf y)) ∧ w'.cell? ⟨w.heap.size + 1, 1, none⟩ = some (.int .u64 (loOf y)) ∧ w'.cell? ⟨w.heap.size + 1 + 1 + 1, 0, none⟩ = some (.int .i64 (hiOf (wrapW (x - y)))) ∧ w'.cell? ⟨w.heap.size + 1 + 1 + 1, 1, none⟩ = some (.int .u64 (loOf (wrapW (x - y)))))
      (simp [go_sem, World.cell?_alloc_past])
      (first
        | (go_at_call_of 59 (hiOf x); refine (negative_at x _ H1.out _).mono ?_; rintro e w' ⟨rfl, cs, rfl⟩)
        | (go_at_call_of 59 (hiOf y); refine (negative_at y _ H2.out _).mono ?_; rintro e w' ⟨rfl, cs, rfl⟩)
        | (go_at_call_of 59 (hiOf (wrapW (x - y))); refine (negative_at (wrapW (x - y)) _ H3.out _).mono ?_; rintro e w' ⟨rfl, cs, rfl⟩))
    rename_i hHeld
    clear hHeld
    go_wp2_with (first
      | (go_at_call_of 59 (hiOf x); refine (negative_at x _ H1.out _).mono ?_; rintro e w' ⟨rfl, cs, rfl⟩)
      | (go_at_call 60; refine (bound_any _ _ (hg.below (by (repeat (first | exact Below.refl _ _ | assumption | (refine Below.drew ?_) | (refine Below.alloc ?_ (by first | (simp; done) | (simp; omega) | omega) _) | (refine Below.setCell ?_ (by first | (simp; done) | (simp; omega) | omega) _) | (refine Below.trans ?_ (Below.mono (by assumption) (by first | (simp; done) | (simp; omega) | omega)))))))).mono ?_; rintro e w1 ⟨rfl, hb⟩; obtain ⟨hc, hf⟩ := bcell hb))
    all_goals first
      | exact bodyPost_ret (v := .agg #[.int .i64 (hiOf (wrapW (x - y))), .int .u64 (loOf (wrapW (x - y)))]) (by simp [results, Tryd.results45, go_sem]) rfl ⟨rfl, by (repeat (first | exact Below.refl _ _ | assumption | (refine Below.drew ?_) | (refine Below.alloc ?_ (by first | (simp; done) | (simp; omega) | omega) _) | (refine Below.setCell ?_ (by first | (simp; done) | (simp; omega) | omega) _) | (refine Below.trans ?_ (Below.mono (by assumption) (by first | (simp; done) | (simp; omega) | omega)))))⟩
      | exact bodyPost_ret (v := .agg #[.int .i64 (hiOf (bnd _)), .int .u64 (loOf (bnd _))]) (by simp [results, Tryd.results45, go_sem, hc]) rfl ⟨rfl, by (repeat (first | exact Below.refl _ _ | assumption | (refine Below.drew ?_) | (refine Below.alloc ?_ (by first | (simp; done) | (simp; omega) | omega) _) | (refine Below.setCell ?_ (by first | (simp; done) | (simp; omega) | omega) _) | (refine Below.trans ?_ (Below.mono (by assumption) (by first | (simp; done) | (simp; omega) | omega)))))⟩
set_option maxHeartbeats 1000000 in
theorem sub_near (x y : Int) (b : Bool) (H1 : Hid (neg x = b)) (H2 : Hid (neg y = b)) (w : World) :
    Calls Tryd.prog 45 #[.agg #[.int .i64 (hiOf x), .int .u64 (loOf x)], .agg #[.int .i64 (hiOf y), .int .u64 (loOf y)]] w fun e w' =>
      e = .returned (.agg #[.int .i64 (hiOf (wrapW (x - y))), .int .u64 (loOf (wrapW (x - y)))]) ∧ Below w.heap.size w w' := by
  have e1 := sub_lo x y
  have e2 := sub_hi x y
  have B1 := Lib.hid (lo_bd x)
  have B2 := Lib.hid (lo_bd y)
  have B3 := Lib.hid (u64_bd (hiOf x))
  have B4 := Lib.hid (u64_bd (hiOf y))
  have Z0 : Hid ((0 : Int) ≤ 0 ∧ (0 : Int) ≤ 1) := ⟨by decide, by decide⟩
  have B5 := Lib.hid (difBr_bd (loOf x) (loOf y) 0)
  cases b
  all_goals
    go_enter Tryd.func45, Tryd.ntmps45
    go_wp2_with (first | simp only [call_sub64 _ _ 0 B1.out B2.out Z0.out] | simp only [call_sub64 _ _ _ B3.out B4.out B5.out])
    go_region_with (first
      | (go_at_call_of 59 (hiOf x); refine (negative_at x _ H1.out _).mono ?_; rintro e w' ⟨rfl, cs, rfl⟩)
      | (go_at_call_of 59 (hiOf y); refine (negative_at y _ H2.out _).mono ?_; rintro e w' ⟨rfl, cs, rfl⟩))
    all_goals
      go_wp2
      first
      | exact bodyPost_ret (v := .agg #[.int .i64 (hiOf (wrapW (x - y))), .int .u64 (loOf (wrapW (x - y)))]) (by simp [results, Tryd.results45, go_sem]) rfl ⟨rfl, by (repeat (first | exact Below.refl _ _ | assumption | (refine Below.drew ?_) | (refine Below.alloc ?_ (by first | (simp; done) | (simp; omega) | omega) _) | (refine Below.setCell ?_ (by first | (simp; done) | (simp; omega) | omega) _) | (refine Below.trans ?_ (Below.mono (by assumption) (by first | (simp; done) | (simp; omega) | omega)))))⟩
theorem sub_any (x y : Int) (hx : In x) (hy : In y) (w : World) (hg : Glob w) :
    Calls Tryd.prog 45 #[.agg #[.int .i64 (hiOf x), .int .u64 (loOf x)], .agg #[.int .i64 (hiOf y), .int .u64 (loOf y)]] w fun e w' =>
      e = .returned (.agg #[.int .i64 (hiOf (sat (x - y))), .int .u64 (loOf (sat (x - y)))]) ∧ Below w.heap.size w w' := by
  by_cases h : neg x = neg y
  · refine (sub_near x y (neg x) (Lib.hid rfl) (Lib.hid h.symm) w).mono fun e w' ⟨he, hb⟩ => ⟨?_, hb⟩
    rw [he, sat_sub_no hx hy (fun h' => absurd h h')]
  · refine (sub_far x y (neg x) (neg (wrapW (x - y))) (Lib.hid rfl) (Lib.hid (by cases e1 : neg x <;> cases e2 : neg y <;> simp_all)) (Lib.hid rfl) w hg).mono fun e w' ⟨he, hb⟩ => ⟨?_, hb⟩
    rw [he]
    cases k : (neg (wrapW (x - y)) != neg x)
    · rw [sat_sub_no hx hy (fun _ => k)]; rfl
    · rw [sat_sub_yes hx hy h k]; rfl
end Go.Proofs.YthmkfkmcamjnoaaDoor
namespace Go.Proofs.YthmkfkmcamjnoaaDoor
open Go.RowKit
theorem zero_hi : hiOf 0 = 0 := by decide
theorem zero_lo : loOf 0 = 0 := by decide
set_option maxHeartbeats 400000 in
theorem neg_any (x : Int) (hx : In x) (w : World) (hg : Glob w) :
    Calls Tryd.prog 75 #[.agg #[.int .i64 (hiOf x), .int .u64 (loOf x)]] w fun e w' =>
      e = .returned (.agg #[.int .i64 (hiOf (sat (-x))), .int .u64 (loOf (sat (-x)))]) ∧ Below w.heap.size w w' := by
  have hs := fun w hg => sub_any 0 x (by unfold In; omega) hx w hg
  rw [zero_hi, zero_lo, show (0 : Int) - x = -x from by omega] at hs
  have Hs := Lib.hid hs
  clear hs
  go_enter Tryd.func75, Tryd.ntmps75
  go_wp2_with (go_at_call 45; refine (Hs.out _ (hg.below (by (repeat (first | exact Below.refl _ _ | assumption | (refine Below.drew ?_) | (refine Below.alloc ?_ (by first | (simp; done) | (simp; omega) | omega) _) | (refine Below.setCell ?_ (by first | (simp; done) | (simp; omega) | omega) _) | (refine Below.trans ?_ (Below.mono (by assumption) (by first | (simp; done) | (simp; omega) | omega)))))))).mono ?_; rintro e w1 ⟨rfl, hb⟩; obtain ⟨hc, hf⟩ := bcell hb)
  exact bodyPost_ret (v := .agg #[.int .i64 (hiOf (sat (-x))), .int .u64 (loOf (sat (-x)))]) (by simp [results, Tryd.results75, go_sem, hc]) rfl ⟨rfl, by (repeat (first | exact Below.refl _ _ | assumption | (refine Below.drew ?_) | (refine Below.alloc ?_ (by first | (simp; done) | (simp; omega) | omega) _) | (refine Below.setCell ?_ (by first | (simp; done) | (simp; omega) | omega) _) | (refine Below.trans ?_ (Below.mono (by assumption) (by first | (simp; done) | (simp; omega) | omega)))))⟩
/-- -1, 0 or 1. -/
def sgn (x y : Int) : Int := if x = y then 0 else if x < y then -1 else 1
theorem cmp_facts (x y : Int) : (x = y ∧ hiOf x = hiOf y ∧ loOf x = loOf y) ∨
    (x ≠ y ∧ x < y ∧ hiOf x < hiOf y ∧ ¬ hiOf x = hiOf y) ∨ (x ≠ y ∧ x < y ∧ hiOf x = hiOf y ∧ loOf x < loOf y) ∨
    (x ≠ y ∧ ¬ x < y ∧ hiOf y < hiOf x ∧ ¬ hiOf x = hiOf y) ∨ (x ≠ y ∧ ¬ x < y ∧ hiOf x = hiOf y ∧ loOf y < loOf x) := by
  unfold hiOf loOf; omega
theorem cmp_any (x y : Int) (w : World) :
    Calls Tryd.prog 22 #[.agg #[.int .i64 (hiOf x), .int .u64 (loOf x)], .agg #[.int .i64 (hiOf y), .int .u64 (loOf y)]] w fun e w' =>
      e = .returned (.int .i64 (sgn x y)) ∧ Below w.heap.size w w' := by
  rcases cmp_facts x y with ⟨h1, h2, h3⟩ | ⟨h1, h2, h3, h4⟩ | ⟨h1, h2, h3, h4⟩ | ⟨h1, h2, h3, h4⟩ | ⟨h1, h2, h3, h4⟩
  · rw [show sgn x y = 0 from if_pos h1]
    subst h1
    go_enter Tryd.func22, Tryd.ntmps22
    go_wp2
    go_ret
    exact ⟨rfl, by (repeat (first | exact Below.refl _ _ | assumption | (refine Below.drew ?_) | (refine Below.alloc ?_ (by first | (simp; done) | (simp; omega) | omega) _) | (refine Below.setCell ?_ (by first | (simp; done) | (simp; omega) | omega) _) | (refine Below.trans ?_ (Below.mono (by assumption) (by first | (simp; done) | (simp; omega) | omega)))))⟩
  · rw [show sgn x y = -1 from by unfold sgn; rw [if_neg h1, if_pos h2]]
    clear h1 h2
    generalize hiOf x = a at *
    generalize hiOf y = b at *
    generalize loOf x = c at *
    generalize loOf y = d at *
    have k1 : (a == b) = false := by simpa using h4
    have k2 : decide (a < b) = true := by simpa using h3
    go_enter Tryd.func22, Tryd.ntmps22
    go_wp2
    go_ret
    exact ⟨rfl, by (repeat (first | exact Below.refl _ _ | assumption | (refine Below.drew ?_) | (refine Below.alloc ?_ (by first | (simp; done) | (simp; omega) | omega) _) | (refine Below.setCell ?_ (by first | (simp; done) | (simp; omega) | omega) _) | (refine Below.trans ?_ (Below.mono (by assumption) (by first | (simp; done) | (simp; omega) | omega)))))⟩
  · rw [show sgn x y = -1 from by unfold sgn; rw [if_neg h1, if_pos h2]]
    clear h1 h2
    rw [h3]
    clear h3
    generalize hiOf y = b at *
    generalize loOf x = c at *
    generalize loOf y = d at *
    have k1 : (c == d) = false := by simp; omega
    have k2 : decide (c < d) = true := by simpa using h4
    go_enter Tryd.func22, Tryd.ntmps22
    go_wp2
    go_ret
    exact ⟨rfl, by (repeat (first | exact Below.refl _ _ | assumption | (refine Below.drew ?_) | (refine Below.alloc ?_ (by first | (simp; done) | (simp; omega) | omega) _) | (refine Below.setCell ?_ (by first | (simp; done) | (simp; omega) | omega) _) | (refine Below.trans ?_ (Below.mono (by assumption) (by first | (simp; done) | (simp; omega) | omega)))))⟩
  · rw [show sgn x y = 1 from by unfold sgn; rw [if_neg h1, if_neg h2]]
    clear h1 h2
    generalize hiOf x = a at *
    generalize hiOf y = b at *
    generalize loOf x = c at *
    generalize loOf y = d at *
    have k1 : (a == b) = false := by simpa using h4
    have k2 : decide (a < b) = false := by simp; omega
    go_enter Tryd.func22, Tryd.ntmps22
    go_wp2
    go_ret
    exact ⟨rfl, by (repeat (first | exact Below.refl _ _ | assumption | (refine Below.drew ?_) | (refine Below.alloc ?_ (by first | (simp; done) | (simp; omega) | omega) _) | (refine Below.setCell ?_ (by first | (simp; done) | (simp; omega) | omega) _) | (refine Below.trans ?_ (Below.mono (by assumption) (by first | (simp; done) | (simp; omega) | omega)))))⟩
  · rw [show sgn x y = 1 from by unfold sgn; rw [if_neg h1, if_neg h2]]
    clear h1 h2
    rw [h3]
    clear h3
    generalize hiOf y = b at *
    generalize loOf x = c at *
    generalize loOf y = d at *
    have k1 : (c == d) = false := by simp; omega
    have k2 : decide (c < d) = false := by simp; omega
    go_enter Tryd.func22, Tryd.ntmps22
    go_wp2
    go_ret
    exact ⟨rfl, by (repeat (first | exact Below.refl _ _ | assumption | (refine Below.drew ?_) | (refine Below.alloc ?_ (by first | (simp; done) | (simp; omega) | omega) _) | (refine Below.setCell ?_ (by first | (simp; done) | (simp; omega) | omega) _) | (refine Below.trans ?_ (Below.mono (by assumption) (by first | (simp; done) | (simp; omega) | omega)))))⟩
end Go.Proofs.YthmkfkmcamjnoaaDoor
namespace Go.Proofs.YthmkfkmcamjnoaaDoor
open Go.RowKit
/-- A number's size, in two words. -/
def absI (x : Int) : Int := if x < 0 then -x else x
theorem abs_bd {x : Int} (h : In x) : 0 ≤ absI x ∧ absI x ≤ 170141183460469231731687303715884105728 := by unfold absI; unfold In at h; split <;> omega
theorem mag_lo_neg {x : Int} (h : x < 0) : difLo 0 (loOf x) 0 = loOf (absI x) := by unfold difLo loOf absI; rw [if_pos h]; omega
theorem mag_hi_neg {x : Int} (h : x < 0) (hx : In x) : difLo 0 (IntKind.u64.wrap (hiOf x)) (difBr 0 (loOf x) 0) = hiOf (absI x) := by
  rw [IntKind.wrap_u64]; unfold In at hx; unfold difLo difBr loOf hiOf absI; rw [if_pos h]; split <;> omega
theorem mag_hi_pos {x : Int} (h : ¬ x < 0) (hx : In x) : IntKind.u64.wrap (hiOf x) = hiOf (absI x) := by
  rw [IntKind.wrap_u64]; unfold In at hx; unfold hiOf absI; rw [if_neg h]; omega
theorem mag_lo_pos {x : Int} (h : ¬ x < 0) : loOf x = loOf (absI x) := by unfold absI; rw [if_neg h]
set_option maxHeartbeats 1000000 in
theorem magnitude_any (x : Int) (hx : In x) (w : World) :
    Calls Tryd.prog 68 #[.agg #[.int .i64 (hiOf x), .int .u64 (loOf x)]] w fun e w' =>
      e = .returned (.tuple #[.int .u64 (hiOf (absI x)), .int .u64 (loOf (absI x))]) ∧ Below w.heap.size w w' := by
  by_cases h : x < 0
  · have hn := Lib.hid ((neg_true_iff x).2 h)
    have e1 := mag_lo_neg h
    have e2 := mag_hi_neg h hx
    have B2 := Lib.hid (lo_bd x)
    have B4 := Lib.hid (u64_bd (hiOf x))
    have Z0 : Hid ((0 : Int) ≤ 0 ∧ (0 : Int) ≤ 1) := ⟨by decide, by decide⟩
    have Z1 : Hid ((0 : Int) ≤ 0 ∧ (0 : Int) ≤ 18446744073709551615) := ⟨by decide, by decide⟩
    have B5 := Lib.hid (difBr_bd 0 (loOf x) 0)
    clear h
    go_enter Tryd.func68, Tryd.ntmps68
    go_wp2_with (first
      | (go_at_call 59; refine (negative_at x _ hn.out _).mono ?_; rintro e w' ⟨rfl, cs, rfl⟩)
      | simp only [call_sub64 _ _ 0 Z1.out B2.out Z0.out] | simp only [call_sub64 _ _ _ Z1.out B4.out B5.out])
    go_ret2
    exact ⟨rfl, by (repeat (first | exact Below.refl _ _ | assumption | (refine Below.drew ?_) | (refine Below.alloc ?_ (by first | (simp; done) | (simp; omega) | omega) _) | (refine Below.setCell ?_ (by first | (simp; done) | (simp; omega) | omega) _) | (refine Below.trans ?_ (Below.mono (by assumption) (by first | (simp; done) | (simp; omega) | omega)))))⟩
  · have hn := Lib.hid ((neg_false_iff x).2 (by omega))
    have e1 := Lib.hid (mag_lo_pos h)
    have e2 := Lib.hid (mag_hi_pos h hx)
    clear h
    go_enter Tryd.func68, Tryd.ntmps68
    go_wp2_with (go_at_call 59; refine (negative_at x _ hn.out _).mono ?_; rintro e w' ⟨rfl, cs, rfl⟩)
    go_quiet (fail)
    go_wp2
    go_ret2
    exact ⟨by rw [← e1.out, ← e2.out]; rfl, by (repeat (first | exact Below.refl _ _ | assumption | (refine Below.drew ?_) | (refine below_drewN ?_ _) | (refine Below.alloc ?_ (by first | (simp; done) | (simp; omega) | omega) _) | (refine Below.setCell ?_ (by first | (simp; done) | (simp; omega) | omega) _) | (refine Below.trans ?_ (Below.mono (by assumption) (by first | (simp; done) | (simp; omega) | omega)))))⟩
theorem signer_any (m : Bool) (w : World) :
    Calls Tryd.prog 67 #[.bool m] w fun e w' =>
      e = .returned (.func (.func 74) #[] #[.pointer (some ⟨w.heap.size, 0, none⟩)]) ∧ w' = w.alloc (.cells #[.bool m] 4) := by
  go_enter Tryd.func67, Tryd.ntmps67
  go_wp2
  go_ret
  exact ⟨rfl, rfl⟩
/-- A size with its sign. -/
def signed (m : Bool) (v : Int) : Int := sat (if m then -v else v)
theorem signed_over {m : Bool} {v : Int} (h : 9223372036854775807 < hiOf v) : signed m v = bnd m := by
  unfold signed bnd sat minW maxW; unfold hiOf at h; cases m <;> simp <;> omega
theorem back_hi {v : Int} (h0 : 0 ≤ v) (h : ¬ 9223372036854775807 < hiOf v) : IntKind.i64.wrap (hiOf v) = hiOf v := by
  rw [IntKind.wrap_i64]; unfold hiOf at *; omega
theorem signed_in {v : Int} (h0 : 0 ≤ v) (h : ¬ 9223372036854775807 < hiOf v) : In v := by unfold In; unfold hiOf at h; omega
set_option maxHeartbeats 1000000 in
theorem sign_call (m : Bool) (v : Int) (h0 : 0 ≤ v) (a : Addr) (w : World) (hg : Glob w) (ha : w.cell? a = some (.bool m)) (hb0 : a.block < w.heap.size) :
    Calls Tryd.prog 74 #[.int .u64 (hiOf v), .int .u64 (loOf v), .pointer (some a)] w fun e w' =>
      e = .returned (.agg #[.int .i64 (hiOf (signed m v)), .int .u64 (loOf (signed m v))]) ∧ Below w.heap.size w w' := by
  by_cases h : 9223372036854775807 < hiOf v
  · rw [signed_over h]
    have k : decide (9223372036854775807 < hiOf v) = true := by simpa using h
    clear h
    go_enter Tryd.func74, Tryd.ntmps74
    go_wp2_with (go_at_call 60; refine (bound_any _ _ (hg.below (by (repeat (first | exact Below.refl _ _ | assumption | (refine Below.drew ?_) | (refine Below.alloc ?_ (by first | (simp; done) | (simp; omega) | omega) _) | (refine Below.setCell ?_ (by first | (simp; done) | (simp; omega) | omega) _) | (refine Below.trans ?_ (Below.mono (by assumption) (by first | (simp; done) | (simp; omega) | omega)))))))).mono ?_; rintro e w1 ⟨rfl, hb⟩; obtain ⟨hc, hf⟩ := bcell hb)
    exact bodyPost_ret (v := .agg #[.int .i64 (hiOf (bnd _)), .int .u64 (loOf (bnd _))]) (by simp [results, Tryd.results74, go_sem, hc]) rfl ⟨rfl, by (repeat (first | exact Below.refl _ _ | assumption | (refine Below.drew ?_) | (refine Below.alloc ?_ (by first | (simp; done) | (simp; omega) | omega) _) | (refine Below.setCell ?_ (by first | (simp; done) | (simp; omega) | omega) _) | (refine Below.trans ?_ (Below.mono (by assumption) (by first | (simp; done) | (simp; omega) | omega)))))⟩
  · have e1 := back_hi h0 h
    have hi := signed_in h0 h
    have Hi := Lib.hid hi
    have k : decide (9223372036854775807 < hiOf v) = false := by simpa using h
    clear h
    cases m
    · have es : signed false v = v := by unfold signed; exact sat_id hi
      rw [es]
      clear es hi
      go_enter Tryd.func74, Tryd.ntmps74
      go_wp2
      exact bodyPost_ret (v := .agg #[.int .i64 (hiOf v), .int .u64 (loOf v)]) (by simp [results, Tryd.results74, go_sem]) rfl ⟨rfl, by (repeat (first | exact Below.refl _ _ | assumption | (refine Below.drew ?_) | (refine Below.alloc ?_ (by first | (simp; done) | (simp; omega) | omega) _) | (refine Below.setCell ?_ (by first | (simp; done) | (simp; omega) | omega) _) | (refine Below.trans ?_ (Below.mono (by assumption) (by first | (simp; done) | (simp; omega) | omega)))))⟩
    · have es : signed true v = sat (-v) := by unfold signed; rfl
      rw [es]
      clear es hi
      go_enter Tryd.func74, Tryd.ntmps74
      go_wp2_with (go_at_call 75; refine (neg_any v Hi.out _ (hg.below (by (repeat (first | exact Below.refl _ _ | assumption | (refine Below.drew ?_) | (refine Below.alloc ?_ (by first | (simp; done) | (simp; omega) | omega) _) | (refine Below.setCell ?_ (by first | (simp; done) | (simp; omega) | omega) _) | (refine Below.trans ?_ (Below.mono (by assumption) (by first | (simp; done) | (simp; omega) | omega)))))))).mono ?_; rintro e w1 ⟨rfl, hb⟩; obtain ⟨hc, hf⟩ := bcell hb)
      exact bodyPost_ret (v := .agg #[.int .i64 (hiOf (sat (-v))), .int .u64 (loOf (sat (-v)))]) (by simp [results, Tryd.results74, go_sem, hc w.heap.size 0 (by first | (simp; done) | (simp; omega) | omega), hc w.heap.size 1 (by first | (simp; done) | (simp; omega) | omega)]) rfl ⟨rfl, by (repeat (first | exact Below.refl _ _ | assumption | (refine Below.drew ?_) | (refine Below.alloc ?_ (by first | (simp; done) | (simp; omega) | omega) _) | (refine Below.setCell ?_ (by first | (simp; done) | (simp; omega) | omega) _) | (refine Below.trans ?_ (Below.mono (by assumption) (by first | (simp; done) | (simp; omega) | omega)))))⟩
end Go.Proofs.YthmkfkmcamjnoaaDoor
