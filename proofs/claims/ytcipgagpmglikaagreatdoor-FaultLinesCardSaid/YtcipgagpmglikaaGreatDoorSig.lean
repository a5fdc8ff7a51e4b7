/-
  Package wide's magnitude, signer and its closure; math/bits.Mul64.
-/
import Derived.Test.YtcipgagpmglikaaGreatDoorNeg
import Derived.Lib.Mul64
import Derived.Laws.Bits64b
namespace Go.Proofs.YtcipgagpmglikaaGreatDoor
open Go.RowKit
/-- A number's size, in two words. -/
def absI (x : Int) : Int := if x < 0 then -x else x
theorem abs_bd {x : Int} (h : In x) : 0 ≤ absI x ∧ absI x ≤ 170141183460469231731687303715884105728 := by unfold absI; unfold In at h; split <;> omega
theorem mag_lo_neg {x : Int} (h : x < 0) : difLo 0 (loOf x) 0 = loOf (absI x) := by unfold difLo loOf absI; rw [if_pos h]; omega
theorem mag_hi_neg {x : Int} (h : x < 0) (hx : In x) : difLo 0 (IntKind.u64.wrap (hiOf x)) (difBr 0 (loOf x) 0) = hiOf (absI x) := by
  rw [IntKind.wrap_u64]; unfold In at hx; unfold difLo difBr loOf hiOf absI; rw [if_pos h]; split <;> omega
theorem mag_hi_pos {x : Int} (h : ¬ x < 0) (hx : In x) : IntKind.u64.wrap (hiOf x) = hiOf (absI x) := by
  rw [IntKind.wrap_u64]; unfold In at hx; unfold hiOf absI; rw [if_neg h]; omega
theorem mag_lo_pos {x : Int} (h : ¬ x < 0) : loOf x = loOf (absI x) := by unfold absI; rw [if_neg h]
set_option maxHeartbeats 1000000 in
theorem magnitude_any (x : Int) (hx : In x) (w : World) :
    Calls Tryz.prog 70 #[.agg #[.int .i64 (hiOf x), .int .u64 (loOf x)]] w fun e w' =>
      e = .returned (.tuple #[.int .u64 (hiOf (absI x)), .int .u64 (loOf (absI x))]) ∧ Below w.heap.size w w' := by
  by_cases h : x < 0
  · have hn := Lib.hid ((neg_true_iff x).2 h)
    have e1 := mag_lo_neg h
    have e2 := mag_hi_neg h hx
    have B2 := Lib.hid (lo_bd x)
    have B4 := Lib.hid (u64_bd (hiOf x))
    have Z0 : Hid ((0 : Int) ≤ 0 ∧ (0 : Int) ≤ 1) := ⟨by decide, by decide⟩
    have Z1 : Hid ((0 : Int) ≤ 0 ∧ (0 : Int) ≤ 18446744073709551615) := ⟨by decide, by decide⟩
    have B5 := Lib.hid (difBr_bd 0 (loOf x) 0)
    clear h
    go_enter Tryz.func70, Tryz.ntmps70
    go_wp2_with (first
      | (go_at_call 60; refine (negative_at x _ hn.out _).mono ?_; rintro e w' ⟨rfl, cs, rfl⟩)
      | simp only [call_sub64 _ _ 0 Z1.out B2.out Z0.out] | simp only [call_sub64 _ _ _ Z1.out B4.out B5.out])
    go_ret2
    exact ⟨rfl, by (repeat (first | exact Below.refl _ _ | assumption | (refine Below.drew ?_) | (refine Below.alloc ?_ (by first | (simp; done) | (simp; omega) | omega) _) | (refine Below.setCell ?_ (by first | (simp; done) | (simp; omega) | omega) _) | (refine Below.trans ?_ (Below.mono (by assumption) (by first | (simp; done) | (simp; omega) | omega)))))⟩
  · have hn := Lib.hid ((neg_false_iff x).2 (by omega))
    have e1 := Lib.hid (mag_lo_pos h)
    have e2 := Lib.hid (mag_hi_pos h hx)
    clear h
    go_enter Tryz.func70, Tryz.ntmps70
    go_wp2_with (go_at_call 60; refine (negative_at x _ hn.out _).mono ?_; rintro e w' ⟨rfl, cs, rfl⟩)
    go_quiet (fail)
    go_wp2
    go_ret2
    exact ⟨by rw [← e1.out, ← e2.out]; rfl, by (repeat (first | exact Below.refl _ _ | assumption | (refine Below.drew ?_) | (refine below_drewN ?_ _) | (refine Below.alloc ?_ (by first | (simp; done) | (simp; omega) | omega) _) | (refine Below.setCell ?_ (by first | (simp; done) | (simp; omega) | omega) _) | (refine Below.trans ?_ (Below.mono (by assumption) (by first | (simp; done) | (simp; omega) | omega)))))⟩
theorem signer_any (m : Bool) (w : World) :
    Calls Tryz.prog 69 #[.bool m] w fun e w' =>
      e = .returned (.func (.func 82) #[] #[.pointer (some ⟨w.heap.size, 0, none⟩)]) ∧ w' = w.alloc (.cells #[.bool m] 4) := by
  go_enter Tryz.func69, Tryz.ntmps69
  go_wp2
  go_ret
  exact ⟨rfl, rfl⟩
/-- A size with its sign. -/
def signed (m : Bool) (v : Int) : Int := sat (if m then -v else v)
theorem signed_over {m : Bool} {v : Int} (h : 9223372036854775807 < hiOf v) : signed m v = bnd m := by
  unfold signed bnd sat minW maxW; unfold hiOf at h; cases m <;> simp <;> omega
theorem back_hi {v : Int} (h0 : 0 ≤ v) (h : ¬ 9223372036854775807 < hiOf v) : IntKind.i64.wrap (hiOf v) = hiOf v := by
  rw [IntKind.wrap_i64]; unfold hiOf at *; omega
theorem signed_in {v : Int} (h0 : 0 ≤ v) (h : ¬ 9223372036854775807 < hiOf v) : In v := by unfold In; unfold hiOf at h; omega
set_option maxHeartbeats 1000000 in
theorem sign_call (m : Bool) (v : Int) (h0 : 0 ≤ v) (a : Addr) (w : World) (hg : Glob w) (ha : w.cell? a = some (.bool m)) (hb0 : a.block < w.heap.size) :
    Calls Tryz.prog 82 #[.int .u64 (hiOf v), .int .u64 (loOf v), .pointer (some a)] w fun e w' =>
      e = .returned (.agg #[.int .i64 (hiOf (signed m v)), .int .u64 (loOf (signed m v))]) ∧ Below w.heap.size w w' := by
  by_cases h : 9223372036854775807 < hiOf v
  · rw [signed_over h]
    have k : decide (9223372036854775807 < hiOf v) = true := by simpa using h
    clear h
    go_enter Tryz.func82, Tryz.ntmps82
    go_wp2_with (go_at_call 68; refine (bound_any _ _ (hg.below (by (repeat (first | exact Below.refl _ _ | assumption | (refine Below.drew ?_) | (refine Below.alloc ?_ (by first | (simp; done) | (simp; omega) | omega) _) | (refine Below.setCell ?_ (by first | (simp; done) | (simp; omega) | omega) _) | (refine Below.trans ?_ (Below.mono (by assumption) (by first | (simp; done) | (simp; omega) | omega)))))))).mono ?_; rintro e w1 ⟨rfl, hb⟩; obtain ⟨hc, hf⟩ := bcell hb)
    exact bodyPost_ret (v := .agg #[.int .i64 (hiOf (bnd _)), .int .u64 (loOf (bnd _))]) (by simp [results, Tryz.results82, go_sem, hc]) rfl ⟨rfl, by (repeat (first | exact Below.refl _ _ | assumption | (refine Below.drew ?_) | (refine Below.alloc ?_ (by first | (simp; done) | (simp; omega) | omega) _) | (refine Below.setCell ?_ (by first | (simp; done) | (simp; omega) | omega) _) | (refine Below.trans ?_ (Below.mono (by assumption) (by first | (simp; done) | (simp; omega) | omega)))))⟩
  · have e1 := back_hi h0 h
    have hi := signed_in h0 h
    have Hi := Lib.hid hi
    have k : decide (9223372036854775807 < hiOf v) = false := by simpa using h
    clear h
    cases m
    · have es : signed false v = v := by unfold signed; exact sat_id hi
      rw [es]
      clear es hi
      go_enter Tryz.func82, Tryz.ntmps82
      go_wp2
      exact bodyPost_ret (v := .agg #[.int .i64 (hiOf v), .int .u64 (loOf v)]) (by simp [results, Tryz.results82, go_sem]) rfl ⟨rfl, by (repeat (first | exact Below.refl _ _ | assumption | (refine Below.drew ?_) | (refine Below.alloc ?_ (by first | (simp; done) | (simp; omega) | omega) _) | (refine Below.setCell ?_ (by first | (simp; done) | (simp; omega) | omega) _) | (refine Below.trans ?_ (Below.mono (by assumption) (by first | (simp; done) | (simp; omega) | omega)))))⟩
    · have es : signed true v = sat (-v) := by unfold signed; rfl
      rw [es]
      clear es hi
      go_enter Tryz.func82, Tryz.ntmps82
      go_wp2_with (go_at_call 58; refine (neg_any v Hi.out _ (hg.below (by (repeat (first | exact Below.refl _ _ | assumption | (refine Below.drew ?_) | (refine Below.alloc ?_ (by first | (simp; done) | (simp; omega) | omega) _) | (refine Below.setCell ?_ (by first | (simp; done) | (simp; omega) | omega) _) | (refine Below.trans ?_ (Below.mono (by assumption) (by first | (simp; done) | (simp; omega) | omega)))))))).mono ?_; rintro e w1 ⟨rfl, hb⟩; obtain ⟨hc, hf⟩ := bcell hb)
      exact bodyPost_ret (v := .agg #[.int .i64 (hiOf (sat (-v))), .int .u64 (loOf (sat (-v)))]) (by simp [results, Tryz.results82, go_sem, hc w.heap.size 0 (by first | (simp; done) | (simp; omega) | omega), hc w.heap.size 1 (by first | (simp; done) | (simp; omega) | omega)]) rfl ⟨rfl, by (repeat (first | exact Below.refl _ _ | assumption | (refine Below.drew ?_) | (refine Below.alloc ?_ (by first | (simp; done) | (simp; omega) | omega) _) | (refine Below.setCell ?_ (by first | (simp; done) | (simp; omega) | omega) _) | (refine Below.trans ?_ (Below.mono (by assumption) (by first | (simp; done) | (simp; omega) | omega)))))⟩
end Go.Proofs.YtcipgagpmglikaaGreatDoor
