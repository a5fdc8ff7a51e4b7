/-
  Package wide's Add, for all numbers of 128 bits.
-/
import Derived.Test.YthmkfkmcamjnoaaDoorWidA
namespace Go.Proofs.YthmkfkmcamjnoaaDoor
open Go.RowKit
set_option maxHeartbeats 1000000 in
theorem add_same (x y : Int) (b bs : Bool) (H1 : Hid (neg x = b)) (H2 : Hid (neg y = b)) (H3 : Hid (neg (wrapW (x + y)) = bs)) (w : World) (hg : Glob w) :
    Calls Tryd.prog 39 #[.agg #[.int .i64 (hiOf x), .int .u64 (loOf x)], .agg #[.int .i64 (hiOf y), .int .u64 (loOf y)]] w fun e w' =>
      e = .returned (.agg #[.int .i64 (hiOf (bif bs != b then bnd b else wrapW (x + y))), .int .u64 (loOf (bif bs != b then bnd b else wrapW (x + y)))]) ∧ Below w.heap.size w w' := by
  have e1 := add_lo x y
  have e2 := add_hi x y
  have B1 := Lib.hid (lo_bd x)
  have B2 := Lib.hid (lo_bd y)
  have B3 := Lib.hid (u64_bd (hiOf x))
  have B4 := Lib.hid (u64_bd (hiOf y))
  have Z0 : Hid ((0 : Int) ≤ 0 ∧ (0 : Int) ≤ 1) := ⟨by decide, by decide⟩
  have B5 := Lib.hid (sumCy_bd (c := 0) B1.out B2.out Z0.out)
  cases b <;> cases bs
  all_goals
    go_enter Tryd.func39, Tryd.ntmps39
    go_wp2_with (first | simp only [call_add64 _ _ 0 B1.out B2.out Z0.out] | simp only [call_add64 _ _ _ B3.out B4.out B5.out])
    go_region_held3 (fun w' => w'.cell? ⟨w.heap.size, 0, none⟩ = some (.int .i64 (hiOf x)) ∧ w'.cell? ⟨w.heap.size, 1, none⟩ = some (.int .u64 (loOf x)) ∧ w'.cell? ⟨w.heap.size + 1, 0, none⟩ = some (.int .i64 (hiOf y)) ∧ w'.cell? ⟨w.heap.size + 1, 1, none⟩ = some (.int .u64 (loOf y)) ∧ w'.cell? ⟨w.heap.size + 1 + 1 + 1, 0, none⟩ = some (.int .i64 (hiOf (wrapW (x + y)))) ∧ w'.cell? ⟨w.heap.size + 1 + 1 + 1, 1, none⟩ = some (.int .u64 (loOf (wrapW (x + y)))))
      (simp [go_sem, World.cell?_alloc_past])
      (first
        | (go_at_call_of 59 (hiOf x); refine (negative_at x _ H1.out _).mono ?_; rintro e w' ⟨rfl, cs, rfl⟩)
        | (go_at_call_of 59 (hiOf y); refine (negative_at y _ H2.out _).mono ?_; rintro e w' ⟨rfl, cs, rfl⟩)
        | (go_at_call_of 59 (hiOf (wrapW (x + y))); refine (negative_at (wrapW (x + y)) _ H3.out _).mono ?_; rintro e w' ⟨rfl, cs, rfl⟩))
    rename_i hHeld
    clear hHeld
    go_wp2_with (first
      | (go_at_call_of 59 (hiOf x); refine (negative_at x _ H1.out _).mono ?_; rintro e w' ⟨rfl, cs, rfl⟩)
      | (go_at_call 60; refine (bound_any _ _ (hg.below (by (repeat (first | exact Below.refl _ _ | assumption | (refine Below.drew ?_) | (refine Below.alloc ?_ (by first | (simp; done) | (simp; omega) | omega) _) | (refine Below.setCell ?_ (by first | (simp; done) | (simp; omega) | omega) _) | (refine Below.trans ?_ (Below.mono (by assumption) (by first | (simp; done) | (simp; omega) | omega)))))))).mono ?_; rintro e w1 ⟨rfl, hb⟩; obtain ⟨hc, hf⟩ := bcell hb))
    all_goals first
      | exact bodyPost_ret (v := .agg #[.int .i64 (hiOf (wrapW (x + y))), .int .u64 (loOf (wrapW (x + y)))]) (by simp [results, Tryd.results39, go_sem]) rfl ⟨rfl, by (repeat (first | exact Below.refl _ _ | assumption | (refine Below.drew ?_) | (refine Below.alloc ?_ (by first | (simp; done) | (simp; omega) | omega) _) | (refine Below.setCell ?_ (by first | (simp; done) | (simp; omega) | omega) _) | (refine Below.trans ?_ (Below.mono (by assumption) (by first | (simp; done) | (simp; omega) | omega)))))⟩
      | exact bodyPost_ret (v := .agg #[.int .i64 (hiOf (bnd _)), .int .u64 (loOf (bnd _))]) (by simp [results, Tryd.results39, go_sem, hc]) rfl ⟨rfl, by (repeat (first | exact Below.refl _ _ | assumption | (refine Below.drew ?_) | (refine Below.alloc ?_ (by first | (simp; done) | (simp; omega) | omega) _) | (refine Below.setCell ?_ (by first | (simp; done) | (simp; omega) | omega) _) | (refine Below.trans ?_ (Below.mono (by assumption) (by first | (simp; done) | (simp; omega) | omega)))))⟩
set_option maxHeartbeats 1000000 in
theorem add_diff (x y : Int) (b : Bool) (H1 : Hid (neg x = b)) (H2 : Hid (neg y = !b)) (w : World) :
    Calls Tryd.prog 39 #[.agg #[.int .i64 (hiOf x), .int .u64 (loOf x)], .agg #[.int .i64 (hiOf y), .int .u64 (loOf y)]] w fun e w' =>
      e = .returned (.agg #[.int .i64 (hiOf (wrapW (x + y))), .int .u64 (loOf (wrapW (x + y)))]) ∧ Below w.heap.size w w' := by
  have e1 := add_lo x y
  have e2 := add_hi x y
  have B1 := Lib.hid (lo_bd x)
  have B2 := Lib.hid (lo_bd y)
  have B3 := Lib.hid (u64_bd (hiOf x))
  have B4 := Lib.hid (u64_bd (hiOf y))
  have Z0 : Hid ((0 : Int) ≤ 0 ∧ (0 : Int) ≤ 1) := ⟨by decide, by decide⟩
  have B5 := Lib.hid (sumCy_bd (c := 0) B1.out B2.out Z0.out)
  cases b
  all_goals
    go_enter Tryd.func39, Tryd.ntmps39
    go_wp2_with (first | simp only [call_add64 _ _ 0 B1.out B2.out Z0.out] | simp only [call_add64 _ _ _ B3.out B4.out B5.out])
    go_region_with (first
      | (go_at_call_of 59 (hiOf x); refine (negative_at x _ H1.out _).mono ?_; rintro e w' ⟨rfl, cs, rfl⟩)
      | (go_at_call_of 59 (hiOf y); refine (negative_at y _ H2.out _).mono ?_; rintro e w' ⟨rfl, cs, rfl⟩))
    all_goals
      go_wp2
      first
      | exact bodyPost_ret (v := .agg #[.int .i64 (hiOf (wrapW (x + y))), .int .u64 (loOf (wrapW (x + y)))]) (by simp [results, Tryd.results39, go_sem]) rfl ⟨rfl, by (repeat (first | exact Below.refl _ _ | assumption | (refine Below.drew ?_) | (refine Below.alloc ?_ (by first | (simp; done) | (simp; omega) | omega) _) | (refine Below.setCell ?_ (by first | (simp; done) | (simp; omega) | omega) _) | (refine Below.trans ?_ (Below.mono (by assumption) (by first | (simp; done) | (simp; omega) | omega)))))⟩
theorem add_any (x y : Int) (hx : In x) (hy : In y) (w : World) (hg : Glob w) :
    Calls Tryd.prog 39 #[.agg #[.int .i64 (hiOf x), .int .u64 (loOf x)], .agg #[.int .i64 (hiOf y), .int .u64 (loOf y)]] w fun e w' =>
      e = .returned (.agg #[.int .i64 (hiOf (sat (x + y))), .int .u64 (loOf (sat (x + y)))]) ∧ Below w.heap.size w w' := by
  by_cases h : neg x = neg y
  · refine (add_same x y (neg x) (neg (wrapW (x + y))) (Lib.hid rfl) (Lib.hid h.symm) (Lib.hid rfl) w hg).mono fun e w' ⟨he, hb⟩ => ⟨?_, hb⟩
    rw [he]
    cases k : (neg (wrapW (x + y)) != neg x)
    · rw [sat_add_no hx hy (fun _ => k)]; rfl
    · rw [sat_add_yes hx hy h k]; rfl
  · refine (add_diff x y (neg x) (Lib.hid rfl) (Lib.hid (by cases e1 : neg x <;> cases e2 : neg y <;> simp_all)) w).mono fun e w' ⟨he, hb⟩ => ⟨?_, hb⟩
    rw [he, sat_add_no hx hy (fun h' => absurd h' h)]
end Go.Proofs.YthmkfkmcamjnoaaDoor
