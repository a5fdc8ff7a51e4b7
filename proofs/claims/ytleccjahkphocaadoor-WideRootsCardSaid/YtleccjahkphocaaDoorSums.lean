/-
  WideSums, walked.
-/
import Derived.Test.YtleccjahkphocaaDoorRefK
namespace Go.Proofs.YtleccjahkphocaaDoor
open Go.RowKit Go.Sort
/-- What stands through the two numbers' making. -/
def SumS (w : World) (x y : Int) (W' : World) : Prop := At W' w.heap.size x ∧ At W' (w.heap.size + 1) y ∧ Below w.heap.size w W'
theorem SumS.on {w W W' : World} {x y : Int} (h : SumS w x y W) (hb : Below W.heap.size W W') : SumS w x y W' :=
  ⟨h.1.below hb, h.2.1.below hb, h.2.2.trans (hb.mono h.2.2.size)⟩
theorem SumS.row {w W : World} {x y : Int} (h : SumS w x y W) {g : Nat} (hg : w.heap.size + 1 < g) (cs : Array Value) : SumS w x y (W.setRow g cs) :=
  ⟨h.1.row (by omega) _, h.2.1.row (by omega) _, Below.setRow' h.2.2 (by omega) _⟩
set_option maxHeartbeats 8000000 in
set_option maxRecDepth 100000 in
theorem wideSums_any (x y n : Int) (hx : In x) (hy : In y) (hn : -9223372036854775808 ≤ n ∧ n ≤ 9223372036854775807) (w : World) (hg : Glob w) :
    Calls Tryd.prog 3 #[.agg #[.int .i64 (hiOf x), .int .u64 (loOf x)], .agg #[.int .i64 (hiOf y), .int .u64 (loOf y)], .int .i64 n] w
      fun e w' => e = .returned (.bool true) ∧ Below w.heap.size w w' := by
  have Hx := Lib.hid hx
  have Hy := Lib.hid hy
  have Hn := Lib.hid hn
  have G0 := Lib.hid hg
  have K := Lib.hid g_known
  have Fx := Lib.hid (r_from x hx)
  have Fy := Lib.hid (r_from y hy)
  have C0 : Hid (SumS w x y ((w.alloc (.cells #[.int .i64 (hiOf x), .int .u64 (loOf x)] 24)).alloc (.cells #[.int .i64 (hiOf y), .int .u64 (loOf y)] 24))) :=
    Lib.hid ⟨(At.new _ x _ rfl rfl rfl).alloc _, At.new _ y _ (by first | (simp; done) | (simp; omega) | omega) rfl rfl, by (repeat (first | (with_reducible exact Below.refl _ _) | (with_reducible assumption) | (with_reducible refine Below.drew ?_) | (with_reducible refine below_drewN ?_ _) | ((with_reducible refine Below.alloc ?_ ?_ _); rotate_left; (focus (first | (simp; done) | (simp; omega) | omega))) | ((with_reducible refine Below.setCell ?_ ?_ _); rotate_left; (focus (first | (simp; done) | (simp; omega) | omega))) | ((with_reducible refine Below.trans ?_ (Below.mono (by assumption) ?_)); rotate_left; (focus (first | (simp; done) | (simp; omega) | omega)))))⟩
  clear hx hy hn hg
  go_enter Tryd.func3, Tryd.ntmps3
  go_upto_region 1 with fail
  generalize (w.alloc (.cells #[.int .i64 (hiOf x), .int .u64 (loOf x)] 24)).alloc (.cells #[.int .i64 (hiOf y), .int .u64 (loOf y)] 24) = w0 at *
  go_upto_region 3 with (go_at_call 8; refine (K.out _ (G0.out.below C0.out.2.2)).mono ?_; rintro e w1 ⟨rfl, hb⟩; have C1 := Lib.hid (C0.out.on hb); clear hb C0)
  go_cut [7, 8] from 10 to 16 (fun u v wr => ∃ p q, w.heap.size + 1 < p ∧ w.heap.size + 1 < q ∧ p ≠ q ∧ u = .pointer (some ⟨p, 0, none⟩) ∧ v = .pointer (some ⟨q, 0, none⟩) ∧ NumAt wr p (pair0 x) (dig (absN x)) ∧ NumAt wr q (pair0 y) (dig (absN y)) ∧ SumS w x y wr)
  case first =>
    refine wp_region_held_drew (S := SumS w x y) (by kernel_rfl) (C1.out.on (Below.refl _ _).drew) (fun hHeld => ?_)
    refine wpAnyH_take (i := 0) (v := .agg #[.int .i64 (hiOf x), .int .u64 (loOf x)]) rfl (by kernel_rfl) (by kernel_rfl) (by kernel_rfl) (fun _ _ _ h => h) (Or.inl ⟨by rfl, ?_⟩) (by assumption) ?_
    · intro W' hS; have c0 := hS.1.1; have c1 := hS.1.2.1; go_simp
    (try simp only [Act.put])
    refine wpAnyH_take (i := 2) (v := .agg #[.int .i64 (hiOf y), .int .u64 (loOf y)]) rfl (by kernel_rfl) (by kernel_rfl) (by kernel_rfl) (fun _ _ _ h => h) (Or.inl ⟨by rfl, ?_⟩) (by assumption) ?_
    · intro W' hS; have c0 := hS.2.1.1; have c1 := hS.2.1.2.1; go_simp
    (try simp only [Act.put])
    refine wpAnyH_ready (rs := [1, 4, 5]) (by kernel_rfl) (by simp) ?_
    refine AllReadyH.cons rfl (fun K hK => ?_) ?_
    · go_simp
      go_at_call_of 9 (hiOf x)
      refine (Fx.out _ (G0.out.below hHeld.2.2)).mono ?_
      rintro e w1 ⟨rfl, hb1⟩
      have sz := hb1.size
      (try simp at sz)
      refine hK.out _ _ (hHeld.on hb1) (fun hHeld => ?_)
      clear hK K
      (try simp only [Act.put])
      refine wpAnyH_ready (rs := [3, 4, 5]) (by kernel_rfl) (by simp) ?_
      refine AllReadyH.cons rfl (fun K hK => ?_) ?_
      · go_simp
        go_at_call_of 9 (hiOf y)
        refine (Fy.out _ (G0.out.below hHeld.2.2)).mono ?_
        rintro e w3 ⟨rfl, hb3⟩
        have sz := hb3.size
        (try simp at sz)
        refine hK.out _ _ (hHeld.on hb3) (fun hHeld => ?_)
        clear hK K
        (try simp only [Act.put])
        refine wpAnyH_ready (rs := [4, 5]) (by kernel_rfl) (by simp) ?_
        refine AllReadyH.cons rfl (fun K hK => ?_) ?_
        · go_simp
          rw [← numC_nought]
          have lt4 := hHeld.2.1.2.2
          (try simp at lt4)
          refine hK.out _ _ (hHeld.on (below_alloc _ _)) (fun hHeld => ?_)
          clear hK K
          (try simp only [Act.put])
          refine wpAnyH_ready (rs := [5]) (by kernel_rfl) (by simp) ?_
          refine AllReadyH.cons rfl (fun K hK => ?_) AllReadyH.nil
          go_simp
          rw [← numC_nought]
          have lt5 := hHeld.2.1.2.2
          (try simp at lt5)
          refine hK.out _ _ (hHeld.on (below_alloc _ _)) (fun hHeld => ?_)
          clear hK K
          (try simp only [Act.put])
          refine wpAnyH_ready (rs := [6]) (by kernel_rfl) (by simp) ?_
          refine AllReadyH.cons rfl (fun K hK => ?_) AllReadyH.nil
          rw [if_pos (by rfl)]
          refine wp_store_row 28 (.tmp 7) (.tmp 13) rfl _ (numC (pair0 x) (dig (absN x))) rfl rfl 28 (numC false fun _ => 0) (show NumAt _ _ false (fun _ => 0) from by (repeat (first | ((with_reducible refine NumAt.new _ _ _ ?_); first | rfl | (simp; done)) | (with_reducible refine NumAt.whole (b := false) (f := fun _ => 0) ?_) | (with_reducible refine NumAt.wholeOther ?_ _ (by omega)) | (with_reducible refine NumAt.alloc ?_ _) | (with_reducible refine NumAt.drew ?_) | (with_reducible refine NumAt.on ?_ (by assumption))))) (infoN _ _) (by rw [numC_size, numC_size]) (numC_ok _ _) ?_
          refine hK.out _ _ (hHeld.row (by omega) _) (fun hHeld => ?_)
          clear hK K
          (try simp only [Act.put])
          refine wpAnyH_ready (rs := [7]) (by kernel_rfl) (by simp) ?_
          refine AllReadyH.cons rfl (fun K hK => ?_) AllReadyH.nil
          rw [if_pos (by rfl)]
          refine wp_store_row 28 (.tmp 8) (.tmp 15) rfl _ (numC (pair0 y) (dig (absN y))) rfl rfl 28 (numC false fun _ => 0) (show NumAt _ _ false (fun _ => 0) from by (repeat (first | ((with_reducible refine NumAt.new _ _ _ ?_); first | rfl | (simp; done)) | (with_reducible refine NumAt.whole (b := false) (f := fun _ => 0) ?_) | (with_reducible refine NumAt.wholeOther ?_ _ (by omega)) | (with_reducible refine NumAt.alloc ?_ _) | (with_reducible refine NumAt.drew ?_) | (with_reducible refine NumAt.on ?_ (by assumption))))) (infoN _ _) (by rw [numC_size, numC_size]) (numC_ok _ _) ?_
          refine hK.out _ _ (hHeld.row (by omega) _) (fun hHeld => ?_)
          clear hK K
          (try simp only [Act.put])
          refine wpAnyH_done (by kernel_rfl) ?_ _
          go_wp2_with fail
          go_meet
          refine ⟨_, _, ?_, ?_, ?_, rfl, rfl, ?_, ?_, hHeld⟩
          · omega
          · omega
          · omega
          · (repeat (first | ((with_reducible refine NumAt.new _ _ _ ?_); first | rfl | (simp; done)) | (with_reducible refine NumAt.whole (b := false) (f := fun _ => 0) ?_) | (with_reducible refine NumAt.wholeOther ?_ _ (by omega)) | (with_reducible refine NumAt.alloc ?_ _) | (with_reducible refine NumAt.drew ?_) | (with_reducible refine NumAt.on ?_ (by assumption))))
          · (repeat (first | ((with_reducible refine NumAt.new _ _ _ ?_); first | rfl | (simp; done)) | (with_reducible refine NumAt.whole (b := false) (f := fun _ => 0) ?_) | (with_reducible refine NumAt.wholeOther ?_ _ (by omega)) | (with_reducible refine NumAt.alloc ?_ _) | (with_reducible refine NumAt.drew ?_) | (with_reducible refine NumAt.on ?_ (by assumption))))
        refine AllReadyH.cons rfl (fun K hK => ?_) ?_
        · go_simp
          rw [← numC_nought]
          have lt5 := hHeld.2.1.2.2
          (try simp at lt5)
          refine hK.out _ _ (hHeld.on (below_alloc _ _)) (fun hHeld => ?_)
          clear hK K
          (try simp only [Act.put])
          refine wpAnyH_ready (rs := [4]) (by kernel_rfl) (by simp) ?_
          refine AllReadyH.cons rfl (fun K hK => ?_) AllReadyH.nil
          go_simp
          rw [← numC_nought]
          have lt4 := hHeld.2.1.2.2
          (try simp at lt4)
          refine hK.out _ _ (hHeld.on (below_alloc _ _)) (fun hHeld => ?_)
          clear hK K
          (try simp only [Act.put])
          refine wpAnyH_ready (rs := [6]) (by kernel_rfl) (by simp) ?_
          refine AllReadyH.cons rfl (fun K hK => ?_) AllReadyH.nil
          rw [if_pos (by rfl)]
          refine wp_store_row 28 (.tmp 7) (.tmp 13) rfl _ (numC (pair0 x) (dig (absN x))) rfl rfl 28 (numC false fun _ => 0) (show NumAt _ _ false (fun _ => 0) from by (repeat (first | ((with_reducible refine NumAt.new _ _ _ ?_); first | rfl | (simp; done)) | (with_reducible refine NumAt.whole (b := false) (f := fun _ => 0) ?_) | (with_reducible refine NumAt.wholeOther ?_ _ (by omega)) | (with_reducible refine NumAt.alloc ?_ _) | (with_reducible refine NumAt.drew ?_) | (with_reducible refine NumAt.on ?_ (by assumption))))) (infoN _ _) (by rw [numC_size, numC_size]) (numC_ok _ _) ?_
          refine hK.out _ _ (hHeld.row (by omega) _) (fun hHeld => ?_)
          clear hK K
          (try simp only [Act.put])
          refine wpAnyH_ready (rs := [7]) (by kernel_rfl) (by simp) ?_
          refine AllReadyH.cons rfl (fun K hK => ?_) AllReadyH.nil
          rw [if_pos (by rfl)]
          refine wp_store_row 28 (.tmp 8) (.tmp 15) rfl _ (numC (pair0 y) (dig (absN y))) rfl rfl 28 (numC false fun _ => 0) (show NumAt _ _ false (fun _ => 0) from by (repeat (first | ((with_reducible refine NumAt.new _ _ _ ?_); first | rfl | (simp; done)) | (with_reducible refine NumAt.whole (b := false) (f := fun _ => 0) ?_) | (with_reducible refine NumAt.wholeOther ?_ _ (by omega)) | (with_reducible refine NumAt.alloc ?_ _) | (with_reducible refine NumAt.drew ?_) | (with_reducible refine NumAt.on ?_ (by assumption))))) (infoN _ _) (by rw [numC_size, numC_size]) (numC_ok _ _) ?_
          refine hK.out _ _ (hHeld.row (by omega) _) (fun hHeld => ?_)
          clear hK K
          (try simp only [Act.put])
          refine wpAnyH_done (by kernel_rfl) ?_ _
          go_wp2_with fail
          go_meet
          refine ⟨_, _, ?_, ?_, ?_, rfl, rfl, ?_, ?_, hHeld⟩
          · omega
          · omega
          · omega
          · (repeat (first | ((with_reducible refine NumAt.new _ _ _ ?_); first | rfl | (simp; done)) | (with_reducible refine NumAt.whole (b := false) (f := fun _ => 0) ?_) | (with_reducible refine NumAt.wholeOther ?_ _ (by omega)) | (with_reducible refine NumAt.alloc ?_ _) | (with_reducible refine NumAt.drew ?_) | (with_reducible refine NumAt.on ?_ (by assumption))))
          · (repeat (first | ((with_reducible refine NumAt.new _ _ _ ?_); first | rfl | (simp; done)) | (with_reducible refine NumAt.whole (b := false) (f := fun _ => 0) ?_) | (with_reducible refine NumAt.wholeOther ?_ _ (by omega)) | (with_reducible refine NumAt.alloc ?_ _) | (with_reducible refine NumAt.drew ?_) | (with_reducible refine NumAt.on ?_ (by assumption))))
        exact AllReadyH.nil
      refine AllReadyH.cons rfl (fun K hK => ?_) ?_
      · go_simp
        rw [← numC_nought]
        have lt4 := hHeld.2.1.2.2
        (try simp at lt4)
        refine hK.out _ _ (hHeld.on (below_alloc _ _)) (fun hHeld => ?_)
        clear hK K
        (try simp only [Act.put])
        refine wpAnyH_ready (rs := [3, 5]) (by kernel_rfl) (by simp) ?_
        refine AllReadyH.cons rfl (fun K hK => ?_) ?_
        · go_simp
          go_at_call_of 9 (hiOf y)
          refine (Fy.out _ (G0.out.below hHeld.2.2)).mono ?_
          rintro e w3 ⟨rfl, hb3⟩
          have sz := hb3.size
          (try simp at sz)
          refine hK.out _ _ (hHeld.on hb3) (fun hHeld => ?_)
          clear hK K
          (try simp only [Act.put])
          refine wpAnyH_ready (rs := [5]) (by kernel_rfl) (by simp) ?_
          refine AllReadyH.cons rfl (fun K hK => ?_) AllReadyH.nil
          go_simp
          rw [← numC_nought]
          have lt5 := hHeld.2.1.2.2
          (try simp at lt5)
          refine hK.out _ _ (hHeld.on (below_alloc _ _)) (fun hHeld => ?_)
          clear hK K
          (try simp only [Act.put])
          refine wpAnyH_ready (rs := [6]) (by kernel_rfl) (by simp) ?_
          refine AllReadyH.cons rfl (fun K hK => ?_) AllReadyH.nil
          rw [if_pos (by rfl)]
          refine wp_store_row 28 (.tmp 7) (.tmp 13) rfl _ (numC (pair0 x) (dig (absN x))) rfl rfl 28 (numC false fun _ => 0) (show NumAt _ _ false (fun _ => 0) from by (repeat (first | ((with_reducible refine NumAt.new _ _ _ ?_); first | rfl | (simp; done)) | (with_reducible refine NumAt.whole (b := false) (f := fun _ => 0) ?_) | (with_reducible refine NumAt.wholeOther ?_ _ (by omega)) | (with_reducible refine NumAt.alloc ?_ _) | (with_reducible refine NumAt.drew ?_) | (with_reducible refine NumAt.on ?_ (by assumption))))) (infoN _ _) (by rw [numC_size, numC_size]) (numC_ok _ _) ?_
          refine hK.out _ _ (hHeld.row (by omega) _) (fun hHeld => ?_)
          clear hK K
          (try simp only [Act.put])
          refine wpAnyH_ready (rs := [7]) (by kernel_rfl) (by simp) ?_
          refine AllReadyH.cons rfl (fun K hK => ?_) AllReadyH.nil
          rw [if_pos (by rfl)]
          refine wp_store_row 28 (.tmp 8) (.tmp 15) rfl _ (numC (pair0 y) (dig (absN y))) rfl rfl 28 (numC false fun _ => 0) (show NumAt _ _ false (fun _ => 0) from by (repeat (first | ((with_reducible refine NumAt.new _ _ _ ?_); first | rfl | (simp; done)) | (with_reducible refine NumAt.whole (b := false) (f := fun _ => 0) ?_) | (with_reducible refine NumAt.wholeOther ?_ _ (by omega)) | (with_reducible refine NumAt.alloc ?_ _) | (with_reducible refine NumAt.drew ?_) | (with_reducible refine NumAt.on ?_ (by assumption))))) (infoN _ _) (by rw [numC_size, numC_size]) (numC_ok _ _) ?_
          refine hK.out _ _ (hHeld.row (by omega) _) (fun hHeld => ?_)
          clear hK K
          (try simp only [Act.put])
          refine wpAnyH_done (by kernel_rfl) ?_ _
          go_wp2_with fail
          go_meet
          refine ⟨_, _, ?_, ?_, ?_, rfl, rfl, ?_, ?_, hHeld⟩
          · omega
          · omega
          · omega
          · (repeat (first | ((with_reducible refine NumAt.new _ _ _ ?_); first | rfl | (simp; done)) | (with_reducible refine NumAt.whole (b := false) (f := fun _ => 0) ?_) | (with_reducible refine NumAt.wholeOther ?_ _ (by omega)) | (with_reducible refine NumAt.alloc ?_ _) | (with_reducible refine NumAt.drew ?_) | (with_reducible refine NumAt.on ?_ (by assumption))))
          · (repeat (first | ((with_reducible refine NumAt.new _ _ _ ?_); first | rfl | (simp; done)) | (with_reducible refine NumAt.whole (b := false) (f := fun _ => 0) ?_) | (with_reducible refine NumAt.wholeOther ?_ _ (by omega)) | (with_reducible refine NumAt.alloc ?_ _) | (with_reducible refine NumAt.drew ?_) | (with_reducible refine NumAt.on ?_ (by assumption))))
        refine AllReadyH.cons rfl (fun K hK => ?_) ?_
        · go_simp
          rw [← numC_nought]
          have lt5 := hHeld.2.1.2.2
          (try simp at lt5)
          refine hK.out _ _ (hHeld.on (below_alloc _ _)) (fun hHeld => ?_)
          clear hK K
          (try simp only [Act.put])
          refine wpAnyH_ready (rs := [3]) (by kernel_rfl) (by simp) ?_
          refine AllReadyH.cons rfl (fun K hK => ?_) AllReadyH.nil
          go_simp
          go_at_call_of 9 (hiOf y)
          refine (Fy.out _ (G0.out.below hHeld.2.2)).mono ?_
          rintro e w3 ⟨rfl, hb3⟩
          have sz := hb3.size
          (try simp at sz)
          refine hK.out _ _ (hHeld.on hb3) (fun hHeld => ?_)
          clear hK K
          (try simp only [Act.put])
          refine wpAnyH_ready (rs := [6]) (by kernel_rfl) (by simp) ?_
          refine AllReadyH.cons rfl (fun K hK => ?_) AllReadyH.nil
          rw [if_pos (by rfl)]
          refine wp_store_row 28 (.tmp 7) (.tmp 13) rfl _ (numC (pair0 x) (dig (absN x))) rfl rfl 28 (numC false fun _ => 0) (show NumAt _ _ false (fun _ => 0) from by (repeat (first | ((with_reducible refine NumAt.new _ _ _ ?_); first | rfl | (simp; done)) | (with_reducible refine NumAt.whole (b := false) (f := fun _ => 0) ?_) | (with_reducible refine NumAt.wholeOther ?_ _ (by omega)) | (with_reducible refine NumAt.alloc ?_ _) | (with_reducible refine NumAt.drew ?_) | (with_reducible refine NumAt.on ?_ (by assumption))))) (infoN _ _) (by rw [numC_size, numC_size]) (numC_ok _ _) ?_
          refine hK.out _ _ (hHeld.row (by omega) _) (fun hHeld => ?_)
          clear hK K
          (try simp only [Act.put])
          refine wpAnyH_ready (rs := [7]) (by kernel_rfl) (by simp) ?_
          refine AllReadyH.cons rfl (fun K hK => ?_) AllReadyH.nil
          rw [if_pos (by rfl)]
          refine wp_store_row 28 (.tmp 8) (.tmp 15) rfl _ (numC (pair0 y) (dig (absN y))) rfl rfl 28 (numC false fun _ => 0) (show NumAt _ _ false (fun _ => 0) from by (repeat (first | ((with_reducible refine NumAt.new _ _ _ ?_); first | rfl | (simp; done)) | (with_reducible refine NumAt.whole (b := false) (f := fun _ => 0) ?_) | (with_reducible refine NumAt.wholeOther ?_ _ (by omega)) | (with_reducible refine NumAt.alloc ?_ _) | (with_reducible refine NumAt.drew ?_) | (with_reducible refine NumAt.on ?_ (by assumption))))) (infoN _ _) (by rw [numC_size, numC_size]) (numC_ok _ _) ?_
          refine hK.out _ _ (hHeld.row (by omega) _) (fun hHeld => ?_)
          clear hK K
          (try simp only [Act.put])
          refine wpAnyH_done (by kernel_rfl) ?_ _
          go_wp2_with fail
          go_meet
          refine ⟨_, _, ?_, ?_, ?_, rfl, rfl, ?_, ?_, hHeld⟩
          · omega
          · omega
          · omega
          · (repeat (first | ((with_reducible refine NumAt.new _ _ _ ?_); first | rfl | (simp; done)) | (with_reducible refine NumAt.whole (b := false) (f := fun _ => 0) ?_) | (with_reducible refine NumAt.wholeOther ?_ _ (by omega)) | (with_reducible refine NumAt.alloc ?_ _) | (with_reducible refine NumAt.drew ?_) | (with_reducible refine NumAt.on ?_ (by assumption))))
          · (repeat (first | ((with_reducible refine NumAt.new _ _ _ ?_); first | rfl | (simp; done)) | (with_reducible refine NumAt.whole (b := false) (f := fun _ => 0) ?_) | (with_reducible refine NumAt.wholeOther ?_ _ (by omega)) | (with_reducible refine NumAt.alloc ?_ _) | (with_reducible refine NumAt.drew ?_) | (with_reducible refine NumAt.on ?_ (by assumption))))
        exact AllReadyH.nil
      refine AllReadyH.cons rfl (fun K hK => ?_) ?_
      · go_simp
        rw [← numC_nought]
        have lt5 := hHeld.2.1.2.2
        (try simp at lt5)
        refine hK.out _ _ (hHeld.on (below_alloc _ _)) (fun hHeld => ?_)
        clear hK K
        (try simp only [Act.put])
        refine wpAnyH_ready (rs := [3, 4]) (by kernel_rfl) (by simp) ?_
        refine AllReadyH.cons rfl (fun K hK => ?_) ?_
        · go_simp
          go_at_call_of 9 (hiOf y)
          refine (Fy.out _ (G0.out.below hHeld.2.2)).mono ?_
          rintro e w3 ⟨rfl, hb3⟩
          have sz := hb3.size
          (try simp at sz)
          refine hK.out _ _ (hHeld.on hb3) (fun hHeld => ?_)
          clear hK K
          (try simp only [Act.put])
          refine wpAnyH_ready (rs := [4]) (by kernel_rfl) (by simp) ?_
          refine AllReadyH.cons rfl (fun K hK => ?_) AllReadyH.nil
          go_simp
          rw [← numC_nought]
          have lt4 := hHeld.2.1.2.2
          (try simp at lt4)
          refine hK.out _ _ (hHeld.on (below_alloc _ _)) (fun hHeld => ?_)
          clear hK K
          (try simp only [Act.put])
          refine wpAnyH_ready (rs := [6]) (by kernel_rfl) (by simp) ?_
          refine AllReadyH.cons rfl (fun K hK => ?_) AllReadyH.nil
          rw [if_pos (by rfl)]
          refine wp_store_row 28 (.tmp 7) (.tmp 13) rfl _ (numC (pair0 x) (dig (absN x))) rfl rfl 28 (numC false fun _ => 0) (show NumAt _ _ false (fun _ => 0) from by (repeat (first | ((with_reducible refine NumAt.new _ _ _ ?_); first | rfl | (simp; done)) | (with_reducible refine NumAt.whole (b := false) (f := fun _ => 0) ?_) | (with_reducible refine NumAt.wholeOther ?_ _ (by omega)) | (with_reducible refine NumAt.alloc ?_ _) | (with_reducible refine NumAt.drew ?_) | (with_reducible refine NumAt.on ?_ (by assumption))))) (infoN _ _) (by rw [numC_size, numC_size]) (numC_ok _ _) ?_
          refine hK.out _ _ (hHeld.row (by omega) _) (fun hHeld => ?_)
          clear hK K
          (try simp only [Act.put])
          refine wpAnyH_ready (rs := [7]) (by kernel_rfl) (by simp) ?_
          refine AllReadyH.cons rfl (fun K hK => ?_) AllReadyH.nil
          rw [if_pos (by rfl)]
          refine wp_store_row 28 (.tmp 8) (.tmp 15) rfl _ (numC (pair0 y) (dig (absN y))) rfl rfl 28 (numC false fun _ => 0) (show NumAt _ _ false (fun _ => 0) from by (repeat (first | ((with_reducible refine NumAt.new _ _ _ ?_); first | rfl | (simp; done)) | (with_reducible refine NumAt.whole (b := false) (f := fun _ => 0) ?_) | (with_reducible refine NumAt.wholeOther ?_ _ (by omega)) | (with_reducible refine NumAt.alloc ?_ _) | (with_reducible refine NumAt.drew ?_) | (with_reducible refine NumAt.on ?_ (by assumption))))) (infoN _ _) (by rw [numC_size, numC_size]) (numC_ok _ _) ?_
          refine hK.out _ _ (hHeld.row (by omega) _) (fun hHeld => ?_)
          clear hK K
          (try simp only [Act.put])
          refine wpAnyH_done (by kernel_rfl) ?_ _
          go_wp2_with fail
          go_meet
          refine ⟨_, _, ?_, ?_, ?_, rfl, rfl, ?_, ?_, hHeld⟩
          · omega
          · omega
          · omega
          · (repeat (first | ((with_reducible refine NumAt.new _ _ _ ?_); first | rfl | (simp; done)) | (with_reducible refine NumAt.whole (b := false) (f := fun _ => 0) ?_) | (with_reducible refine NumAt.wholeOther ?_ _ (by omega)) | (with_reducible refine NumAt.alloc ?_ _) | (with_reducible refine NumAt.drew ?_) | (with_reducible refine NumAt.on ?_ (by assumption))))
          · (repeat (first | ((with_reducible refine NumAt.new _ _ _ ?_); first | rfl | (simp; done)) | (with_reducible refine NumAt.whole (b := false) (f := fun _ => 0) ?_) | (with_reducible refine NumAt.wholeOther ?_ _ (by omega)) | (with_reducible refine NumAt.alloc ?_ _) | (with_reducible refine NumAt.drew ?_) | (with_reducible refine NumAt.on ?_ (by assumption))))
        refine AllReadyH.cons rfl (fun K hK => ?_) ?_
        · go_simp
          rw [← numC_nought]
          have lt4 := hHeld.2.1.2.2
          (try simp at lt4)
          refine hK.out _ _ (hHeld.on (below_alloc _ _)) (fun hHeld => ?_)
          clear hK K
          (try simp only [Act.put])
          refine wpAnyH_ready (rs := [3]) (by kernel_rfl) (by simp) ?_
          refine AllReadyH.cons rfl (fun K hK => ?_) AllReadyH.nil
          go_simp
          go_at_call_of 9 (hiOf y)
          refine (Fy.out _ (G0.out.below hHeld.2.2)).mono ?_
          rintro e w3 ⟨rfl, hb3⟩
          have sz := hb3.size
          (try simp at sz)
          refine hK.out _ _ (hHeld.on hb3) (fun hHeld => ?_)
          clear hK K
          (try simp only [Act.put])
          refine wpAnyH_ready (rs := [6]) (by kernel_rfl) (by simp) ?_
          refine AllReadyH.cons rfl (fun K hK => ?_) AllReadyH.nil
          rw [if_pos (by rfl)]
          refine wp_store_row 28 (.tmp 7) (.tmp 13) rfl _ (numC (pair0 x) (dig (absN x))) rfl rfl 28 (numC false fun _ => 0) (show NumAt _ _ false (fun _ => 0) from by (repeat (first | ((with_reducible refine NumAt.new _ _ _ ?_); first | rfl | (simp; done)) | (with_reducible refine NumAt.whole (b := false) (f := fun _ => 0) ?_) | (with_reducible refine NumAt.wholeOther ?_ _ (by omega)) | (with_reducible refine NumAt.alloc ?_ _) | (with_reducible refine NumAt.drew ?_) | (with_reducible refine NumAt.on ?_ (by assumption))))) (infoN _ _) (by rw [numC_size, numC_size]) (numC_ok _ _) ?_
          refine hK.out _ _ (hHeld.row (by omega) _) (fun hHeld => ?_)
          clear hK K
          (try simp only [Act.put])
          refine wpAnyH_ready (rs := [7]) (by kernel_rfl) (by simp) ?_
          refine AllReadyH.cons rfl (fun K hK => ?_) AllReadyH.nil
          rw [if_pos (by rfl)]
          refine wp_store_row 28 (.tmp 8) (.tmp 15) rfl _ (numC (pair0 y) (dig (absN y))) rfl rfl 28 (numC false fun _ => 0) (show NumAt _ _ false (fun _ => 0) from by (repeat (first | ((with_reducible refine NumAt.new _ _ _ ?_); first | rfl | (simp; done)) | (with_reducible refine NumAt.whole (b := false) (f := fun _ => 0) ?_) | (with_reducible refine NumAt.wholeOther ?_ _ (by omega)) | (with_reducible refine NumAt.alloc ?_ _) | (with_reducible refine NumAt.drew ?_) | (with_reducible refine NumAt.on ?_ (by assumption))))) (infoN _ _) (by rw [numC_size, numC_size]) (numC_ok _ _) ?_
          refine hK.out _ _ (hHeld.row (by omega) _) (fun hHeld => ?_)
          clear hK K
          (try simp only [Act.put])
          refine wpAnyH_done (by kernel_rfl) ?_ _
          go_wp2_with fail
          go_meet
          refine ⟨_, _, ?_, ?_, ?_, rfl, rfl, ?_, ?_, hHeld⟩
          · omega
          · omega
          · omega
          · (repeat (first | ((with_reducible refine NumAt.new _ _ _ ?_); first | rfl | (simp; done)) | (with_reducible refine NumAt.whole (b := false) (f := fun _ => 0) ?_) | (with_reducible refine NumAt.wholeOther ?_ _ (by omega)) | (with_reducible refine NumAt.alloc ?_ _) | (with_reducible refine NumAt.drew ?_) | (with_reducible refine NumAt.on ?_ (by assumption))))
          · (repeat (first | ((with_reducible refine NumAt.new _ _ _ ?_); first | rfl | (simp; done)) | (with_reducible refine NumAt.whole (b := false) (f := fun _ => 0) ?_) | (with_reducible refine NumAt.wholeOther ?_ _ (by omega)) | (with_reducible refine NumAt.alloc ?_ _) | (with_reducible refine NumAt.drew ?_) | (with_reducible refine NumAt.on ?_ (by assumption))))
        exact AllReadyH.nil
      exact AllReadyH.nil
    refine AllReadyH.cons rfl (fun K hK => ?_) ?_
    · go_simp
      rw [← numC_nought]
      have lt4 := hHeld.2.1.2.2
      (try simp at lt4)
      refine hK.out _ _ (hHeld.on (below_alloc _ _)) (fun hHeld => ?_)
      clear hK K
      (try simp only [Act.put])
      refine wpAnyH_ready (rs := [1, 5]) (by kernel_rfl) (by simp) ?_
      refine AllReadyH.cons rfl (fun K hK => ?_) ?_
      · go_simp
        go_at_call_of 9 (hiOf x)
        refine (Fx.out _ (G0.out.below hHeld.2.2)).mono ?_
        rintro e w1 ⟨rfl, hb1⟩
        have sz := hb1.size
        (try simp at sz)
        refine hK.out _ _ (hHeld.on hb1) (fun hHeld => ?_)
        clear hK K
        (try simp only [Act.put])
        refine wpAnyH_ready (rs := [3, 5]) (by kernel_rfl) (by simp) ?_
        refine AllReadyH.cons rfl (fun K hK => ?_) ?_
        · go_simp
          go_at_call_of 9 (hiOf y)
          refine (Fy.out _ (G0.out.below hHeld.2.2)).mono ?_
          rintro e w3 ⟨rfl, hb3⟩
          have sz := hb3.size
          (try simp at sz)
          refine hK.out _ _ (hHeld.on hb3) (fun hHeld => ?_)
          clear hK K
          (try simp only [Act.put])
          refine wpAnyH_ready (rs := [5]) (by kernel_rfl) (by simp) ?_
          refine AllReadyH.cons rfl (fun K hK => ?_) AllReadyH.nil
          go_simp
          rw [← numC_nought]
          have lt5 := hHeld.2.1.2.2
          (try simp at lt5)
          refine hK.out _ _ (hHeld.on (below_alloc _ _)) (fun hHeld => ?_)
          clear hK K
          (try simp only [Act.put])
          refine wpAnyH_ready (rs := [6]) (by kernel_rfl) (by simp) ?_
          refine AllReadyH.cons rfl (fun K hK => ?_) AllReadyH.nil
          rw [if_pos (by rfl)]
          refine wp_store_row 28 (.tmp 7) (.tmp 13) rfl _ (numC (pair0 x) (dig (absN x))) rfl rfl 28 (numC false fun _ => 0) (show NumAt _ _ false (fun _ => 0) from by (repeat (first | ((with_reducible refine NumAt.new _ _ _ ?_); first | rfl | (simp; done)) | (with_reducible refine NumAt.whole (b := false) (f := fun _ => 0) ?_) | (with_reducible refine NumAt.wholeOther ?_ _ (by omega)) | (with_reducible refine NumAt.alloc ?_ _) | (with_reducible refine NumAt.drew ?_) | (with_reducible refine NumAt.on ?_ (by assumption))))) (infoN _ _) (by rw [numC_size, numC_size]) (numC_ok _ _) ?_
          refine hK.out _ _ (hHeld.row (by omega) _) (fun hHeld => ?_)
          clear hK K
          (try simp only [Act.put])
          refine wpAnyH_ready (rs := [7]) (by kernel_rfl) (by simp) ?_
          refine AllReadyH.cons rfl (fun K hK => ?_) AllReadyH.nil
          rw [if_pos (by rfl)]
          refine wp_store_row 28 (.tmp 8) (.tmp 15) rfl _ (numC (pair0 y) (dig (absN y))) rfl rfl 28 (numC false fun _ => 0) (show NumAt _ _ false (fun _ => 0) from by (repeat (first | ((with_reducible refine NumAt.new _ _ _ ?_); first | rfl | (simp; done)) | (with_reducible refine NumAt.whole (b := false) (f := fun _ => 0) ?_) | (with_reducible refine NumAt.wholeOther ?_ _ (by omega)) | (with_reducible refine NumAt.alloc ?_ _) | (with_reducible refine NumAt.drew ?_) | (with_reducible refine NumAt.on ?_ (by assumption))))) (infoN _ _) (by rw [numC_size, numC_size]) (numC_ok _ _) ?_
          refine hK.out _ _ (hHeld.row (by omega) _) (fun hHeld => ?_)
          clear hK K
          (try simp only [Act.put])
          refine wpAnyH_done (by kernel_rfl) ?_ _
          go_wp2_with fail
          go_meet
          refine ⟨_, _, ?_, ?_, ?_, rfl, rfl, ?_, ?_, hHeld⟩
          · omega
          · omega
          · omega
          · (repeat (first | ((with_reducible refine NumAt.new _ _ _ ?_); first | rfl | (simp; done)) | (with_reducible refine NumAt.whole (b := false) (f := fun _ => 0) ?_) | (with_reducible refine NumAt.wholeOther ?_ _ (by omega)) | (with_reducible refine NumAt.alloc ?_ _) | (with_reducible refine NumAt.drew ?_) | (with_reducible refine NumAt.on ?_ (by assumption))))
          · (repeat (first | ((with_reducible refine NumAt.new _ _ _ ?_); first | rfl | (simp; done)) | (with_reducible refine NumAt.whole (b := false) (f := fun _ => 0) ?_) | (with_reducible refine NumAt.wholeOther ?_ _ (by omega)) | (with_reducible refine NumAt.alloc ?_ _) | (with_reducible refine NumAt.drew ?_) | (with_reducible refine NumAt.on ?_ (by assumption))))
        refine AllReadyH.cons rfl (fun K hK => ?_) ?_
        · go_simp
          rw [← numC_nought]
          have lt5 := hHeld.2.1.2.2
          (try simp at lt5)
          refine hK.out _ _ (hHeld.on (below_alloc _ _)) (fun hHeld => ?_)
          clear hK K
          (try simp only [Act.put])
          refine wpAnyH_ready (rs := [3]) (by kernel_rfl) (by simp) ?_
          refine AllReadyH.cons rfl (fun K hK => ?_) AllReadyH.nil
          go_simp
          go_at_call_of 9 (hiOf y)
          refine (Fy.out _ (G0.out.below hHeld.2.2)).mono ?_
          rintro e w3 ⟨rfl, hb3⟩
          have sz := hb3.size
          (try simp at sz)
          refine hK.out _ _ (hHeld.on hb3) (fun hHeld => ?_)
          clear hK K
          (try simp only [Act.put])
          refine wpAnyH_ready (rs := [6]) (by kernel_rfl) (by simp) ?_
          refine AllReadyH.cons rfl (fun K hK => ?_) AllReadyH.nil
          rw [if_pos (by rfl)]
          refine wp_store_row 28 (.tmp 7) (.tmp 13) rfl _ (numC (pair0 x) (dig (absN x))) rfl rfl 28 (numC false fun _ => 0) (show NumAt _ _ false (fun _ => 0) from by (repeat (first | ((with_reducible refine NumAt.new _ _ _ ?_); first | rfl | (simp; done)) | (with_reducible refine NumAt.whole (b := false) (f := fun _ => 0) ?_) | (with_reducible refine NumAt.wholeOther ?_ _ (by omega)) | (with_reducible refine NumAt.alloc ?_ _) | (with_reducible refine NumAt.drew ?_) | (with_reducible refine NumAt.on ?_ (by assumption))))) (infoN _ _) (by rw [numC_size, numC_size]) (numC_ok _ _) ?_
          refine hK.out _ _ (hHeld.row (by omega) _) (fun hHeld => ?_)
          clear hK K
          (try simp only [Act.put])
          refine wpAnyH_ready (rs := [7]) (by kernel_rfl) (by simp) ?_
          refine AllReadyH.cons rfl (fun K hK => ?_) AllReadyH.nil
          rw [if_pos (by rfl)]
          refine wp_store_row 28 (.tmp 8) (.tmp 15) rfl _ (numC (pair0 y) (dig (absN y))) rfl rfl 28 (numC false fun _ => 0) (show NumAt _ _ false (fun _ => 0) from by (repeat (first | ((with_reducible refine NumAt.new _ _ _ ?_); first | rfl | (simp; done)) | (with_reducible refine NumAt.whole (b := false) (f := fun _ => 0) ?_) | (with_reducible refine NumAt.wholeOther ?_ _ (by omega)) | (with_reducible refine NumAt.alloc ?_ _) | (with_reducible refine NumAt.drew ?_) | (with_reducible refine NumAt.on ?_ (by assumption))))) (infoN _ _) (by rw [numC_size, numC_size]) (numC_ok _ _) ?_
          refine hK.out _ _ (hHeld.row (by omega) _) (fun hHeld => ?_)
          clear hK K
          (try simp only [Act.put])
          refine wpAnyH_done (by kernel_rfl) ?_ _
          go_wp2_with fail
          go_meet
          refine ⟨_, _, ?_, ?_, ?_, rfl, rfl, ?_, ?_, hHeld⟩
          · omega
          · omega
          · omega
          · (repeat (first | ((with_reducible refine NumAt.new _ _ _ ?_); first | rfl | (simp; done)) | (with_reducible refine NumAt.whole (b := false) (f := fun _ => 0) ?_) | (with_reducible refine NumAt.wholeOther ?_ _ (by omega)) | (with_reducible refine NumAt.alloc ?_ _) | (with_reducible refine NumAt.drew ?_) | (with_reducible refine NumAt.on ?_ (by assumption))))
          · (repeat (first | ((with_reducible refine NumAt.new _ _ _ ?_); first | rfl | (simp; done)) | (with_reducible refine NumAt.whole (b := false) (f := fun _ => 0) ?_) | (with_reducible refine NumAt.wholeOther ?_ _ (by omega)) | (with_reducible refine NumAt.alloc ?_ _) | (with_reducible refine NumAt.drew ?_) | (with_reducible refine NumAt.on ?_ (by assumption))))
        exact AllReadyH.nil
      refine AllReadyH.cons rfl (fun K hK => ?_) ?_
      · go_simp
        rw [← numC_nought]
        have lt5 := hHeld.2.1.2.2
        (try simp at lt5)
        refine hK.out _ _ (hHeld.on (below_alloc _ _)) (fun hHeld => ?_)
        clear hK K
        (try simp only [Act.put])
        refine wpAnyH_ready (rs := [1]) (by kernel_rfl) (by simp) ?_
        refine AllReadyH.cons rfl (fun K hK => ?_) AllReadyH.nil
        go_simp
        go_at_call_of 9 (hiOf x)
        refine (Fx.out _ (G0.out.below hHeld.2.2)).mono ?_
        rintro e w1 ⟨rfl, hb1⟩
        have sz := hb1.size
        (try simp at sz)
        refine hK.out _ _ (hHeld.on hb1) (fun hHeld => ?_)
        clear hK K
        (try simp only [Act.put])
        refine wpAnyH_ready (rs := [3]) (by kernel_rfl) (by simp) ?_
        refine AllReadyH.cons rfl (fun K hK => ?_) AllReadyH.nil
        go_simp
        go_at_call_of 9 (hiOf y)
        refine (Fy.out _ (G0.out.below hHeld.2.2)).mono ?_
        rintro e w3 ⟨rfl, hb3⟩
        have sz := hb3.size
        (try simp at sz)
        refine hK.out _ _ (hHeld.on hb3) (fun hHeld => ?_)
        clear hK K
        (try simp only [Act.put])
        refine wpAnyH_ready (rs := [6]) (by kernel_rfl) (by simp) ?_
        refine AllReadyH.cons rfl (fun K hK => ?_) AllReadyH.nil
        rw [if_pos (by rfl)]
        refine wp_store_row 28 (.tmp 7) (.tmp 13) rfl _ (numC (pair0 x) (dig (absN x))) rfl rfl 28 (numC false fun _ => 0) (show NumAt _ _ false (fun _ => 0) from by (repeat (first | ((with_reducible refine NumAt.new _ _ _ ?_); first | rfl | (simp; done)) | (with_reducible refine NumAt.whole (b := false) (f := fun _ => 0) ?_) | (with_reducible refine NumAt.wholeOther ?_ _ (by omega)) | (with_reducible refine NumAt.alloc ?_ _) | (with_reducible refine NumAt.drew ?_) | (with_reducible refine NumAt.on ?_ (by assumption))))) (infoN _ _) (by rw [numC_size, numC_size]) (numC_ok _ _) ?_
        refine hK.out _ _ (hHeld.row (by omega) _) (fun hHeld => ?_)
        clear hK K
        (try simp only [Act.put])
        refine wpAnyH_ready (rs := [7]) (by kernel_rfl) (by simp) ?_
        refine AllReadyH.cons rfl (fun K hK => ?_) AllReadyH.nil
        rw [if_pos (by rfl)]
        refine wp_store_row 28 (.tmp 8) (.tmp 15) rfl _ (numC (pair0 y) (dig (absN y))) rfl rfl 28 (numC false fun _ => 0) (show NumAt _ _ false (fun _ => 0) from by (repeat (first | ((with_reducible refine NumAt.new _ _ _ ?_); first | rfl | (simp; done)) | (with_reducible refine NumAt.whole (b := false) (f := fun _ => 0) ?_) | (with_reducible refine NumAt.wholeOther ?_ _ (by omega)) | (with_reducible refine NumAt.alloc ?_ _) | (with_reducible refine NumAt.drew ?_) | (with_reducible refine NumAt.on ?_ (by assumption))))) (infoN _ _) (by rw [numC_size, numC_size]) (numC_ok _ _) ?_
        refine hK.out _ _ (hHeld.row (by omega) _) (fun hHeld => ?_)
        clear hK K
        (try simp only [Act.put])
        refine wpAnyH_done (by kernel_rfl) ?_ _
        go_wp2_with fail
        go_meet
        refine ⟨_, _, ?_, ?_, ?_, rfl, rfl, ?_, ?_, hHeld⟩
        · omega
        · omega
        · omega
        · (repeat (first | ((with_reducible refine NumAt.new _ _ _ ?_); first | rfl | (simp; done)) | (with_reducible refine NumAt.whole (b := false) (f := fun _ => 0) ?_) | (with_reducible refine NumAt.wholeOther ?_ _ (by omega)) | (with_reducible refine NumAt.alloc ?_ _) | (with_reducible refine NumAt.drew ?_) | (with_reducible refine NumAt.on ?_ (by assumption))))
        · (repeat (first | ((with_reducible refine NumAt.new _ _ _ ?_); first | rfl | (simp; done)) | (with_reducible refine NumAt.whole (b := false) (f := fun _ => 0) ?_) | (with_reducible refine NumAt.wholeOther ?_ _ (by omega)) | (with_reducible refine NumAt.alloc ?_ _) | (with_reducible refine NumAt.drew ?_) | (with_reducible refine NumAt.on ?_ (by assumption))))
      exact AllReadyH.nil
    refine AllReadyH.cons rfl (fun K hK => ?_) ?_
    · go_simp
      rw [← numC_nought]
      have lt5 := hHeld.2.1.2.2
      (try simp at lt5)
      refine hK.out _ _ (hHeld.on (below_alloc _ _)) (fun hHeld => ?_)
      clear hK K
      (try simp only [Act.put])
      refine wpAnyH_ready (rs := [1, 4]) (by kernel_rfl) (by simp) ?_
      refine AllReadyH.cons rfl (fun K hK => ?_) ?_
      · go_simp
        go_at_call_of 9 (hiOf x)
        refine (Fx.out _ (G0.out.below hHeld.2.2)).mono ?_
        rintro e w1 ⟨rfl, hb1⟩
        have sz := hb1.size
        (try simp at sz)
        refine hK.out _ _ (hHeld.on hb1) (fun hHeld => ?_)
        clear hK K
        (try simp only [Act.put])
        refine wpAnyH_ready (rs := [3, 4]) (by kernel_rfl) (by simp) ?_
        refine AllReadyH.cons rfl (fun K hK => ?_) ?_
        · go_simp
          go_at_call_of 9 (hiOf y)
          refine (Fy.out _ (G0.out.below hHeld.2.2)).mono ?_
          rintro e w3 ⟨rfl, hb3⟩
          have sz := hb3.size
          (try simp at sz)
          refine hK.out _ _ (hHeld.on hb3) (fun hHeld => ?_)
          clear hK K
          (try simp only [Act.put])
          refine wpAnyH_ready (rs := [4]) (by kernel_rfl) (by simp) ?_
          refine AllReadyH.cons rfl (fun K hK => ?_) AllReadyH.nil
          go_simp
          rw [← numC_nought]
          have lt4 := hHeld.2.1.2.2
          (try simp at lt4)
          refine hK.out _ _ (hHeld.on (below_alloc _ _)) (fun hHeld => ?_)
          clear hK K
          (try simp only [Act.put])
          refine wpAnyH_ready (rs := [6]) (by kernel_rfl) (by simp) ?_
          refine AllReadyH.cons rfl (fun K hK => ?_) AllReadyH.nil
          rw [if_pos (by rfl)]
          refine wp_store_row 28 (.tmp 7) (.tmp 13) rfl _ (numC (pair0 x) (dig (absN x))) rfl rfl 28 (numC false fun _ => 0) (show NumAt _ _ false (fun _ => 0) from by (repeat (first | ((with_reducible refine NumAt.new _ _ _ ?_); first | rfl | (simp; done)) | (with_reducible refine NumAt.whole (b := false) (f := fun _ => 0) ?_) | (with_reducible refine NumAt.wholeOther ?_ _ (by omega)) | (with_reducible refine NumAt.alloc ?_ _) | (with_reducible refine NumAt.drew ?_) | (with_reducible refine NumAt.on ?_ (by assumption))))) (infoN _ _) (by rw [numC_size, numC_size]) (numC_ok _ _) ?_
          refine hK.out _ _ (hHeld.row (by omega) _) (fun hHeld => ?_)
          clear hK K
          (try simp only [Act.put])
          refine wpAnyH_ready (rs := [7]) (by kernel_rfl) (by simp) ?_
          refine AllReadyH.cons rfl (fun K hK => ?_) AllReadyH.nil
          rw [if_pos (by rfl)]
          refine wp_store_row 28 (.tmp 8) (.tmp 15) rfl _ (numC (pair0 y) (dig (absN y))) rfl rfl 28 (numC false fun _ => 0) (show NumAt _ _ false (fun _ => 0) from by (repeat (first | ((with_reducible refine NumAt.new _ _ _ ?_); first | rfl | (simp; done)) | (with_reducible refine NumAt.whole (b := false) (f := fun _ => 0) ?_) | (with_reducible refine NumAt.wholeOther ?_ _ (by omega)) | (with_reducible refine NumAt.alloc ?_ _) | (with_reducible refine NumAt.drew ?_) | (with_reducible refine NumAt.on ?_ (by assumption))))) (infoN _ _) (by rw [numC_size, numC_size]) (numC_ok _ _) ?_
          refine hK.out _ _ (hHeld.row (by omega) _) (fun hHeld => ?_)
          clear hK K
          (try simp only [Act.put])
          refine wpAnyH_done (by kernel_rfl) ?_ _
          go_wp2_with fail
          go_meet
          refine ⟨_, _, ?_, ?_, ?_, rfl, rfl, ?_, ?_, hHeld⟩
          · omega
          · omega
          · omega
          · (repeat (first | ((with_reducible refine NumAt.new _ _ _ ?_); first | rfl | (simp; done)) | (with_reducible refine NumAt.whole (b := false) (f := fun _ => 0) ?_) | (with_reducible refine NumAt.wholeOther ?_ _ (by omega)) | (with_reducible refine NumAt.alloc ?_ _) | (with_reducible refine NumAt.drew ?_) | (with_reducible refine NumAt.on ?_ (by assumption))))
          · (repeat (first | ((with_reducible refine NumAt.new _ _ _ ?_); first | rfl | (simp; done)) | (with_reducible refine NumAt.whole (b := false) (f := fun _ => 0) ?_) | (with_reducible refine NumAt.wholeOther ?_ _ (by omega)) | (with_reducible refine NumAt.alloc ?_ _) | (with_reducible refine NumAt.drew ?_) | (with_reducible refine NumAt.on ?_ (by assumption))))
        refine AllReadyH.cons rfl (fun K hK => ?_) ?_
        · go_simp
          rw [← numC_nought]
          have lt4 := hHeld.2.1.2.2
          (try simp at lt4)
          refine hK.out _ _ (hHeld.on (below_alloc _ _)) (fun hHeld => ?_)
          clear hK K
          (try simp only [Act.put])
          refine wpAnyH_ready (rs := [3]) (by kernel_rfl) (by simp) ?_
          refine AllReadyH.cons rfl (fun K hK => ?_) AllReadyH.nil
          go_simp
          go_at_call_of 9 (hiOf y)
          refine (Fy.out _ (G0.out.below hHeld.2.2)).mono ?_
          rintro e w3 ⟨rfl, hb3⟩
          have sz := hb3.size
          (try simp at sz)
          refine hK.out _ _ (hHeld.on hb3) (fun hHeld => ?_)
          clear hK K
          (try simp only [Act.put])
          refine wpAnyH_ready (rs := [6]) (by kernel_rfl) (by simp) ?_
          refine AllReadyH.cons rfl (fun K hK => ?_) AllReadyH.nil
          rw [if_pos (by rfl)]
          refine wp_store_row 28 (.tmp 7) (.tmp 13) rfl _ (numC (pair0 x) (dig (absN x))) rfl rfl 28 (numC false fun _ => 0) (show NumAt _ _ false (fun _ => 0) from by (repeat (first | ((with_reducible refine NumAt.new _ _ _ ?_); first | rfl | (simp; done)) | (with_reducible refine NumAt.whole (b := false) (f := fun _ => 0) ?_) | (with_reducible refine NumAt.wholeOther ?_ _ (by omega)) | (with_reducible refine NumAt.alloc ?_ _) | (with_reducible refine NumAt.drew ?_) | (with_reducible refine NumAt.on ?_ (by assumption))))) (infoN _ _) (by rw [numC_size, numC_size]) (numC_ok _ _) ?_
          refine hK.out _ _ (hHeld.row (by omega) _) (fun hHeld => ?_)
          clear hK K
          (try simp only [Act.put])
          refine wpAnyH_ready (rs := [7]) (by kernel_rfl) (by simp) ?_
          refine AllReadyH.cons rfl (fun K hK => ?_) AllReadyH.nil
          rw [if_pos (by rfl)]
          refine wp_store_row 28 (.tmp 8) (.tmp 15) rfl _ (numC (pair0 y) (dig (absN y))) rfl rfl 28 (numC false fun _ => 0) (show NumAt _ _ false (fun _ => 0) from by (repeat (first | ((with_reducible refine NumAt.new _ _ _ ?_); first | rfl | (simp; done)) | (with_reducible refine NumAt.whole (b := false) (f := fun _ => 0) ?_) | (with_reducible refine NumAt.wholeOther ?_ _ (by omega)) | (with_reducible refine NumAt.alloc ?_ _) | (with_reducible refine NumAt.drew ?_) | (with_reducible refine NumAt.on ?_ (by assumption))))) (infoN _ _) (by rw [numC_size, numC_size]) (numC_ok _ _) ?_
          refine hK.out _ _ (hHeld.row (by omega) _) (fun hHeld => ?_)
          clear hK K
          (try simp only [Act.put])
          refine wpAnyH_done (by kernel_rfl) ?_ _
          go_wp2_with fail
          go_meet
          refine ⟨_, _, ?_, ?_, ?_, rfl, rfl, ?_, ?_, hHeld⟩
          · omega
          · omega
          · omega
          · (repeat (first | ((with_reducible refine NumAt.new _ _ _ ?_); first | rfl | (simp; done)) | (with_reducible refine NumAt.whole (b := false) (f := fun _ => 0) ?_) | (with_reducible refine NumAt.wholeOther ?_ _ (by omega)) | (with_reducible refine NumAt.alloc ?_ _) | (with_reducible refine NumAt.drew ?_) | (with_reducible refine NumAt.on ?_ (by assumption))))
          · (repeat (first | ((with_reducible refine NumAt.new _ _ _ ?_); first | rfl | (simp; done)) | (with_reducible refine NumAt.whole (b := false) (f := fun _ => 0) ?_) | (with_reducible refine NumAt.wholeOther ?_ _ (by omega)) | (with_reducible refine NumAt.alloc ?_ _) | (with_reducible refine NumAt.drew ?_) | (with_reducible refine NumAt.on ?_ (by assumption))))
        exact AllReadyH.nil
      refine AllReadyH.cons rfl (fun K hK => ?_) ?_
      · go_simp
        rw [← numC_nought]
        have lt4 := hHeld.2.1.2.2
        (try simp at lt4)
        refine hK.out _ _ (hHeld.on (below_alloc _ _)) (fun hHeld => ?_)
        clear hK K
        (try simp only [Act.put])
        refine wpAnyH_ready (rs := [1]) (by kernel_rfl) (by simp) ?_
        refine AllReadyH.cons rfl (fun K hK => ?_) AllReadyH.nil
        go_simp
        go_at_call_of 9 (hiOf x)
        refine (Fx.out _ (G0.out.below hHeld.2.2)).mono ?_
        rintro e w1 ⟨rfl, hb1⟩
        have sz := hb1.size
        (try simp at sz)
        refine hK.out _ _ (hHeld.on hb1) (fun hHeld => ?_)
        clear hK K
        (try simp only [Act.put])
        refine wpAnyH_ready (rs := [3]) (by kernel_rfl) (by simp) ?_
        refine AllReadyH.cons rfl (fun K hK => ?_) AllReadyH.nil
        go_simp
        go_at_call_of 9 (hiOf y)
        refine (Fy.out _ (G0.out.below hHeld.2.2)).mono ?_
        rintro e w3 ⟨rfl, hb3⟩
        have sz := hb3.size
        (try simp at sz)
        refine hK.out _ _ (hHeld.on hb3) (fun hHeld => ?_)
        clear hK K
        (try simp only [Act.put])
        refine wpAnyH_ready (rs := [6]) (by kernel_rfl) (by simp) ?_
        refine AllReadyH.cons rfl (fun K hK => ?_) AllReadyH.nil
        rw [if_pos (by rfl)]
        refine wp_store_row 28 (.tmp 7) (.tmp 13) rfl _ (numC (pair0 x) (dig (absN x))) rfl rfl 28 (numC false fun _ => 0) (show NumAt _ _ false (fun _ => 0) from by (repeat (first | ((with_reducible refine NumAt.new _ _ _ ?_); first | rfl | (simp; done)) | (with_reducible refine NumAt.whole (b := false) (f := fun _ => 0) ?_) | (with_reducible refine NumAt.wholeOther ?_ _ (by omega)) | (with_reducible refine NumAt.alloc ?_ _) | (with_reducible refine NumAt.drew ?_) | (with_reducible refine NumAt.on ?_ (by assumption))))) (infoN _ _) (by rw [numC_size, numC_size]) (numC_ok _ _) ?_
        refine hK.out _ _ (hHeld.row (by omega) _) (fun hHeld => ?_)
        clear hK K
        (try simp only [Act.put])
        refine wpAnyH_ready (rs := [7]) (by kernel_rfl) (by simp) ?_
        refine AllReadyH.cons rfl (fun K hK => ?_) AllReadyH.nil
        rw [if_pos (by rfl)]
        refine wp_store_row 28 (.tmp 8) (.tmp 15) rfl _ (numC (pair0 y) (dig (absN y))) rfl rfl 28 (numC false fun _ => 0) (show NumAt _ _ false (fun _ => 0) from by (repeat (first | ((with_reducible refine NumAt.new _ _ _ ?_); first | rfl | (simp; done)) | (with_reducible refine NumAt.whole (b := false) (f := fun _ => 0) ?_) | (with_reducible refine NumAt.wholeOther ?_ _ (by omega)) | (with_reducible refine NumAt.alloc ?_ _) | (with_reducible refine NumAt.drew ?_) | (with_reducible refine NumAt.on ?_ (by assumption))))) (infoN _ _) (by rw [numC_size, numC_size]) (numC_ok _ _) ?_
        refine hK.out _ _ (hHeld.row (by omega) _) (fun hHeld => ?_)
        clear hK K
        (try simp only [Act.put])
        refine wpAnyH_done (by kernel_rfl) ?_ _
        go_wp2_with fail
        go_meet
        refine ⟨_, _, ?_, ?_, ?_, rfl, rfl, ?_, ?_, hHeld⟩
        · omega
        · omega
        · omega
        · (repeat (first | ((with_reducible refine NumAt.new _ _ _ ?_); first | rfl | (simp; done)) | (with_reducible refine NumAt.whole (b := false) (f := fun _ => 0) ?_) | (with_reducible refine NumAt.wholeOther ?_ _ (by omega)) | (with_reducible refine NumAt.alloc ?_ _) | (with_reducible refine NumAt.drew ?_) | (with_reducible refine NumAt.on ?_ (by assumption))))
        · (repeat (first | ((with_reducible refine NumAt.new _ _ _ ?_); first | rfl | (simp; done)) | (with_reducible refine NumAt.whole (b := false) (f := fun _ => 0) ?_) | (with_reducible refine NumAt.wholeOther ?_ _ (by omega)) | (with_reducible refine NumAt.alloc ?_ _) | (with_reducible refine NumAt.drew ?_) | (with_reducible refine NumAt.on ?_ (by assumption))))
      exact AllReadyH.nil
    exact AllReadyH.nil
  case rest =>
  obtain ⟨p, q, hp, hq, hpq, rfl, rfl, hX, hY, hS⟩ := hcut
  obtain ⟨w2, rfl⟩ : ∃ v : World, v = wc := ⟨_, rfl⟩
  have X2 := Lib.hid hX
  have Y2 := Lib.hid hY
  have S2 := Lib.hid hS
  clear hX hY hS C1
  go_upto_region 4 with fail
  go_cut [9] from 16 to 17 (fun v wr => ∃ g, w.heap.size + 1 < g ∧ p ≠ g ∧ q ≠ g ∧ v = .pointer (some ⟨g, 0, none⟩) ∧ NumAt wr g (pair0 x) (dig (absN x)) ∧ NumAt wr p (pair0 x) (dig (absN x)) ∧ NumAt wr q (pair0 y) (dig (absN y)) ∧ SumS w x y wr)
  case first =>
    go_wp2_with (first
      | (refine load_num rfl (.tmp 7) rfl p rfl _ _ X2.out ?_)
      | (refine store_num rfl (.tmp 9) (.tmp 16) rfl w2.heap.size rfl _ _ rfl false (fun _ => 0) (NumAt.new w2 false (fun _ => 0) rfl) ?_))
    go_meet
    have l1 := X2.out.lt
    have l2 := Y2.out.lt
    exact ⟨w2.heap.size, by omega, by omega, by omega, rfl, (NumAt.new w2 false (fun _ => 0) rfl).whole, (X2.out.alloc _).wholeOther _ (by omega), (Y2.out.alloc _).wholeOther _ (by omega), (S2.out.on (below_alloc _ _)).row (by omega) _⟩
  case rest =>
  obtain ⟨g, hg, hpg, hqg, rfl, hZ, hX, hY, hS⟩ := hcut
  obtain ⟨w3, rfl⟩ : ∃ v : World, v = wc := ⟨_, rfl⟩
  have Z3 := Lib.hid hZ
  have X3 := Lib.hid hX
  have Y3 := Lib.hid hY
  have S3 := Lib.hid hS
  clear hX hY hS hZ X2 Y2 S2
  have c0 := Z3.out.cell0
  have f0 := Z3.out.free 0
  go_upto_region 5 with fail
  go_cut [9] from 17 to 18 (fun v wr => v = .pointer (some ⟨g, 0, none⟩) ∧ NumAt wr g false (dig (absN x)) ∧ NumAt wr p (pair0 x) (dig (absN x)) ∧ NumAt wr q (pair0 y) (dig (absN y)) ∧ SumS w x y wr)
  case first =>
    go_wp2
    go_meet
    exact ⟨rfl, Z3.out.sign false, X3.out.other _ _ (by dsimp only; omega), Y3.out.other _ _ (by dsimp only; omega), ⟨S3.out.1.other' (by dsimp only; omega) _, S3.out.2.1.other' (by dsimp only; omega) _, S3.out.2.2.setCell (by dsimp only; omega) _⟩⟩
  case rest =>
  obtain ⟨rfl, hZ, hX, hY, hS⟩ := hcut
  obtain ⟨w4, rfl⟩ : ∃ v : World, v = wc := ⟨_, rfl⟩
  have Z4 := Lib.hid hZ
  have X4 := Lib.hid hX
  have Y4 := Lib.hid hY
  have S4 := Lib.hid hS
  clear hX hY hS hZ X3 Y3 Z3 S3 c0 f0
  have GG := Lib.hid (G0.out.below S4.out.2.2)
  have BB := Lib.hid S4.out.2.2
  obtain ⟨a0, a1⟩ := S4.out.1.q
  obtain ⟨b0, b1⟩ := S4.out.2.1.q
  have ax := absN_wide Hx.out
  have ay := absN_wide Hy.out
  have P1 := Lib.hid (g_of n Hn.out)
  have P2 := Lib.hid (r_of n Hn.out)
  have P3 := Lib.hid ((r_wide (pair0 n) (absN n) n (sz19 (by have := absN_bd Hn.out; exact ⟨this.1, by omega⟩)) (vz_pair n)).as rfl (v' := .agg #[.int .i64 (hiOf n), .int .u64 (loOf n)]) (by rw [sat_id (by have := Hn.out; unfold In; omega)]))
  have P4 := Lib.hid (g_add x y Hx.out Hy.out)
  have P5 := Lib.hid (r_add (pair0 x) (pair0 y) (absN x) (absN y) ⟨ax.1, by omega⟩ ⟨ay.1, by omega⟩)
  have P6 := Lib.hid (r_wide (addS (pair0 x) (pair0 y) (absN x) (absN y)) (addM (pair0 x) (pair0 y) (absN x) (absN y)) (x + y) (sum_sz Hx.out Hy.out _ _) (by rw [add_vz, vz_pair, vz_pair]))
  have P7 := Lib.hid (g_sub x y Hx.out Hy.out)
  have P8 := Lib.hid (r_neg (pair0 y) (dig (absN y)))
  have P9 := Lib.hid (r_add (pair0 x) (!pair0 y) (absN x) (absN y) ⟨ax.1, by omega⟩ ⟨ay.1, by omega⟩)
  have P10 := Lib.hid (r_wide (addS (pair0 x) (!pair0 y) (absN x) (absN y)) (addM (pair0 x) (!pair0 y) (absN x) (absN y)) (x - y) (sum_sz Hx.out Hy.out _ _) (by rw [add_vz, vz_pair, vz_npair]; omega))
  have P11 := Lib.hid (g_neg x Hx.out)
  have P12 := Lib.hid (r_neg (pair0 x) (dig (absN x)))
  have P13 := Lib.hid (r_wide (!pair0 x) (absN x) (-x) ⟨ax.1, by omega⟩ (vz_npair x))
  have P14 := Lib.hid (show Gives 18 #[(.agg #[.int .i64 (hiOf x), .int .u64 (loOf x)])] (.agg #[.int .i64 (hiOf (sat (absN x))), .int .u64 (loOf (sat (absN x)))]) from g_abs x Hx.out)
  have P15 := Lib.hid (r_wide false (absN x) (absN x) ⟨ax.1, by omega⟩ rfl)
  have P16 := Lib.hid (g_cmp x y)
  have P17 := Lib.hid (r_cmp (pair0 x) (pair0 y) (absN x) (absN y) x y ⟨ax.1, by omega⟩ ⟨ay.1, by omega⟩ (vz_pair x) (vz_pair y))
  have P18 := Lib.hid ((g_cmp x x).as rfl (v' := .int .i64 0) (by unfold sgn; rw [if_pos rfl]))
  clear ax ay
  go_upto_region 6 with fail
  refine wp_region_quiet_below (by kernel_rfl) (by kernel_rfl) ?_
  repeat (first
    | ((first | refine quiet_load_num (.tmp 7) rfl rfl p rfl _ _ X4.out.regrown ?_ | refine quiet_load_num (.tmp 8) rfl rfl q rfl _ _ Y4.out.regrown ?_ | refine quiet_load_num (.tmp 9) rfl rfl g rfl _ _ Z4.out.regrown ?_); (try simp only [Act.put, List.setIfInBounds_toArray, List.set_cons_zero, List.set_cons_succ]))
    | (go_big_quiet_step (first | (with_reducible exact (P1.out.quiet GG.out _ _)) | (with_reducible exact (P2.out.quiet GG.out _ _)) | (with_reducible exact (P3.out.quiet GG.out _ _)) | (with_reducible exact (P4.out.quiet GG.out _ _)) | (with_reducible exact (P5.out.quiet GG.out _ _)) | (with_reducible exact (P6.out.quiet GG.out _ _)) | (with_reducible exact (P7.out.quiet GG.out _ _)) | (with_reducible exact (P8.out.quiet GG.out _ _)) | (with_reducible exact (P9.out.quiet GG.out _ _)) | (with_reducible exact (P10.out.quiet GG.out _ _)) | (with_reducible exact (P11.out.quiet GG.out _ _)) | (with_reducible exact (P12.out.quiet GG.out _ _)) | (with_reducible exact (P13.out.quiet GG.out _ _)) | (with_reducible exact (P14.out.quiet GG.out _ _)) | (with_reducible exact (P15.out.quiet GG.out _ _)) | (with_reducible exact (P16.out.quiet GG.out _ _)) | (with_reducible exact (P17.out.quiet GG.out _ _)) | (with_reducible exact (P18.out.quiet GG.out _ _)))))
  (refine wpQuiet_nil ?_; intro _ hw'; obtain ⟨⟨dq, osq⟩, hw''⟩ := hw'; subst hw'')
  go_wp2_with fail
  go_ret
  exact ⟨rfl, BB.out.trans ((below_quiet _ _).mono BB.out.size)⟩
end Go.Proofs.YtleccjahkphocaaDoor
