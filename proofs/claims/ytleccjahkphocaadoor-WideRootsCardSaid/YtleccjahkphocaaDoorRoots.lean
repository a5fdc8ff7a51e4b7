/-
  WideRoots, walked.
-/
import Derived.Test.YtleccjahkphocaaDoorSums
namespace Go.Proofs.YtleccjahkphocaaDoor
open Go.RowKit Go.Sort
theorem root_nat (n : Nat) : ∃ r : Nat, r * r ≤ n ∧ n < (r + 1) * (r + 1) := by
  induction n with
  | zero => exact ⟨0, by omega, by omega⟩
  | succ n ih =>
    obtain ⟨r, h1, h2⟩ := ih
    by_cases h : n + 1 < (r + 1) * (r + 1)
    · exact ⟨r, by omega, h⟩
    · refine ⟨r + 1, by omega, ?_⟩
      have e : (r + 1 + 1) * (r + 1 + 1) = (r + 1) * (r + 1) + 2 * (r + 1) + 1 := by rw [Nat.add_mul (r + 1) 1, Nat.mul_add]; omega
      omega
theorem root_ex {x : Int} (h0 : 0 ≤ x) (hx : In x) : ∃ r, IsRoot x r := by
  obtain ⟨n, rfl⟩ := Int.eq_ofNat_of_zero_le h0
  obtain ⟨r, h1, h2⟩ := root_nat n
  have k1 : (r : Int) * r ≤ n := by exact_mod_cast h1
  have k2 : (n : Int) < ((r : Int) + 1) * (r + 1) := by exact_mod_cast h2
  refine ⟨r, by omega, ?_, k1, k2⟩
  by_cases h : (r : Int) ≤ 18446744073709551615
  · exact h
  · exfalso
    have := Int.mul_le_mul (show (18446744073709551616 : Int) ≤ r by omega) (show (18446744073709551616 : Int) ≤ r by omega) (by omega) (by omega)
    unfold In at hx
    omega
theorem root_sq (n : Int) (h : -9223372036854775808 ≤ n ∧ n ≤ 9223372036854775807) : IsRoot (n * n) (absN n) ∧ In (n * n) := by
  have hb := absN_bd h
  have e : absN n * absN n = n * n := by unfold absN; split; exact Int.neg_mul_neg n n; rfl
  have hm := Int.mul_le_mul hb.2 hb.2 hb.1 (by omega)
  have h0 := Int.mul_nonneg hb.1 hb.1
  refine ⟨⟨hb.1, by omega, by omega, ?_⟩, ?_⟩
  · rw [Int.add_mul, Int.mul_add]; omega
  · unfold In; omega
theorem prod20 {r : Int} (h : 0 ≤ r ∧ r ≤ 18446744073709551616) : 0 ≤ r * r ∧ r * r ≤ 340282366920938463463374607431768211456 := by
  refine ⟨Int.mul_nonneg h.1 h.1, ?_⟩
  have := Int.mul_le_mul h.2 h.2 h.1 (by omega)
  omega
/-- What stands through the next number's making. -/
def RootS (w : World) (x y : Int) (p : Nat) (r : Int) (W' : World) : Prop := SumS w x y W' ∧ NumAt W' p false (dig r)
theorem RootS.on {w W W' : World} {x y r : Int} {p : Nat} (h : RootS w x y p r W) (hb : Below W.heap.size W W') : RootS w x y p r W' := ⟨h.1.on hb, h.2.on hb⟩
theorem RootS.row {w W : World} {x y r : Int} {p : Nat} (h : RootS w x y p r W) {g : Nat} (hg : w.heap.size + 1 < g) (hp : p ≠ g) (cs : Array Value) : RootS w x y p r (W.setRow g cs) :=
  ⟨h.1.row hg _, h.2.wholeOther _ hp⟩
theorem sgn_le {a b : Int} (h : a ≤ b) : ∃ z, sgn a b = z ∧ decide (0 < z) = false := ⟨_, rfl, by unfold sgn; (repeat' split) <;> simp <;> omega⟩
set_option maxHeartbeats 8000000 in
set_option maxRecDepth 100000 in
theorem wideRoots_any (x y n : Int) (hx : In x) (hy : In y) (hn : -9223372036854775808 ≤ n ∧ n ≤ 9223372036854775807) (w : World) (hg : Glob w) :
    Calls Tryd.prog 7 #[.agg #[.int .i64 (hiOf x), .int .u64 (loOf x)], .agg #[.int .i64 (hiOf y), .int .u64 (loOf y)], .int .i64 n] w
      fun e w' => e = .returned (.bool true) ∧ Below w.heap.size w w' := by
  obtain ⟨r, hr0, hr1, HR, HX⟩ : ∃ r, 0 ≤ r ∧ r ≤ 18446744073709551615 ∧ Gives 30 #[(.agg #[.int .i64 (hiOf x), .int .u64 (loOf x)])] (.int .u64 r) ∧ ((x < 0 ∧ r = 0) ∨ (0 ≤ x ∧ IsRoot x r)) := by
    by_cases h : x < 0
    · exact ⟨0, by omega, by omega, g_root_neg x h, .inl ⟨h, rfl⟩⟩
    · obtain ⟨r, hr⟩ := root_ex (by omega) hx
      exact ⟨r, hr.1, hr.2.1, g_root x r hx hr, .inr ⟨by omega, hr⟩⟩
  have Hx := Lib.hid hx
  have Hy := Lib.hid hy
  have Hn := Lib.hid hn
  have G0 := Lib.hid hg
  have HX := Lib.hid HX
  have K := Lib.hid g_known
  have R1 := Lib.hid HR
  have N1 := Lib.hid (r_num r hr0 hr1)
  have O1 := Lib.hid ((r_of 1 (by omega)).as rfl (v' := .agg (numC false (dig 1))) rfl)
  have A1 := Lib.hid ((r_add false false r 1 ⟨hr0, by omega⟩ ⟨by omega, by omega⟩).as rfl (v' := .agg (numC false (dig (r + 1)))) rfl)
  have F1 := Lib.hid (r_from x hx)
  have C0 : Hid (SumS w x y ((w.alloc (.cells #[.int .i64 (hiOf x), .int .u64 (loOf x)] 24)).alloc (.cells #[.int .i64 (hiOf y), .int .u64 (loOf y)] 24))) :=
    Lib.hid ⟨(At.new _ x _ rfl rfl rfl).alloc _, At.new _ y _ (by first | (simp; done) | (simp; omega) | omega) rfl rfl, by (repeat (first | (with_reducible exact Below.refl _ _) | (with_reducible assumption) | (with_reducible refine Below.drew ?_) | (with_reducible refine below_drewN ?_ _) | ((with_reducible refine Below.alloc ?_ ?_ _); rotate_left; (focus (first | (simp; done) | (simp; omega) | omega))) | ((with_reducible refine Below.setCell ?_ ?_ _); rotate_left; (focus (first | (simp; done) | (simp; omega) | omega))) | ((with_reducible refine Below.trans ?_ (Below.mono (by assumption) ?_)); rotate_left; (focus (first | (simp; done) | (simp; omega) | omega)))))⟩
  clear hx hy hn hg HR
  go_enter Tryd.func7, Tryd.ntmps7
  go_upto_region 1 with fail
  generalize (w.alloc (.cells #[.int .i64 (hiOf x), .int .u64 (loOf x)] 24)).alloc (.cells #[.int .i64 (hiOf y), .int .u64 (loOf y)] 24) = w0 at *
  go_upto_region 3 with (go_at_call 8; refine (K.out _ (G0.out.below C0.out.2.2)).mono ?_; rintro e w1 ⟨rfl, hb⟩; have C1 := Lib.hid (C0.out.on hb); clear hb C0)
  go_cut [7] from 13 to 16 (fun v wr => ∃ p, w.heap.size + 1 < p ∧ v = .pointer (some ⟨p, 0, none⟩) ∧ NumAt wr p false (dig r) ∧ SumS w x y wr)
  case first =>
    obtain ⟨a0, a1, _⟩ := C1.out.1
    go_wp2_with (first
      | (go_at_call 30; refine (R1.out _ (G0.out.below C1.out.2.2)).mono ?_; rintro e w2 ⟨rfl, hb⟩; have C2 := Lib.hid (C1.out.on hb); clear hb)
      | (go_at_call 24; refine (N1.out _ (G0.out.below C2.out.2.2)).mono ?_; rintro e w3 ⟨rfl, hb⟩; have C3 := Lib.hid (C2.out.on hb); clear hb)
      | (refine store_num rfl (.tmp 7) (.tmp 15) rfl w3.heap.size rfl _ _ rfl false (fun _ => 0) (NumAt.new w3 false (fun _ => 0) rfl) ?_))
    go_meet
    have l1 := C3.out.2.1.2.2
    exact ⟨w3.heap.size, by omega, rfl, (NumAt.new w3 false (fun _ => 0) rfl).whole, (C3.out.on (below_alloc _ _)).row (by omega) _⟩
  case rest =>
  obtain ⟨p, hp, rfl, hP, hS⟩ := hcut
  obtain ⟨w2, rfl⟩ : ∃ v : World, v = wc := ⟨_, rfl⟩
  have S2 : Hid (RootS w x y p r w2) := Lib.hid ⟨hS, hP⟩
  clear hS hP C1
  go_upto_region 4 with fail
  go_cut [8] from 16 to 19 (fun v wr => ∃ q, w.heap.size + 1 < q ∧ p ≠ q ∧ v = .pointer (some ⟨q, 0, none⟩) ∧ NumAt wr q false (dig (r + 1)) ∧ RootS w x y p r wr)
  case first =>
    refine wp_region_held_drew (S := RootS w x y p r) (by kernel_rfl) (S2.out.on (Below.refl _ _).drew) (fun hHeld => ?_)
    refine wpAnyH_take (i := 0) rfl (by kernel_rfl) (by kernel_rfl) (by kernel_rfl) (fun _ _ _ h => h) (yieldsIf_num rfl (.tmp 7) rfl p rfl false (dig r) fun _ h => h.2) (by assumption) ?_
    (try simp only [Act.put])
    refine wpAnyH_ready (rs := [1, 3]) (by kernel_rfl) (by simp) ?_
    refine AllReadyH.cons rfl (fun K hK => ?_) ?_
    · go_simp
      go_at_call 12
      refine (O1.out _ (G0.out.below hHeld.1.2.2)).mono ?_
      rintro e w1 ⟨rfl, hb1⟩
      have sz := hb1.size
      (try simp at sz)
      refine hK.out _ _ (hHeld.on hb1) (fun hHeld => ?_)
      clear hK K
      (try simp only [Act.put])
      refine wpAnyH_ready (rs := [2, 3]) (by kernel_rfl) (by simp) ?_
      refine AllReadyH.cons rfl (fun K hK => ?_) ?_
      · go_simp
        go_at_call 14
        refine (A1.out _ (G0.out.below hHeld.1.2.2)).mono ?_
        rintro e w3 ⟨rfl, hb3⟩
        have sz := hb3.size
        (try simp at sz)
        refine hK.out _ _ (hHeld.on hb3) (fun hHeld => ?_)
        clear hK K
        (try simp only [Act.put])
        refine wpAnyH_ready (rs := [3]) (by kernel_rfl) (by simp) ?_
        refine AllReadyH.cons rfl (fun K hK => ?_) AllReadyH.nil
        go_simp
        rw [← numC_nought]
        have lt4 := hHeld.2.lt
        have lt5 := hHeld.1.2.1.2.2
        (try simp at lt4)
        (try simp at lt5)
        refine hK.out _ _ (hHeld.on (below_alloc _ _)) (fun hHeld => ?_)
        clear hK K
        (try simp only [Act.put])
        refine wpAnyH_ready (rs := [4]) (by kernel_rfl) (by simp) ?_
        refine AllReadyH.cons rfl (fun K hK => ?_) AllReadyH.nil
        rw [if_pos (by rfl)]
        refine wp_store_row 28 (.tmp 8) (.tmp 18) rfl _ (numC false (dig (r + 1))) rfl rfl 28 (numC false fun _ => 0) (show NumAt _ _ false (fun _ => 0) from by (repeat (first | ((with_reducible refine NumAt.new _ _ _ ?_); first | rfl | (simp; done)) | (with_reducible refine NumAt.whole (b := false) (f := fun _ => 0) ?_) | (with_reducible refine NumAt.wholeOther ?_ _ (by omega)) | (with_reducible refine NumAt.alloc ?_ _) | (with_reducible refine NumAt.drew ?_) | (with_reducible refine NumAt.on ?_ (by assumption))))) (infoN _ _) (by rw [numC_size, numC_size]) (numC_ok _ _) ?_
        refine hK.out _ _ (hHeld.row (by omega) (by omega) _) (fun hHeld => ?_)
        clear hK K
        (try simp only [Act.put])
        refine wpAnyH_done (by kernel_rfl) ?_ _
        go_wp2_with fail
        go_meet
        refine ⟨_, ?_, ?_, rfl, ?_, hHeld⟩
        · omega
        · omega
        · (repeat (first | ((with_reducible refine NumAt.new _ _ _ ?_); first | rfl | (simp; done)) | (with_reducible refine NumAt.whole (b := false) (f := fun _ => 0) ?_) | (with_reducible refine NumAt.wholeOther ?_ _ (by omega)) | (with_reducible refine NumAt.alloc ?_ _) | (with_reducible refine NumAt.drew ?_) | (with_reducible refine NumAt.on ?_ (by assumption))))
      refine AllReadyH.cons rfl (fun K hK => ?_) ?_
      · go_simp
        rw [← numC_nought]
        have lt4 := hHeld.2.lt
        have lt5 := hHeld.1.2.1.2.2
        (try simp at lt4)
        (try simp at lt5)
        refine hK.out _ _ (hHeld.on (below_alloc _ _)) (fun hHeld => ?_)
        clear hK K
        (try simp only [Act.put])
        refine wpAnyH_ready (rs := [2]) (by kernel_rfl) (by simp) ?_
        refine AllReadyH.cons rfl (fun K hK => ?_) AllReadyH.nil
        go_simp
        go_at_call 14
        refine (A1.out _ (G0.out.below hHeld.1.2.2)).mono ?_
        rintro e w3 ⟨rfl, hb3⟩
        have sz := hb3.size
        (try simp at sz)
        refine hK.out _ _ (hHeld.on hb3) (fun hHeld => ?_)
        clear hK K
        (try simp only [Act.put])
        refine wpAnyH_ready (rs := [4]) (by kernel_rfl) (by simp) ?_
        refine AllReadyH.cons rfl (fun K hK => ?_) AllReadyH.nil
        rw [if_pos (by rfl)]
        refine wp_store_row 28 (.tmp 8) (.tmp 18) rfl _ (numC false (dig (r + 1))) rfl rfl 28 (numC false fun _ => 0) (show NumAt _ _ false (fun _ => 0) from by (repeat (first | ((with_reducible refine NumAt.new _ _ _ ?_); first | rfl | (simp; done)) | (with_reducible refine NumAt.whole (b := false) (f := fun _ => 0) ?_) | (with_reducible refine NumAt.wholeOther ?_ _ (by omega)) | (with_reducible refine NumAt.alloc ?_ _) | (with_reducible refine NumAt.drew ?_) | (with_reducible refine NumAt.on ?_ (by assumption))))) (infoN _ _) (by rw [numC_size, numC_size]) (numC_ok _ _) ?_
        refine hK.out _ _ (hHeld.row (by omega) (by omega) _) (fun hHeld => ?_)
        clear hK K
        (try simp only [Act.put])
        refine wpAnyH_done (by kernel_rfl) ?_ _
        go_wp2_with fail
        go_meet
        refine ⟨_, ?_, ?_, rfl, ?_, hHeld⟩
        · omega
        · omega
        · (repeat (first | ((with_reducible refine NumAt.new _ _ _ ?_); first | rfl | (simp; done)) | (with_reducible refine NumAt.whole (b := false) (f := fun _ => 0) ?_) | (with_reducible refine NumAt.wholeOther ?_ _ (by omega)) | (with_reducible refine NumAt.alloc ?_ _) | (with_reducible refine NumAt.drew ?_) | (with_reducible refine NumAt.on ?_ (by assumption))))
      exact AllReadyH.nil
    refine AllReadyH.cons rfl (fun K hK => ?_) ?_
    · go_simp
      rw [← numC_nought]
      have lt4 := hHeld.2.lt
      have lt5 := hHeld.1.2.1.2.2
      (try simp at lt4)
      (try simp at lt5)
      refine hK.out _ _ (hHeld.on (below_alloc _ _)) (fun hHeld => ?_)
      clear hK K
      (try simp only [Act.put])
      refine wpAnyH_ready (rs := [1]) (by kernel_rfl) (by simp) ?_
      refine AllReadyH.cons rfl (fun K hK => ?_) AllReadyH.nil
      go_simp
      go_at_call 12
      refine (O1.out _ (G0.out.below hHeld.1.2.2)).mono ?_
      rintro e w1 ⟨rfl, hb1⟩
      have sz := hb1.size
      (try simp at sz)
      refine hK.out _ _ (hHeld.on hb1) (fun hHeld => ?_)
      clear hK K
      (try simp only [Act.put])
      refine wpAnyH_ready (rs := [2]) (by kernel_rfl) (by simp) ?_
      refine AllReadyH.cons rfl (fun K hK => ?_) AllReadyH.nil
      go_simp
      go_at_call 14
      refine (A1.out _ (G0.out.below hHeld.1.2.2)).mono ?_
      rintro e w3 ⟨rfl, hb3⟩
      have sz := hb3.size
      (try simp at sz)
      refine hK.out _ _ (hHeld.on hb3) (fun hHeld => ?_)
      clear hK K
      (try simp only [Act.put])
      refine wpAnyH_ready (rs := [4]) (by kernel_rfl) (by simp) ?_
      refine AllReadyH.cons rfl (fun K hK => ?_) AllReadyH.nil
      rw [if_pos (by rfl)]
      refine wp_store_row 28 (.tmp 8) (.tmp 18) rfl _ (numC false (dig (r + 1))) rfl rfl 28 (numC false fun _ => 0) (show NumAt _ _ false (fun _ => 0) from by (repeat (first | ((with_reducible refine NumAt.new _ _ _ ?_); first | rfl | (simp; done)) | (with_reducible refine NumAt.whole (b := false) (f := fun _ => 0) ?_) | (with_reducible refine NumAt.wholeOther ?_ _ (by omega)) | (with_reducible refine NumAt.alloc ?_ _) | (with_reducible refine NumAt.drew ?_) | (with_reducible refine NumAt.on ?_ (by assumption))))) (infoN _ _) (by rw [numC_size, numC_size]) (numC_ok _ _) ?_
      refine hK.out _ _ (hHeld.row (by omega) (by omega) _) (fun hHeld => ?_)
      clear hK K
      (try simp only [Act.put])
      refine wpAnyH_done (by kernel_rfl) ?_ _
      go_wp2_with fail
      go_meet
      refine ⟨_, ?_, ?_, rfl, ?_, hHeld⟩
      · omega
      · omega
      · (repeat (first | ((with_reducible refine NumAt.new _ _ _ ?_); first | rfl | (simp; done)) | (with_reducible refine NumAt.whole (b := false) (f := fun _ => 0) ?_) | (with_reducible refine NumAt.wholeOther ?_ _ (by omega)) | (with_reducible refine NumAt.alloc ?_ _) | (with_reducible refine NumAt.drew ?_) | (with_reducible refine NumAt.on ?_ (by assumption))))
    exact AllReadyH.nil
  case rest =>
  obtain ⟨q, hq, hpq, rfl, hQ, hS⟩ := hcut
  obtain ⟨w3, rfl⟩ : ∃ v : World, v = wc := ⟨_, rfl⟩
  have S3 := Lib.hid hS
  have Q3 := Lib.hid hQ
  clear hS hQ S2
  go_upto_region 5 with fail
  go_cut [9] from 19 to 21 (fun v wr => ∃ g, w.heap.size + 1 < g ∧ v = .pointer (some ⟨g, 0, none⟩) ∧ NumAt wr g (pair0 x) (dig (absN x)) ∧ NumAt wr q false (dig (r + 1)) ∧ RootS w x y p r wr)
  case first =>
    obtain ⟨a0, a1, _⟩ := S3.out.1.1
    go_wp2_with (first
      | (go_at_call 9; refine (F1.out _ (G0.out.below S3.out.1.2.2)).mono ?_; rintro e w4 ⟨rfl, hb⟩; have S4 := Lib.hid (S3.out.on hb); have Q4 := Lib.hid (Q3.out.on hb); clear hb)
      | (refine store_num rfl (.tmp 9) (.tmp 20) rfl w4.heap.size rfl _ _ rfl false (fun _ => 0) (NumAt.new w4 false (fun _ => 0) rfl) ?_))
    go_meet
    have l1 := S4.out.1.2.1.2.2
    have l2 := S4.out.2.lt
    have l3 := Q4.out.lt
    exact ⟨w4.heap.size, by omega, rfl, (NumAt.new w4 false (fun _ => 0) rfl).whole, (Q4.out.alloc _).wholeOther _ (by omega), (S4.out.on (below_alloc _ _)).row (by omega) (by omega) _⟩
  case rest =>
  obtain ⟨g, hg, rfl, hF, hQ, hS⟩ := hcut
  obtain ⟨w4, rfl⟩ : ∃ v : World, v = wc := ⟨_, rfl⟩
  have S4 := Lib.hid hS
  have Q4 := Lib.hid hQ
  have F4 := Lib.hid hF
  clear hS hQ hF S3 Q3
  obtain ⟨a0, a1, _⟩ := S4.out.1.1
  rcases HX.out with ⟨h0, rfl⟩ | ⟨h0, hR⟩
  · have k0 : decide (hiOf x < 0) = true := by rw [hi_neg]; unfold neg; simpa using h0
    go_wp2_with (first
      | (go_at_call 30; refine (R1.out _ (G0.out.below S4.out.1.2.2)).mono ?_; rintro e w5 ⟨rfl, hb⟩))
    go_ret
    exact ⟨rfl, (S4.out.on hb).1.2.2⟩
  · have k0 : decide (hiOf x < 0) = false := by rw [hi_neg]; unfold neg; simp; omega
    have ax := absN_wide Hx.out
    have pr := prod20 (r := r) ⟨hr0, by omega⟩
    have pr' := prod20 (r := r + 1) ⟨by omega, by omega⟩
    obtain ⟨z1, ez1, kz1⟩ := sgn_le hR.2.2.1
    have M1 := Lib.hid ((r_mul false false r r ⟨hr0, by omega⟩ ⟨hr0, by omega⟩ (by omega)).as rfl (v' := .agg (numC false (dig (r * r)))) rfl)
    have D1 := Lib.hid ((r_cmp false (pair0 x) (r * r) (absN x) (r * r) x ⟨pr.1, by omega⟩ ⟨ax.1, by omega⟩ rfl (vz_pair x)).as rfl (v' := .int .i64 z1) (by rw [ez1]))
    have M2 := Lib.hid ((r_mul false false (r + 1) (r + 1) ⟨by omega, by omega⟩ ⟨by omega, by omega⟩ (by omega)).as rfl (v' := .agg (numC false (dig ((r + 1) * (r + 1))))) rfl)
    have D2 := Lib.hid ((r_cmp false (pair0 x) ((r + 1) * (r + 1)) (absN x) ((r + 1) * (r + 1)) x ⟨pr'.1, by omega⟩ ⟨ax.1, by omega⟩ rfl (vz_pair x)).as rfl (v' := .int .i64 1) (by have := hR.2.2.2; unfold sgn; rw [if_neg (by omega), if_neg (by omega)]))
    have HR := Lib.hid hR
    clear ax pr pr' ez1 hR
    go_upto_region 8 with fail
    go_cut [40] from 27 to 41 (fun v wr => v = .bool false ∧ Below w4.heap.size w4 wr)
    case first =>
      have GG := Lib.hid (G0.out.below S4.out.1.2.2)
      refine wp_region_quiet_below (by kernel_rfl) (by kernel_rfl) ?_
      repeat (first
        | ((first | refine quiet_load_num (.tmp 7) rfl rfl p rfl _ _ S4.out.2.regrown ?_ | refine quiet_load_num (.tmp 8) rfl rfl q rfl _ _ Q4.out.regrown ?_ | refine quiet_load_num (.tmp 9) rfl rfl g rfl _ _ F4.out.regrown ?_); (try simp only [Act.put, List.setIfInBounds_toArray, List.set_cons_zero, List.set_cons_succ]))
        | (go_big_quiet_step (first | (with_reducible exact (M1.out.quiet GG.out _ _)) | (with_reducible exact (D1.out.quiet GG.out _ _)) | (with_reducible exact (M2.out.quiet GG.out _ _)) | (with_reducible exact (D2.out.quiet GG.out _ _)))))
      (refine wpQuiet_nil ?_; intro _ hw'; obtain ⟨⟨dq, osq⟩, hw''⟩ := hw'; subst hw'')
      go_wp2_with fail
      go_meet
      exact ⟨rfl, below_quiet _ _⟩
    case rest =>
    obtain ⟨rfl, hb⟩ := hcut
    have S5 := Lib.hid (S4.out.on hb).1
    clear hb S4 Q4 F4 a0 a1 M1 D1 M2 D2 kz1
    have W1 := Lib.hid ((g_mul n n Hn.out Hn.out).as rfl (v' := .agg #[.int .i64 (hiOf (n * n)), .int .u64 (loOf (n * n))]) (by rw [sat_id (root_sq n Hn.out).2]))
    have R2 := Lib.hid (g_root (n * n) (absN n) (root_sq n Hn.out).2 (root_sq n Hn.out).1)
    have O2 := Lib.hid (g_of n Hn.out)
    have B2 := Lib.hid ((g_abs n (by have := Hn.out; unfold In; omega)).as rfl (v' := .agg #[.int .i64 (hiOf (absN n)), .int .u64 (absN n)]) (by
      have hb := absN_bd Hn.out
      rw [show (if n < 0 then -n else n) = absN n from rfl, sat_id (by unfold In; omega), show loOf (absN n) = absN n by unfold loOf; omega]))
    go_upto_region 10 with fail
    go_cut [10] from 41 to 44 (fun v wr => ∃ u, v = .pointer (some ⟨u, 0, none⟩) ∧ At wr u (n * n) ∧ SumS w x y wr)
    case first =>
      go_wp2_with (go_at_call 21; refine (W1.out _ (G0.out.below S5.out.2.2)).mono ?_; rintro e w6 ⟨rfl, hb⟩)
      go_meet
      exact ⟨_, rfl, At.new _ _ _ rfl rfl rfl, (S5.out.on hb).on (below_alloc _ _)⟩
    case rest =>
    obtain ⟨u, rfl, hU, hS⟩ := hcut
    obtain ⟨w6, rfl⟩ : ∃ v : World, v = wc := ⟨_, rfl⟩
    have S6 := Lib.hid hS
    have U6 := Lib.hid hU
    clear hS hU S5
    obtain ⟨u0, u1, _⟩ := U6.out
    have hfd : ∀ w : World, (Instr.field 24 (.agg #[.int .i64 (hiOf (absN n)), .int .u64 (absN n)]) 1).run Tryd.prog w = .ok (.int .u64 (absN n)) w := fun _ => by kernel_rfl
    go_upto_region 13 with (first
      | (go_at_call_of 30 (hiOf (n * n)); refine (R2.out _ (G0.out.below S6.out.2.2)).mono ?_; rintro e w7 ⟨rfl, hb⟩; have S7 := Lib.hid (S6.out.on hb); clear hb)
      | (go_at_call 10; refine (O2.out _ (G0.out.below S7.out.2.2)).mono ?_; rintro e w8 ⟨rfl, hb⟩; have S8 := Lib.hid (S7.out.on hb); clear hb)
      | (go_at_call 18; refine (B2.out _ (G0.out.below S8.out.2.2)).mono ?_; rintro e w9 ⟨rfl, hb⟩; have S9 := Lib.hid (S8.out.on hb); clear hb))
    clear u0 u1 hfd
    obtain ⟨a0, a1⟩ := S9.out.1.q
    obtain ⟨b0, b1⟩ := S9.out.2.1.q
    have GG := Lib.hid (G0.out.below S9.out.2.2)
    have BB := Lib.hid S9.out.2.2
    by_cases hxy : y < x
    · have D3 := Lib.hid ((g_cmp x y).as rfl (v' := .int .i64 1) (by unfold sgn; rw [if_neg (by omega), if_neg (by omega)]))
      clear hxy
      refine wp_region_quiet_below (by kernel_rfl) (by kernel_rfl) ?_
      repeat (go_big_quiet_step (first | (with_reducible exact (D3.out.quiet GG.out _ _))))
      (refine wpQuiet_nil ?_; intro _ hw'; obtain ⟨⟨dq, osq⟩, hw''⟩ := hw'; subst hw'')
      go_wp2_with fail
      go_ret
      exact ⟨rfl, BB.out.trans ((below_quiet _ _).mono BB.out.size)⟩
    · obtain ⟨z3, ez3, kz3⟩ := sgn_le (show x ≤ y by omega)
      have D3 := Lib.hid ((g_cmp x y).as rfl (v' := .int .i64 z3) (by rw [ez3]))
      obtain ⟨s, hs⟩ := root_ex (show 0 ≤ y by omega) Hy.out
      have R3 := Lib.hid (g_root y s Hy.out hs)
      have k3 : decide (r ≤ s) = true := by simpa using HR.out.mono hs (by omega)
      clear hxy ez3 hs
      refine wp_region_quiet_below (by kernel_rfl) (by kernel_rfl) ?_
      repeat (go_big_quiet_step (first | (with_reducible exact (D3.out.quiet GG.out _ _)) | (with_reducible exact (R1.out.quiet GG.out _ _)) | (with_reducible exact (R3.out.quiet GG.out _ _))))
      (refine wpQuiet_nil ?_; intro _ hw'; obtain ⟨⟨dq, osq⟩, hw''⟩ := hw'; subst hw'')
      go_wp2_with fail
      go_ret
      exact ⟨rfl, BB.out.trans ((below_quiet _ _).mono BB.out.size)⟩
end Go.Proofs.YtleccjahkphocaaDoor
