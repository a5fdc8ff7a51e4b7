/-
  WideParts, walked.
-/
import Derived.Test.YtleccjahkphocaaDoorTimes
namespace Go.Proofs.YtleccjahkphocaaDoor
open Go.RowKit Go.Sort
/-- What stands in WideParts. -/
def PartS (w : World) (x : Int) (p u : Nat) (qq : Int) (W' : World) : Prop := TimeS w x W' ∧ NumAt W' p (pair0 x) (dig (absN x)) ∧ At W' u qq
theorem PartS.on {w W W' : World} {x qq : Int} {p u : Nat} (h : PartS w x p u qq W) (hb : Below W.heap.size W W') : PartS w x p u qq W' := ⟨h.1.on hb, h.2.1.on hb, h.2.2.below hb⟩
theorem PartS.row {w W : World} {x qq : Int} {p u : Nat} (h : PartS w x p u qq W) {g : Nat} (hg : w.heap.size < g) (hp : p ≠ g) (hu : u ≠ g) (cs : Array Value) : PartS w x p u qq (W.setRow g cs) :=
  ⟨h.1.row hg _, h.2.1.wholeOther _ hp, h.2.2.row hu _⟩
/-- .. and through the rest's making. -/
def RestS (w : World) (x n : Int) (p u d f : Nat) (qq : Int) (W' : World) : Prop := PartS w x p u qq W' ∧ NumAt W' d false (dig n) ∧ NumAt W' f (pair0 x) (dig (fl x n))
theorem RestS.on {w W W' : World} {x n qq : Int} {p u d f : Nat} (h : RestS w x n p u d f qq W) (hb : Below W.heap.size W W') : RestS w x n p u d f qq W' := ⟨h.1.on hb, h.2.1.on hb, h.2.2.on hb⟩
theorem RestS.row {w W : World} {x n qq : Int} {p u d f : Nat} (h : RestS w x n p u d f qq W) {g : Nat} (hg : w.heap.size < g) (hp : p ≠ g) (hu : u ≠ g) (hd : d ≠ g) (hf : f ≠ g) (cs : Array Value) : RestS w x n p u d f qq (W.setRow g cs) :=
  ⟨h.1.row hg hp hu _, h.2.1.wholeOther _ hd, h.2.2.wholeOther _ hf⟩
theorem clip_bd (x : Int) : -9223372036854775808 ≤ clip x ∧ clip x ≤ 9223372036854775807 := by unfold clip; (repeat' split) <;> omega
theorem clip_ways (x : Int) : (sgn (clip x) x = -1 ∧ clip x = 9223372036854775807) ∨ (sgn (clip x) x = 1 ∧ clip x = -9223372036854775808) ∨ sgn (clip x) x = 0 := by
  unfold sgn clip; (repeat' split) <;> omega
set_option maxHeartbeats 8000000 in
set_option maxRecDepth 100000 in
theorem wideParts_any (x n : Int) (hx : In x) (hn : 0 ≤ n ∧ n ≤ 18446744073709551615) (w : World) (hg : Glob w) :
    Calls Tryd.prog 5 #[.agg #[.int .i64 (hiOf x), .int .u64 (loOf x)], .int .u64 n] w
      fun e w' => e = .returned (.bool true) ∧ Below w.heap.size w w' := by
  obtain ⟨qq, rr, ok, HD, HX⟩ : ∃ qq rr ok, Gives 27 #[(.agg #[.int .i64 (hiOf x), .int .u64 (loOf x)]), .int .u64 n] (.tuple #[.agg #[.int .i64 (hiOf qq), .int .u64 (loOf qq)], .int .u64 rr, .bool ok]) ∧ ((n = 0 ∧ qq = 0 ∧ rr = 0 ∧ ok = false) ∨ (0 < n ∧ qq = x / n ∧ rr = x % n ∧ ok = true)) := by
    by_cases h : n = 0
    · subst h
      exact ⟨0, 0, false, (g_div0 x).as rfl rfl, .inl ⟨rfl, rfl, rfl, rfl⟩⟩
    · exact ⟨x / n, x % n, true, g_div x n hx ⟨hn.1, hn.2⟩ (by omega), .inr ⟨by omega, rfl, rfl, rfl⟩⟩
  have ax := absN_wide hx
  have cb := clip_bd x
  have ac := absN_bd cb
  have hn0 := hn.1
  have n1 := hn.2
  have HX := Lib.hid HX
  have G0 := Lib.hid hg
  have Hx := Lib.hid hx
  have Hn := Lib.hid hn
  have K := Lib.hid g_known
  have F1 := Lib.hid (r_from x hx)
  have D1 := Lib.hid HD
  have L1 := Lib.hid (g_clip x hx)
  have O1 := Lib.hid (r_of (clip x) cb)
  have M1 := Lib.hid (r_cmp (pair0 (clip x)) (pair0 x) (absN (clip x)) (absN x) (clip x) x ⟨ac.1, by omega⟩ ⟨ax.1, by omega⟩ (vz_pair _) (vz_pair x))
  have CW := Lib.hid (clip_ways x)
  have C0 : Hid (TimeS w x (w.alloc (.cells #[.int .i64 (hiOf x), .int .u64 (loOf x)] 24))) := Lib.hid ⟨At.new _ x _ rfl rfl rfl, by (repeat (first | (with_reducible exact Below.refl _ _) | (with_reducible assumption) | (with_reducible refine Below.drew ?_) | (with_reducible refine below_drewN ?_ _) | ((with_reducible refine Below.alloc ?_ ?_ _); rotate_left; (focus (first | (simp; done) | (simp; omega) | omega))) | ((with_reducible refine Below.setCell ?_ ?_ _); rotate_left; (focus (first | (simp; done) | (simp; omega) | omega))) | ((with_reducible refine Below.trans ?_ (Below.mono (by assumption) ?_)); rotate_left; (focus (first | (simp; done) | (simp; omega) | omega)))))⟩
  clear hx hn hg HD ax cb ac
  generalize clip x = c at *
  generalize sgn c x = z at *
  go_enter Tryd.func5, Tryd.ntmps5
  go_upto_region 1 with fail
  generalize w.alloc (.cells #[.int .i64 (hiOf x), .int .u64 (loOf x)] 24) = w0 at *
  go_upto_region 3 with (go_at_call 8; refine (K.out _ (G0.out.below C0.out.2)).mono ?_; rintro e w1 ⟨rfl, hb⟩; have C1 := Lib.hid (C0.out.on hb); clear hb C0)
  go_cut [5] from 16 to 18 (fun v wr => ∃ p, w.heap.size < p ∧ v = .pointer (some ⟨p, 0, none⟩) ∧ NumAt wr p (pair0 x) (dig (absN x)) ∧ TimeS w x wr)
  case first =>
    obtain ⟨a0, a1, _⟩ := C1.out.1
    go_wp2_with (first
      | (go_at_call 9; refine (F1.out _ (G0.out.below C1.out.2)).mono ?_; rintro e w2 ⟨rfl, hb⟩; have C2 := Lib.hid (C1.out.on hb); clear hb)
      | (refine store_num rfl (.tmp 5) (.tmp 17) rfl w2.heap.size rfl _ _ rfl false (fun _ => 0) (NumAt.new w2 false (fun _ => 0) rfl) ?_))
    go_meet
    exact ⟨w2.heap.size, C2.out.1.2.2, rfl, (NumAt.new w2 false (fun _ => 0) rfl).whole, (C2.out.on (below_alloc _ _)).row C2.out.1.2.2 _⟩
  case rest =>
  obtain ⟨p, hp, rfl, hP, hS⟩ := hcut
  obtain ⟨w2, rfl⟩ : ∃ v : World, v = wc := ⟨_, rfl⟩
  have X2 := Lib.hid hP
  have S2 := Lib.hid hS
  clear hP hS C1
  go_upto_region 4 with fail
  go_cut [6, 7, 8] from 18 to 25 (fun v6 v7 v8 wr => ∃ u, p ≠ u ∧ v6 = .pointer (some ⟨u, 0, none⟩) ∧ v7 = .int .u64 rr ∧ v8 = .bool ok ∧ PartS w x p u qq wr)
  case first =>
    obtain ⟨a0, a1, _⟩ := S2.out.1
    go_wp2_with (go_at_call 27; refine (D1.out _ (G0.out.below S2.out.2)).mono ?_; rintro e w3 ⟨rfl, hb⟩)
    go_meet
    have l1 := (X2.out.on hb).lt
    exact ⟨w3.heap.size, by omega, rfl, rfl, rfl, (S2.out.on hb).on (below_alloc _ _), (X2.out.on hb).alloc _, At.new _ _ _ rfl rfl rfl⟩
  case rest =>
  obtain ⟨u, hpu, rfl, rfl, rfl, hS⟩ := hcut
  obtain ⟨w3, rfl⟩ : ∃ v : World, v = wc := ⟨_, rfl⟩
  have S3 := Lib.hid hS
  clear hS S2 X2
  go_upto_region 5 with fail
  go_cut [9] from 25 to 28 (fun v wr => ∃ g, v = .pointer (some ⟨g, 0, none⟩) ∧ NumAt wr g (pair0 c) (dig (absN c)) ∧ PartS w x p u qq wr)
  case first =>
    obtain ⟨a0, a1, _⟩ := S3.out.1.1
    go_wp2_with (first
      | (go_at_call 28; refine (L1.out _ (G0.out.below S3.out.1.2)).mono ?_; rintro e w4 ⟨rfl, hb⟩; have S4 := Lib.hid (S3.out.on hb); clear hb)
      | (go_at_call 12; refine (O1.out _ (G0.out.below S4.out.1.2)).mono ?_; rintro e w5 ⟨rfl, hb⟩; have S5 := Lib.hid (S4.out.on hb); clear hb)
      | (refine store_num rfl (.tmp 9) (.tmp 27) rfl w5.heap.size rfl _ _ rfl false (fun _ => 0) (NumAt.new w5 false (fun _ => 0) rfl) ?_))
    go_meet
    have l1 := S5.out.1.1.2.2
    have l2 := S5.out.2.1.lt
    have l3 := S5.out.2.2.2.2
    exact ⟨w5.heap.size, rfl, (NumAt.new w5 false (fun _ => 0) rfl).whole, (S5.out.on (below_alloc _ _)).row (by omega) (by omega) (by omega) _⟩
  case rest =>
  obtain ⟨g, rfl, hC, hS⟩ := hcut
  obtain ⟨w4, rfl⟩ : ∃ v : World, v = wc := ⟨_, rfl⟩
  have S4 := Lib.hid hS
  have C4 := Lib.hid hC
  clear hS hC S3
  go_upto_region 6 with fail
  go_cut [10] from 28 to 31 (fun v wr => v = .int .i64 z ∧ PartS w x p u qq wr)
  case first =>
    go_wp2_with (first
      | (refine load_num rfl (.tmp 9) rfl g rfl _ _ C4.out ?_)
      | (refine load_num rfl (.tmp 5) rfl p rfl _ _ S4.out.2.1 ?_)
      | (go_at_call 20; refine (M1.out _ (G0.out.below S4.out.1.2)).mono ?_; rintro e w5 ⟨rfl, hb⟩; have S5 := Lib.hid (S4.out.on hb); clear hb))
    go_meet
    exact ⟨rfl, S5.out⟩
  case rest =>
  obtain ⟨rfl, hS⟩ := hcut
  obtain ⟨w5, rfl⟩ : ∃ v : World, v = wc := ⟨_, rfl⟩
  have S5 := Lib.hid hS
  clear hS S4 C4 M1 O1
  obtain ⟨a0, a1, _⟩ := S5.out.1.1
  refine (by assumption : ∀ (a : Act) (w : World), Code.wp Tryd.prog _ _ a w → _) _ _ ?_
  go_cut [5] from 31 to 47 (fun v wr => v = .pointer (some ⟨p, 0, none⟩) ∧ PartS w x p u qq wr)
  case first =>
    rcases CW.out with ⟨rfl, rfl⟩ | ⟨rfl, rfl⟩ | rfl
    · go_wp2_with (go_at_call 28; refine (L1.out _ (G0.out.below S5.out.1.2)).mono ?_; rintro e w6 ⟨rfl, hb⟩; have S6 := Lib.hid (S5.out.on hb); clear hb)
      go_meet
      exact ⟨rfl, S6.out⟩
    · go_wp2_with (go_at_call 28; refine (L1.out _ (G0.out.below S5.out.1.2)).mono ?_; rintro e w6 ⟨rfl, hb⟩; have S6 := Lib.hid (S5.out.on hb); clear hb)
      go_meet
      exact ⟨rfl, S6.out⟩
    · go_wp2
      go_meet
      exact ⟨rfl, S5.out⟩
  case rest =>
  obtain ⟨rfl, hS⟩ := hcut
  obtain ⟨w6, rfl⟩ : ∃ v : World, v = wc := ⟨_, rfl⟩
  have S6 := Lib.hid hS
  clear hS S5 a0 a1 L1 CW
  rcases HX.out with ⟨rfl, rfl, rfl, rfl⟩ | ⟨h0, hq, hr, rfl⟩
  · obtain ⟨u0, u1, _⟩ := S6.out.2.2
    have z0 : hiOf 0 = 0 := rfl
    have z1 : loOf 0 = 0 := rfl
    rw [z0] at u0
    rw [z1] at u1
    go_wp2
    go_ret
    exact ⟨rfl, S6.out.1.2⟩
  · have kn : decide (n = 0) = false := by simp; omega
    have ax := absN_wide Hx.out
    have fb := fl_bd Hx.out h0
    rw [← hq] at fb
    have s1 := Int.mul_le_mul fb.2.1 (show n ≤ 18446744073709551616 by omega) (by omega) (by omega)
    have s0 := Int.mul_nonneg fb.1 hn0
    have rb := Int.emod_nonneg x (show n ≠ 0 by omega)
    have rl := Int.emod_lt_of_pos x h0
    have em := Int.ediv_mul_add_emod x n
    rw [← hr] at rb rl em
    rw [← hq] at em
    have nv : vz (!pair0 x) (fl x n * n) = -(qq * n) := by
      rw [← fb.2.2]; unfold vz; cases pair0 x <;> simp [Int.neg_mul]
    have qi : In qq := by
      have h := fb.2.2
      have h1 := fb.1
      have h2 := fb.2.1
      have hx := Hx.out
      unfold In at hx
      unfold vz pair0 at h
      unfold In
      by_cases hx0 : x < 0
      · simp only [hx0, decide_true, if_true] at h; omega
      · have h3 : qq ≤ x := by rw [hq]; exact Int.ediv_le_self _ (by omega)
        simp only [hx0, decide_false, Bool.false_eq_true, if_false] at h
        omega
    have A1 := Lib.hid ((r_mul (pair0 x) false (fl x n) n ⟨fb.1, by omega⟩ ⟨hn0, by omega⟩ (by omega)).as rfl (v' := .agg (numC (pair0 x) (dig (fl x n * n)))) (by simp))
    have A2 := Lib.hid (r_neg (pair0 x) (dig (fl x n * n)))
    have A3 := Lib.hid (r_add (pair0 x) (!pair0 x) (absN x) (fl x n * n) ⟨ax.1, by omega⟩ ⟨s0, by omega⟩)
    have av := add_vz (pair0 x) (!pair0 x) (absN x) (fl x n * n)
    have ab := addM_bd (b := pair0 x) (c := !pair0 x) ax.1 s0
    rw [vz_pair, nv] at av
    generalize addS (pair0 x) (!pair0 x) (absN x) (fl x n * n) = sR at *
    generalize addM (pair0 x) (!pair0 x) (absN x) (fl x n * n) = mR at *
    have N1 := Lib.hid (r_num n hn0 (by omega))
    have L2 := Lib.hid (r_floor x n Hx.out ⟨h0, by omega⟩)
    have V1 := Lib.hid ((r_wide (pair0 x) (fl x n) qq ⟨fb.1, by omega⟩ fb.2.2).as rfl (v' := .agg #[.int .i64 (hiOf qq), .int .u64 (loOf qq)]) (by rw [sat_id qi]))
    have V2 := Lib.hid (r_num rr rb (by omega))
    have V3 := Lib.hid ((r_cmp false sR rr mR rr rr ⟨rb, by omega⟩ ⟨ab.1, by omega⟩ rfl (by rw [av]; omega)).as rfl (v' := .int .i64 0) (by unfold sgn; rw [if_pos rfl]))
    clear ax fb s1 s0 rb rl em nv qi av ab hq hr HX
    go_upto_region 11 with fail
    go_cut [11] from 47 to 62 (fun v wr => ∃ d, v = .pointer (some ⟨d, 0, none⟩) ∧ NumAt wr d false (dig n) ∧ PartS w x p u qq wr)
    case first =>
      go_wp2_with (first
        | (go_at_call 24; refine (N1.out _ (G0.out.below S6.out.1.2)).mono ?_; rintro e w7 ⟨rfl, hb⟩; have S7 := Lib.hid (S6.out.on hb); clear hb)
        | ((refine store_num rfl (.tmp 11) (.tmp 61) rfl w7.heap.size rfl _ _ rfl false (fun _ => 0) (NumAt.new w7 false (fun _ => 0) rfl) ?_); (try simp only [Act.put, List.setIfInBounds_toArray, List.set_cons_zero, List.set_cons_succ])))
      go_meet
      have l1 := S7.out.1.1.2.2
      have l2 := S7.out.2.1.lt
      have l3 := S7.out.2.2.2.2
      exact ⟨w7.heap.size, rfl, (NumAt.new w7 false (fun _ => 0) rfl).whole, (S7.out.on (below_alloc _ _)).row (by omega) (by omega) (by omega) _⟩
    case rest =>
    obtain ⟨d, rfl, hD, hS⟩ := hcut
    obtain ⟨w7, rfl⟩ : ∃ v : World, v = wc := ⟨_, rfl⟩
    have S7 := Lib.hid hS
    have D7 := Lib.hid hD
    clear hS hD S6
    go_upto_region 12 with fail
    go_cut [12] from 62 to 65 (fun v wr => ∃ f, v = .pointer (some ⟨f, 0, none⟩) ∧ RestS w x n p u d f qq wr)
    case first =>
      go_wp2_with (first
        | (refine load_num rfl (.tmp 5) rfl p rfl _ _ S7.out.2.1 ?_)
        | (refine load_num rfl (.tmp 11) rfl d rfl _ _ D7.out ?_)
        | (go_at_call 26; refine (L2.out _ (G0.out.below S7.out.1.2)).mono ?_; rintro e w8 ⟨rfl, hb⟩; have S8 := Lib.hid (S7.out.on hb); have D8 := Lib.hid (D7.out.on hb); clear hb)
        | ((refine store_num rfl (.tmp 12) (.tmp 64) rfl w8.heap.size rfl _ _ rfl false (fun _ => 0) (NumAt.new w8 false (fun _ => 0) rfl) ?_); (try simp only [Act.put, List.setIfInBounds_toArray, List.set_cons_zero, List.set_cons_succ])))
      go_meet
      have l1 := S8.out.1.1.2.2
      have l2 := S8.out.2.1.lt
      have l3 := S8.out.2.2.2.2
      have l4 := D8.out.lt
      exact ⟨w8.heap.size, rfl, (S8.out.on (below_alloc _ _)).row (by omega) (by omega) (by omega) _, (D8.out.alloc _).wholeOther _ (by omega), (NumAt.new w8 false (fun _ => 0) rfl).whole⟩
    case rest =>
    obtain ⟨f, rfl, hS⟩ := hcut
    obtain ⟨w8, rfl⟩ : ∃ v : World, v = wc := ⟨_, rfl⟩
    have S8 := Lib.hid hS
    clear hS S7 D7
    go_upto_region 13 with fail
    go_cut [13] from 65 to 71 (fun v wr => ∃ g, v = .pointer (some ⟨g, 0, none⟩) ∧ NumAt wr g sR (dig mR) ∧ RestS w x n p u d f qq wr)
    case first =>
      refine wp_region_held_drew (S := RestS w x n p u d f qq) (by kernel_rfl) (S8.out.on (Below.refl _ _).drew) (fun hHeld => ?_)
      refine wpAnyH_take (i := 0) rfl (by kernel_rfl) (by kernel_rfl) (by kernel_rfl) (fun _ _ _ h => h) (yieldsIf_num rfl (.tmp 5) rfl p rfl (pair0 x) (dig (absN x)) fun _ h => h.1.2.1) (by assumption) ?_
      (try simp only [Act.put])
      refine wpAnyH_take (i := 1) rfl (by kernel_rfl) (by kernel_rfl) (by kernel_rfl) (fun _ _ _ h => h) (yieldsIf_num rfl (.tmp 12) rfl f rfl (pair0 x) (dig (fl x n)) fun _ h => h.2.2) (by assumption) ?_
      (try simp only [Act.put])
      refine wpAnyH_take (i := 2) rfl (by kernel_rfl) (by kernel_rfl) (by kernel_rfl) (fun _ _ _ h => h) (yieldsIf_num rfl (.tmp 11) rfl d rfl false (dig n) fun _ h => h.2.1) (by assumption) ?_
      (try simp only [Act.put])
      refine wpAnyH_ready (rs := [3, 6]) (by kernel_rfl) (by simp) ?_
      refine AllReadyH.cons rfl (fun K hK => ?_) ?_
      · go_simp
        go_at_call 22
        refine (A1.out _ (G0.out.below hHeld.1.1.2)).mono ?_
        rintro e w11 ⟨rfl, hb3⟩
        have sz := hb3.size
        (try simp at sz)
        refine hK.out _ _ (hHeld.on hb3) (fun hHeld => ?_)
        clear hK K
        (try simp only [Act.put])
        refine wpAnyH_ready (rs := [4, 6]) (by kernel_rfl) (by simp) ?_
        refine AllReadyH.cons rfl (fun K hK => ?_) ?_
        · go_simp
          go_at_call 16
          refine (A2.out _ (G0.out.below hHeld.1.1.2)).mono ?_
          rintro e w12 ⟨rfl, hb4⟩
          have sz := hb4.size
          (try simp at sz)
          refine hK.out _ _ (hHeld.on hb4) (fun hHeld => ?_)
          clear hK K
          (try simp only [Act.put])
          refine wpAnyH_ready (rs := [5, 6]) (by kernel_rfl) (by simp) ?_
          refine AllReadyH.cons rfl (fun K hK => ?_) ?_
          · go_simp
            go_at_call 14
            refine (A3.out _ (G0.out.below hHeld.1.1.2)).mono ?_
            rintro e w13 ⟨rfl, hb5⟩
            have sz := hb5.size
            (try simp at sz)
            refine hK.out _ _ (hHeld.on hb5) (fun hHeld => ?_)
            clear hK K
            (try simp only [Act.put])
            refine wpAnyH_ready (rs := [6]) (by kernel_rfl) (by simp) ?_
            refine AllReadyH.cons rfl (fun K hK => ?_) AllReadyH.nil
            go_simp
            rw [← numC_nought]
            have l1 := hHeld.1.1.1.2.2
            have l2 := hHeld.1.2.1.lt
            have l3 := hHeld.1.2.2.2.2
            have l4 := hHeld.2.1.lt
            have l5 := hHeld.2.2.lt
            (try simp at l1)
            (try simp at l2)
            (try simp at l3)
            (try simp at l4)
            (try simp at l5)
            refine hK.out _ _ (hHeld.on (below_alloc _ _)) (fun hHeld => ?_)
            clear hK K
            (try simp only [Act.put])
            refine wpAnyH_ready (rs := [7]) (by kernel_rfl) (by simp) ?_
            refine AllReadyH.cons rfl (fun K hK => ?_) AllReadyH.nil
            rw [if_pos (by rfl)]
            refine wp_store_row 28 (.tmp 13) (.tmp 70) rfl _ (numC sR (dig mR)) rfl rfl 28 (numC false fun _ => 0) (show NumAt _ _ false (fun _ => 0) from by (repeat (first | ((with_reducible refine NumAt.new _ _ _ ?_); first | rfl | (simp; done)) | (with_reducible refine NumAt.whole (b := false) (f := fun _ => 0) ?_) | (with_reducible refine NumAt.wholeOther ?_ _ (by omega)) | (with_reducible refine NumAt.alloc ?_ _) | (with_reducible refine NumAt.drew ?_) | (with_reducible refine NumAt.on ?_ (by assumption))))) (infoN _ _) (by rw [numC_size, numC_size]) (numC_ok _ _) ?_
            refine hK.out _ _ (hHeld.row (by omega) (by omega) (by omega) (by omega) (by omega) _) (fun hHeld => ?_)
            clear hK K
            (try simp only [Act.put])
            refine wpAnyH_done (by kernel_rfl) ?_ _
            go_wp2_with fail
            go_meet
            refine ⟨_, rfl, ?_, hHeld⟩
            (repeat (first | ((with_reducible refine NumAt.new _ _ _ ?_); first | rfl | (simp; done)) | (with_reducible refine NumAt.whole (b := false) (f := fun _ => 0) ?_) | (with_reducible refine NumAt.wholeOther ?_ _ (by omega)) | (with_reducible refine NumAt.alloc ?_ _) | (with_reducible refine NumAt.drew ?_) | (with_reducible refine NumAt.on ?_ (by assumption))))
          refine AllReadyH.cons rfl (fun K hK => ?_) ?_
          · go_simp
            rw [← numC_nought]
            have l1 := hHeld.1.1.1.2.2
            have l2 := hHeld.1.2.1.lt
            have l3 := hHeld.1.2.2.2.2
            have l4 := hHeld.2.1.lt
            have l5 := hHeld.2.2.lt
            (try simp at l1)
            (try simp at l2)
            (try simp at l3)
            (try simp at l4)
            (try simp at l5)
            refine hK.out _ _ (hHeld.on (below_alloc _ _)) (fun hHeld => ?_)
            clear hK K
            (try simp only [Act.put])
            refine wpAnyH_ready (rs := [5]) (by kernel_rfl) (by simp) ?_
            refine AllReadyH.cons rfl (fun K hK => ?_) AllReadyH.nil
            go_simp
            go_at_call 14
            refine (A3.out _ (G0.out.below hHeld.1.1.2)).mono ?_
            rintro e w13 ⟨rfl, hb5⟩
            have sz := hb5.size
            (try simp at sz)
            refine hK.out _ _ (hHeld.on hb5) (fun hHeld => ?_)
            clear hK K
            (try simp only [Act.put])
            refine wpAnyH_ready (rs := [7]) (by kernel_rfl) (by simp) ?_
            refine AllReadyH.cons rfl (fun K hK => ?_) AllReadyH.nil
            rw [if_pos (by rfl)]
            refine wp_store_row 28 (.tmp 13) (.tmp 70) rfl _ (numC sR (dig mR)) rfl rfl 28 (numC false fun _ => 0) (show NumAt _ _ false (fun _ => 0) from by (repeat (first | ((with_reducible refine NumAt.new _ _ _ ?_); first | rfl | (simp; done)) | (with_reducible refine NumAt.whole (b := false) (f := fun _ => 0) ?_) | (with_reducible refine NumAt.wholeOther ?_ _ (by omega)) | (with_reducible refine NumAt.alloc ?_ _) | (with_reducible refine NumAt.drew ?_) | (with_reducible refine NumAt.on ?_ (by assumption))))) (infoN _ _) (by rw [numC_size, numC_size]) (numC_ok _ _) ?_
            refine hK.out _ _ (hHeld.row (by omega) (by omega) (by omega) (by omega) (by omega) _) (fun hHeld => ?_)
            clear hK K
            (try simp only [Act.put])
            refine wpAnyH_done (by kernel_rfl) ?_ _
            go_wp2_with fail
            go_meet
            refine ⟨_, rfl, ?_, hHeld⟩
            (repeat (first | ((with_reducible refine NumAt.new _ _ _ ?_); first | rfl | (simp; done)) | (with_reducible refine NumAt.whole (b := false) (f := fun _ => 0) ?_) | (with_reducible refine NumAt.wholeOther ?_ _ (by omega)) | (with_reducible refine NumAt.alloc ?_ _) | (with_reducible refine NumAt.drew ?_) | (with_reducible refine NumAt.on ?_ (by assumption))))
          exact AllReadyH.nil
        refine AllReadyH.cons rfl (fun K hK => ?_) ?_
        · go_simp
          rw [← numC_nought]
          have l1 := hHeld.1.1.1.2.2
          have l2 := hHeld.1.2.1.lt
          have l3 := hHeld.1.2.2.2.2
          have l4 := hHeld.2.1.lt
          have l5 := hHeld.2.2.lt
          (try simp at l1)
          (try simp at l2)
          (try simp at l3)
          (try simp at l4)
          (try simp at l5)
          refine hK.out _ _ (hHeld.on (below_alloc _ _)) (fun hHeld => ?_)
          clear hK K
          (try simp only [Act.put])
          refine wpAnyH_ready (rs := [4]) (by kernel_rfl) (by simp) ?_
          refine AllReadyH.cons rfl (fun K hK => ?_) AllReadyH.nil
          go_simp
          go_at_call 16
          refine (A2.out _ (G0.out.below hHeld.1.1.2)).mono ?_
          rintro e w12 ⟨rfl, hb4⟩
          have sz := hb4.size
          (try simp at sz)
          refine hK.out _ _ (hHeld.on hb4) (fun hHeld => ?_)
          clear hK K
          (try simp only [Act.put])
          refine wpAnyH_ready (rs := [5]) (by kernel_rfl) (by simp) ?_
          refine AllReadyH.cons rfl (fun K hK => ?_) AllReadyH.nil
          go_simp
          go_at_call 14
          refine (A3.out _ (G0.out.below hHeld.1.1.2)).mono ?_
          rintro e w13 ⟨rfl, hb5⟩
          have sz := hb5.size
          (try simp at sz)
          refine hK.out _ _ (hHeld.on hb5) (fun hHeld => ?_)
          clear hK K
          (try simp only [Act.put])
          refine wpAnyH_ready (rs := [7]) (by kernel_rfl) (by simp) ?_
          refine AllReadyH.cons rfl (fun K hK => ?_) AllReadyH.nil
          rw [if_pos (by rfl)]
          refine wp_store_row 28 (.tmp 13) (.tmp 70) rfl _ (numC sR (dig mR)) rfl rfl 28 (numC false fun _ => 0) (show NumAt _ _ false (fun _ => 0) from by (repeat (first | ((with_reducible refine NumAt.new _ _ _ ?_); first | rfl | (simp; done)) | (with_reducible refine NumAt.whole (b := false) (f := fun _ => 0) ?_) | (with_reducible refine NumAt.wholeOther ?_ _ (by omega)) | (with_reducible refine NumAt.alloc ?_ _) | (with_reducible refine NumAt.drew ?_) | (with_reducible refine NumAt.on ?_ (by assumption))))) (infoN _ _) (by rw [numC_size, numC_size]) (numC_ok _ _) ?_
          refine hK.out _ _ (hHeld.row (by omega) (by omega) (by omega) (by omega) (by omega) _) (fun hHeld => ?_)
          clear hK K
          (try simp only [Act.put])
          refine wpAnyH_done (by kernel_rfl) ?_ _
          go_wp2_with fail
          go_meet
          refine ⟨_, rfl, ?_, hHeld⟩
          (repeat (first | ((with_reducible refine NumAt.new _ _ _ ?_); first | rfl | (simp; done)) | (with_reducible refine NumAt.whole (b := false) (f := fun _ => 0) ?_) | (with_reducible refine NumAt.wholeOther ?_ _ (by omega)) | (with_reducible refine NumAt.alloc ?_ _) | (with_reducible refine NumAt.drew ?_) | (with_reducible refine NumAt.on ?_ (by assumption))))
        exact AllReadyH.nil
      refine AllReadyH.cons rfl (fun K hK => ?_) ?_
      · go_simp
        rw [← numC_nought]
        have l1 := hHeld.1.1.1.2.2
        have l2 := hHeld.1.2.1.lt
        have l3 := hHeld.1.2.2.2.2
        have l4 := hHeld.2.1.lt
        have l5 := hHeld.2.2.lt
        (try simp at l1)
        (try simp at l2)
        (try simp at l3)
        (try simp at l4)
        (try simp at l5)
        refine hK.out _ _ (hHeld.on (below_alloc _ _)) (fun hHeld => ?_)
        clear hK K
        (try simp only [Act.put])
        refine wpAnyH_ready (rs := [3]) (by kernel_rfl) (by simp) ?_
        refine AllReadyH.cons rfl (fun K hK => ?_) AllReadyH.nil
        go_simp
        go_at_call 22
        refine (A1.out _ (G0.out.below hHeld.1.1.2)).mono ?_
        rintro e w11 ⟨rfl, hb3⟩
        have sz := hb3.size
        (try simp at sz)
        refine hK.out _ _ (hHeld.on hb3) (fun hHeld => ?_)
        clear hK K
        (try simp only [Act.put])
        refine wpAnyH_ready (rs := [4]) (by kernel_rfl) (by simp) ?_
        refine AllReadyH.cons rfl (fun K hK => ?_) AllReadyH.nil
        go_simp
        go_at_call 16
        refine (A2.out _ (G0.out.below hHeld.1.1.2)).mono ?_
        rintro e w12 ⟨rfl, hb4⟩
        have sz := hb4.size
        (try simp at sz)
        refine hK.out _ _ (hHeld.on hb4) (fun hHeld => ?_)
        clear hK K
        (try simp only [Act.put])
        refine wpAnyH_ready (rs := [5]) (by kernel_rfl) (by simp) ?_
        refine AllReadyH.cons rfl (fun K hK => ?_) AllReadyH.nil
        go_simp
        go_at_call 14
        refine (A3.out _ (G0.out.below hHeld.1.1.2)).mono ?_
        rintro e w13 ⟨rfl, hb5⟩
        have sz := hb5.size
        (try simp at sz)
        refine hK.out _ _ (hHeld.on hb5) (fun hHeld => ?_)
        clear hK K
        (try simp only [Act.put])
        refine wpAnyH_ready (rs := [7]) (by kernel_rfl) (by simp) ?_
        refine AllReadyH.cons rfl (fun K hK => ?_) AllReadyH.nil
        rw [if_pos (by rfl)]
        refine wp_store_row 28 (.tmp 13) (.tmp 70) rfl _ (numC sR (dig mR)) rfl rfl 28 (numC false fun _ => 0) (show NumAt _ _ false (fun _ => 0) from by (repeat (first | ((with_reducible refine NumAt.new _ _ _ ?_); first | rfl | (simp; done)) | (with_reducible refine NumAt.whole (b := false) (f := fun _ => 0) ?_) | (with_reducible refine NumAt.wholeOther ?_ _ (by omega)) | (with_reducible refine NumAt.alloc ?_ _) | (with_reducible refine NumAt.drew ?_) | (with_reducible refine NumAt.on ?_ (by assumption))))) (infoN _ _) (by rw [numC_size, numC_size]) (numC_ok _ _) ?_
        refine hK.out _ _ (hHeld.row (by omega) (by omega) (by omega) (by omega) (by omega) _) (fun hHeld => ?_)
        clear hK K
        (try simp only [Act.put])
        refine wpAnyH_done (by kernel_rfl) ?_ _
        go_wp2_with fail
        go_meet
        refine ⟨_, rfl, ?_, hHeld⟩
        (repeat (first | ((with_reducible refine NumAt.new _ _ _ ?_); first | rfl | (simp; done)) | (with_reducible refine NumAt.whole (b := false) (f := fun _ => 0) ?_) | (with_reducible refine NumAt.wholeOther ?_ _ (by omega)) | (with_reducible refine NumAt.alloc ?_ _) | (with_reducible refine NumAt.drew ?_) | (with_reducible refine NumAt.on ?_ (by assumption))))
      exact AllReadyH.nil
    case rest =>
    obtain ⟨g, rfl, hR, hS⟩ := hcut
    obtain ⟨w9, rfl⟩ : ∃ v : World, v = wc := ⟨_, rfl⟩
    have S9 := Lib.hid hS
    have R9 := Lib.hid hR
    clear hS hR S8
    have GG := Lib.hid (G0.out.below S9.out.1.1.2)
    have BB := Lib.hid S9.out.1.1.2
    obtain ⟨u0, u1⟩ := S9.out.1.2.2.q
    go_upto_region 14 with fail
    refine wp_region_quiet_below (by kernel_rfl) (by kernel_rfl) ?_
    repeat (first
      | ((first | refine quiet_load_num (.tmp 12) rfl rfl f rfl _ _ S9.out.2.2.regrown ?_ | refine quiet_load_num (.tmp 13) rfl rfl g rfl _ _ R9.out.regrown ?_); (try simp only [Act.put, List.setIfInBounds_toArray, List.set_cons_zero, List.set_cons_succ]))
      | (go_big_quiet_step (first | (with_reducible exact (V1.out.quiet GG.out _ _)) | (with_reducible exact (V2.out.quiet GG.out _ _)) | (with_reducible exact (V3.out.quiet GG.out _ _)))))
    (refine wpQuiet_nil ?_; intro _ hw'; obtain ⟨⟨dq, osq⟩, hw''⟩ := hw'; subst hw'')
    go_wp2_with fail
    go_ret
    exact ⟨rfl, BB.out.trans ((below_quiet _ _).mono BB.out.size)⟩
end Go.Proofs.YtleccjahkphocaaDoor
