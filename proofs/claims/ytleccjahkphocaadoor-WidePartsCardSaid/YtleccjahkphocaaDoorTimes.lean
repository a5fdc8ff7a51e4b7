/-
  WideTimes, walked.
-/
import Derived.Test.YtleccjahkphocaaDoorRefO
namespace Go.Proofs.YtleccjahkphocaaDoor
open Go.RowKit Go.Sort
theorem absN_mul (m k : Int) : vz (bne (pair0 m) (pair0 k)) (absN m * absN k) = m * k := by
  unfold vz pair0 absN
  by_cases h : m < 0 <;> by_cases h' : k < 0 <;> simp [h, h', Int.neg_mul, Int.mul_neg]
theorem absN_mul1 (m k : Int) : vz (pair0 m) (absN m * k) = m * k := by
  unfold vz pair0 absN
  by_cases h : m < 0 <;> simp [h, Int.neg_mul]
theorem prod_sz {a b : Int} (ha : 0 ≤ a ∧ a ≤ 170141183460469231731687303715884105728) (hb : 0 ≤ b ∧ b ≤ 18446744073709551616) : 0 ≤ a * b ∧ a * b < 65536 ^ 20 := by
  have := Int.mul_le_mul ha.2 hb.2 hb.1 (by omega)
  exact ⟨Int.mul_nonneg ha.1 hb.1, by omega⟩
/-- What stands through the number's making. -/
def TimeS (w : World) (x : Int) (W' : World) : Prop := At W' w.heap.size x ∧ Below w.heap.size w W'
theorem TimeS.on {w W W' : World} {x : Int} (h : TimeS w x W) (hb : Below W.heap.size W W') : TimeS w x W' := ⟨h.1.below hb, h.2.trans (hb.mono h.2.size)⟩
theorem TimeS.row {w W : World} {x : Int} (h : TimeS w x W) {g : Nat} (hg : w.heap.size < g) (cs : Array Value) : TimeS w x (W.setRow g cs) := ⟨h.1.row (by omega) _, Below.setRow' h.2 (by omega) _⟩
set_option maxHeartbeats 8000000 in
set_option maxRecDepth 100000 in
theorem wideTimes_any (x m k n : Int) (hx : In x) (hm : -9223372036854775808 ≤ m ∧ m ≤ 9223372036854775807) (hk : -9223372036854775808 ≤ k ∧ k ≤ 9223372036854775807) (hn : 0 ≤ n ∧ n ≤ 4294967295) (w : World) (hg : Glob w) :
    Calls Tryd.prog 4 #[.agg #[.int .i64 (hiOf x), .int .u64 (loOf x)], .int .i64 m, .int .i64 k, .int .u32 n] w
      fun e w' => e = .returned (.bool true) ∧ Below w.heap.size w w' := by
  have ax := absN_wide hx
  have am := absN_bd hm
  have ak := absN_bd hk
  have s1 := prod_sz (a := absN m) (b := absN k) ⟨am.1, by omega⟩ ⟨ak.1, by omega⟩
  have s2 := prod_sz (a := absN x) (b := n) ax ⟨hn.1, by omega⟩
  have s3 := fl_bd hx (show (0 : Int) < 2 by omega)
  have n0 := hn.1
  have n1 := hn.2
  have cv : IntKind.u64.wrap n = n := by rw [IntKind.wrap_u64]; omega
  have G0 := Lib.hid hg
  have K := Lib.hid g_known
  have F1 := Lib.hid (r_from x hx)
  have P1 := Lib.hid (g_mul m k hm hk)
  have P2 := Lib.hid (r_of m hm)
  have P3 := Lib.hid (r_of k hk)
  have P4 := Lib.hid (r_mul (pair0 m) (pair0 k) (absN m) (absN k) ⟨am.1, by omega⟩ ⟨ak.1, by omega⟩ s1.2)
  have P5 := Lib.hid (r_wide (bne (pair0 m) (pair0 k)) (absN m * absN k) (m * k) ⟨s1.1, s1.2⟩ (absN_mul m k))
  have P6 := Lib.hid (g_scale x n hx hn)
  have P7 := Lib.hid (r_num n hn.1 (by omega))
  have P8 := Lib.hid ((r_mul (pair0 x) false (absN x) n ⟨ax.1, by omega⟩ ⟨hn.1, by omega⟩ s2.2).as rfl (v' := .agg (numC (pair0 x) (dig (absN x * n)))) (by simp))
  have P9 := Lib.hid (r_wide (pair0 x) (absN x * n) (x * n) ⟨s2.1, s2.2⟩ (absN_mul1 x n))
  have P10 := Lib.hid (g_half x)
  have P11 := Lib.hid ((r_of 2 (by omega)).as rfl (v' := .agg (numC false (dig 2))) rfl)
  have P12 := Lib.hid (r_floor x 2 hx ⟨by omega, by omega⟩)
  have P13 := Lib.hid ((r_wide (pair0 x) (fl x 2) (x / 2) ⟨s3.1, by omega⟩ s3.2.2).as rfl (v' := .agg #[.int .i64 (hiOf (x / 2)), .int .u64 (loOf (x / 2))]) (by rw [sat_id (by unfold In at *; omega)]))
  have C0 : Hid (TimeS w x (w.alloc (.cells #[.int .i64 (hiOf x), .int .u64 (loOf x)] 24))) := Lib.hid ⟨At.new _ x _ rfl rfl rfl, by (repeat (first | (with_reducible exact Below.refl _ _) | (with_reducible assumption) | (with_reducible refine Below.drew ?_) | (with_reducible refine below_drewN ?_ _) | ((with_reducible refine Below.alloc ?_ ?_ _); rotate_left; (focus (first | (simp; done) | (simp; omega) | omega))) | ((with_reducible refine Below.setCell ?_ ?_ _); rotate_left; (focus (first | (simp; done) | (simp; omega) | omega))) | ((with_reducible refine Below.trans ?_ (Below.mono (by assumption) ?_)); rotate_left; (focus (first | (simp; done) | (simp; omega) | omega)))))⟩
  clear hx hm hk hn hg ax am ak s1 s2 s3
  go_enter Tryd.func4, Tryd.ntmps4
  go_upto_region 1 with fail
  generalize w.alloc (.cells #[.int .i64 (hiOf x), .int .u64 (loOf x)] 24) = w0 at *
  go_upto_region 3 with (go_at_call 8; refine (K.out _ (G0.out.below C0.out.2)).mono ?_; rintro e w1 ⟨rfl, hb⟩; have C1 := Lib.hid (C0.out.on hb); clear hb C0)
  go_cut [9] from 12 to 14 (fun v wr => ∃ p, v = .pointer (some ⟨p, 0, none⟩) ∧ NumAt wr p (pair0 x) (dig (absN x)) ∧ TimeS w x wr)
  case first =>
    obtain ⟨a0, a1, _⟩ := C1.out.1
    go_wp2_with (first
      | (go_at_call 9; refine (F1.out _ (G0.out.below C1.out.2)).mono ?_; rintro e w2 ⟨rfl, hb⟩; have C2 := Lib.hid (C1.out.on hb); clear hb)
      | (refine store_num rfl (.tmp 9) (.tmp 13) rfl w2.heap.size rfl _ _ rfl false (fun _ => 0) (NumAt.new w2 false (fun _ => 0) rfl) ?_))
    go_meet
    exact ⟨w2.heap.size, rfl, (NumAt.new w2 false (fun _ => 0) rfl).whole, (C2.out.on (below_alloc _ _)).row C2.out.1.2.2 _⟩
  case rest =>
  obtain ⟨p, rfl, hP, hS⟩ := hcut
  obtain ⟨w4, rfl⟩ : ∃ v : World, v = wc := ⟨_, rfl⟩
  have X4 := Lib.hid hP
  have S4 := Lib.hid hS
  clear hP hS C1
  have GG := Lib.hid (G0.out.below S4.out.2)
  have BB := Lib.hid S4.out.2
  obtain ⟨a0, a1⟩ := S4.out.1.q
  go_upto_region 4 with fail
  refine wp_region_quiet_below (by kernel_rfl) (by kernel_rfl) ?_
  repeat (first
    | ((refine quiet_load_num (.tmp 9) rfl rfl p rfl _ _ X4.out.regrown ?_); (try simp only [Act.put, List.setIfInBounds_toArray, List.set_cons_zero, List.set_cons_succ]))
    | (go_big_quiet_step (first | (with_reducible exact (P1.out.quiet GG.out _ _)) | (with_reducible exact (P2.out.quiet GG.out _ _)) | (with_reducible exact (P3.out.quiet GG.out _ _)) | (with_reducible exact (P4.out.quiet GG.out _ _)) | (with_reducible exact (P5.out.quiet GG.out _ _)) | (with_reducible exact (P6.out.quiet GG.out _ _)) | (with_reducible exact (P7.out.quiet GG.out _ _)) | (with_reducible exact (P8.out.quiet GG.out _ _)) | (with_reducible exact (P9.out.quiet GG.out _ _)) | (with_reducible exact (P10.out.quiet GG.out _ _)) | (with_reducible exact (P11.out.quiet GG.out _ _)) | (with_reducible exact (P12.out.quiet GG.out _ _)) | (with_reducible exact (P13.out.quiet GG.out _ _)))))
  (refine wpQuiet_nil ?_; intro _ hw'; obtain ⟨⟨dq, osq⟩, hw''⟩ := hw'; subst hw'')
  go_wp2_with fail
  go_ret
  exact ⟨rfl, BB.out.trans ((below_quiet _ _).mono BB.out.size)⟩
end Go.Proofs.YtleccjahkphocaaDoor
