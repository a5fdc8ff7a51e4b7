/-
  Package octet's Get.
-/
import Derived.Test.YtjdnekkbmanmdaaDoorOctA
namespace Go.Proofs.YtjdnekkbmanmdaaDoor
open Go.RowKit Go.Sort
set_option maxRecDepth 8000
theorem or_byte (x c : Nat) (hx : x < 72057594037927936) (hc : c < 256) : bits .or .u64 ((x : Int) * 256) (c : Int) = ((256 * x + c : Nat) : Int) := by
  rw [show (x : Int) * 256 = ((x * 256 : Nat) : Int) by omega, u64_or_nat _ _ (by omega) (by omega), or_shiftB x c hc]
theorem getN_bd {l : List UInt8} {k : Nat} (hk : k < l.length) (h8 : l.length ≤ 8) : le (l.take k).reverse < 72057594037927936 := by
  have h := le_lt (l.take k).reverse
  rw [List.length_reverse, List.length_take, Nat.min_eq_left (by omega)] at h
  exact Nat.lt_of_lt_of_le h (Nat.pow_le_pow_right (by omega) (show k ≤ 7 by omega))
set_option maxHeartbeats 1000000 in
theorem t_get_yes (a : Option Addr) (l : List UInt8) (c : Nat) (b : Bool) (at_ many : Nat) (hc : l.length ≤ c) (h : at_ + many ≤ l.length) (h8 : many ≤ 8) (hz : l.length ≤ 140737488355328) (w : World) (hB : BytA w a l) :
    Calls Tryd.prog 25 #[.agg #[.slice a l.length c, .bool b], .int .i64 at_, .int .i64 many] w fun e w' =>
      e = .returned (.tuple #[.int .u64 (gv l b at_ many), .bool true]) ∧ Below w.heap.size w w' := by
  have HP := Lib.hid (hB.cut at_ many h)
  have HG := Lib.hid (show gv l b at_ many = le (ord b ((l.drop at_).take many)) by unfold gv gok; rw [if_pos (by simp; omega)]; simp)
  rw [HG.out]
  clear HG hB
  have PL := piece_length l at_ many h
  have C := Lib.hid (fun w => t_cut_yes a l.length c b at_ many hc h hz w)
  generalize (l.drop at_).take many = q at *
  generalize cutA a at_ many = a' at *
  generalize l.length = n at *
  obtain rfl := PL
  have n8 : decide ((8 : Int) < (q.length : Nat)) = false := by simp; omega
  go_enter Tryd.func25, Tryd.ntmps25
  go_upto_region 1 with fail
  go_upto_region 2 with (go_at_call 14; refine (C.out _).mono ?_; rintro e w1 ⟨rfl, hb⟩)
  have c0 : w1.cell? ⟨w.heap.size, 0, none⟩ = some (.slice a n c) := (hb.cell (p := ⟨w.heap.size, 0, none⟩) (by simp)).trans (World.cell?_alloc_at _ _ _ _ rfl)
  have c1 : w1.cell? ⟨w.heap.size, 1, none⟩ = some (.bool b) := (hb.cell (p := ⟨w.heap.size, 1, none⟩) (by simp)).trans (World.cell?_alloc_at _ _ _ _ rfl)
  have S := Lib.hid ((below_alloc w _).trans (hb.mono (by simp)))
  have HQ := Lib.hid (HP.out.on S.out)
  clear hb C HP
  go_wp2
  go_loop [10, 28] (fun v i => ∃ k : Nat, k ≤ q.length ∧ i = .int .i64 k ∧ v = .int .u64 (le (q.take k).reverse : Nat)) (fun _ i => q.length - (intOf i).toNat)
  case atStart => exact ⟨0, by omega, rfl, rfl⟩
  case round =>
    obtain ⟨k, hk, rfl, rfl⟩ := hrel
    by_cases hlt : k < q.length
    · rcases HQ.out with h0 | ⟨g, o, rfl, hg, hcell⟩
      · rw [h0] at hlt; exact absurd hlt (by simp)
      have c2 := hcell k hlt
      have hn : (q[k]).toNat < 256 := (q[k]).toNat_lt
      have bd := getN_bd hlt h8
      have E := Lib.hid (or_byte _ _ bd hn)
      have N := Lib.hid (show le (q.take (k + 1)).reverse = 256 * le (q.take k).reverse + (q[k]).toNat by rw [List.take_succ_eq_append_getElem hlt, le_rev_snoc])
      clear hcell
      generalize (q[k]).toNat = d at *
      generalize le (q.take k).reverse = x at *
      go_wp2
      go_round
      case rel => exact ⟨k + 1, by omega, by go_num, by rw [N.out, ← E.out]⟩
      case measure => simp [intOf]; omega
    · have E := Lib.hid (show q.take k = q by rw [List.take_of_length_le (by omega)])
      rw [E.out]
      have T := Lib.hid (show turnN b (le q.reverse) q.length = le (ord b q) from turn_get b q)
      have lt : le q.reverse < 18446744073709551616 := by
        have h := le_lt q.reverse
        rw [List.length_reverse] at h
        exact Nat.lt_of_lt_of_le h (Nat.pow_le_pow_right (by omega) h8)
      generalize le q.reverse = x at *
      go_wp2_with (go_at_call 21; refine (t_turn b a n c x q.length lt h8 _).mono ?_; rintro e w2 ⟨rfl, hb⟩)
      go_ret2
      exact ⟨by rw [← T.out]; rfl, S.out.trans (hb.mono S.out.size)⟩
set_option maxHeartbeats 1000000 in
theorem t_get_no (a : Option Addr) (l : List UInt8) (c : Nat) (b : Bool) (at_ many : Int) (hc : l.length ≤ c) (h : gok l.length at_ many = false) (ha : -9223372036854775808 ≤ at_ ∧ at_ ≤ 9223372036854775807) (hm : -9223372036854775808 ≤ many ∧ many ≤ 9223372036854775807) (hz : l.length ≤ 140737488355328) (w : World) :
    Calls Tryd.prog 25 #[.agg #[.slice a l.length c, .bool b], .int .i64 at_, .int .i64 many] w fun e w' =>
      e = .returned (.tuple #[.int .u64 (gv l b at_ many), .bool false]) ∧ Below w.heap.size w w' := by
  have HG := Lib.hid (show gv l b at_ many = 0 by unfold gv; rw [h]; rfl)
  rw [HG.out]
  have h := of_decide_eq_false h
  generalize l.length = n at *
  by_cases g : 0 ≤ at_ ∧ 0 ≤ many ∧ at_ + many ≤ n
  · obtain ⟨i, rfl⟩ := Int.eq_ofNat_of_zero_le g.1
    obtain ⟨m, rfl⟩ := Int.eq_ofNat_of_zero_le g.2.1
    have C := Lib.hid (fun w => t_cut_yes a n c b i m hc (by omega) hz w)
    have n8 : decide ((8 : Int) < (m : Nat)) = true := by simp; omega
    clear h g HG ha
    go_enter Tryd.func25, Tryd.ntmps25
    go_upto_region 2 with (go_at_call 14; refine (C.out _).mono ?_; rintro e w1 ⟨rfl, hb⟩)
    have S := Lib.hid ((below_alloc w _).trans (hb.mono (by simp)))
    clear hb C
    go_wp2
    go_ret2
    exact ⟨rfl, S.out⟩
  · have C := Lib.hid (fun w => t_cut_no a n c b at_ many g ha hm w)
    clear h g HG
    go_enter Tryd.func25, Tryd.ntmps25
    go_upto_region 2 with (go_at_call 14; refine (C.out _).mono ?_; rintro e w1 ⟨rfl, hb⟩)
    have S := Lib.hid ((below_alloc w _).trans (hb.mono (by simp)))
    clear hb C
    go_wp2
    go_ret2
    exact ⟨rfl, S.out⟩
/-- What Get answers, whatever is asked. -/
theorem t_get (a : Option Addr) (l : List UInt8) (c : Nat) (b : Bool) (at_ many : Int) (hc : l.length ≤ c) (ha : -9223372036854775808 ≤ at_ ∧ at_ ≤ 9223372036854775807) (hm : -9223372036854775808 ≤ many ∧ many ≤ 9223372036854775807) (hz : l.length ≤ 140737488355328) (w : World) (hB : BytA w a l) :
    Calls Tryd.prog 25 #[.agg #[.slice a l.length c, .bool b], .int .i64 at_, .int .i64 many] w fun e w' =>
      e = .returned (.tuple #[.int .u64 (gv l b at_ many), .bool (gok l.length at_ many)]) ∧ Below w.heap.size w w' := by
  cases h : gok l.length at_ many with
  | false => exact t_get_no a l c b at_ many hc h ha hm hz w
  | true =>
    have g := of_decide_eq_true h
    obtain ⟨i, rfl⟩ := Int.eq_ofNat_of_zero_le g.2.2.1
    obtain ⟨m, rfl⟩ := Int.eq_ofNat_of_zero_le g.1
    exact t_get_yes a l c b i m hc (by omega) (by omega) hz w hB
set_option maxHeartbeats 1000000 in
theorem t_u32 (a : Option Addr) (l : List UInt8) (c : Nat) (b : Bool) (at_ : Int) (hc : l.length ≤ c) (ha : -9223372036854775808 ≤ at_ ∧ at_ ≤ 9223372036854775807) (hz : l.length ≤ 140737488355328) (w : World) (hB : BytA w a l) :
    Calls Tryd.prog 13 #[.agg #[.slice a l.length c, .bool b], .int .i64 at_] w fun e w' => e = .returned (.int .u32 (gv l b at_ 4)) ∧ Below w.heap.size w w' := by
  have C := Lib.hid (fun w hB => t_get a l c b at_ 4 hc ha (by omega) hz w hB)
  have lt := gv_lt l b at_ 4
  generalize gv l b at_ 4 = x at *
  generalize gok l.length at_ 4 = y at *
  have lt : x < 4294967296 := lt
  have HB := Lib.hid (hB.on (below_alloc w (.cells #[.slice a l.length c, .bool b] 42)))
  clear hB
  generalize l.length = n at *
  go_enter Tryd.func13, Tryd.ntmps13
  go_wp2_with (go_at_call 25; refine (C.out _ HB.out).mono ?_; rintro e w1 ⟨rfl, hb⟩)
  go_ret
  exact ⟨rfl, (below_alloc w _).trans (hb.mono (by simp))⟩
end Go.Proofs.YtjdnekkbmanmdaaDoor
