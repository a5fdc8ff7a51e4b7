/-
  The document's answers of layer 7: Get, Put, Sum (horologeref07).
-/
import Derived.Test.YtjdnekkbmanmdaaOctB
import Derived.Test.YtjdnekkbmanmdaaOctE
import Derived.OwnWalk
import Derived.Laws.OwnMore
namespace Go.Proofs.Ytjdnekkbmanmdaa
open Go.RowKit Go.Sort
set_option maxRecDepth 8000
theorem pow8 {i : Nat} (h : i ≤ 7) : 256 ^ i ≤ 72057594037927936 := Nat.pow_le_pow_right (by omega) h
theorem ref_sum (N P x : Nat) (hP : P ≤ 72057594037927936) (hN : N < P) (hx : x < 256) : IntKind.u64.wrap ((N : Int) + IntKind.u64.wrap ((x : Int) * (P : Int))) = ((N + P * x : Nat) : Int) := by
  have h : P * x ≤ 72057594037927936 * 255 := Nat.mul_le_mul hP (by omega)
  have h2 : P * x + P ≤ 72057594037927936 * 256 := by
    have : P * (x + 1) ≤ 72057594037927936 * 256 := Nat.mul_le_mul hP (by omega)
    rw [Nat.mul_add] at this; omega
  rw [show (x : Int) * (P : Int) = ((P * x : Nat) : Int) by rw [Int.natCast_mul, Int.mul_comm], wrap_small _ (by omega), show (N : Int) + ((P * x : Nat) : Int) = ((N + P * x : Nat) : Int) by omega, wrap_small _ (by omega)]
theorem ref_worth (i : Nat) : IntKind.u64.wrap (256 * ((256 ^ i : Nat) : Int)) = ((256 ^ (i + 1) % 18446744073709551616 : Nat) : Int) := by
  rw [IntKind.wrap_u64, Nat.pow_succ]; omega
theorem ord_get_l (l : List UInt8) (at_ many i : Nat) (h : at_ + many ≤ l.length) (hi : i < many) : (ord true ((l.drop at_).take many))[i]'(by rw [ord_length, piece_length _ _ _ h]; exact hi) = l[at_ + i] := by
  simp [ord]
theorem ord_get_b (l : List UInt8) (at_ many i : Nat) (h : at_ + many ≤ l.length) (hi : i < many) : (ord false ((l.drop at_).take many))[i]'(by rw [ord_length, piece_length _ _ _ h]; exact hi) = l[at_ + many - 1 - i] := by
  have e : (l.drop at_).length - many = (l.drop at_).length - many := rfl
  simp only [ord, Bool.false_eq_true, if_false, List.getElem_reverse, piece_length _ _ _ h, List.getElem_take, List.getElem_drop]
  congr 1; omega
set_option maxHeartbeats 2000000 in
theorem r_get_yes (a : Option Addr) (l : List UInt8) (c : Nat) (b : Bool) (at_ many : Nat) (h : at_ + many ≤ l.length) (h8 : many ≤ 8) (hz : l.length ≤ 140737488355328) (w : World) (hB : BytA w a l) :
    Calls Try.prog 28 #[.slice a l.length c, .bool b, .int .i64 at_, .int .i64 many] w fun e w' => e = .returned (.tuple #[.int .u64 (gv l b at_ many), .bool true]) ∧ w = w' := by
  have HG := Lib.hid (show gv l b at_ many = le (ord b ((l.drop at_).take many)) by unfold gv gok; rw [if_pos (by simp; omega)]; simp)
  rw [HG.out]
  clear HG
  have HB := Lib.hid hB
  clear hB
  have PL := Lib.hid (show (ord b ((l.drop at_).take many)).length = many by rw [ord_length, piece_length l at_ many h])
  have GL := Lib.hid (ord_get_l l at_ many)
  have GB := Lib.hid (ord_get_b l at_ many)
  have k1 : decide ((many : Int) < 0) = false := by simp
  have k2 : decide ((8 : Int) < (many : Nat)) = false := by simp; omega
  have k3 : decide ((at_ : Int) < 0) = false := by simp
  have k4 : decide (l.length < at_) = false := by simp; omega
  have k5 : decide ((l.length : Int) - at_ < many) = false := by simp; omega
  obtain ⟨q, hq⟩ : ∃ q, q = ord b ((l.drop at_).take many) := ⟨_, rfl⟩
  have HQ := Lib.hid hq
  rw [← hq] at PL ⊢
  clear hq
  go_enter Try.func28, Try.ntmps28
  go_wp2
  go_loop [10, 11, 12] (fun n p i => ∃ k : Nat, k ≤ many ∧ i = .int .i64 k ∧ n = .int .u64 (le (q.take k) : Nat) ∧ p = .int .u64 (256 ^ k % 18446744073709551616 : Nat)) (fun _ _ i => many - (intOf i).toNat)
  case atStart => exact ⟨0, by omega, rfl, rfl, rfl⟩
  case round =>
    obtain ⟨k, hk, rfl, rfl, rfl⟩ := hrel
    by_cases hlt : k < many
    · rcases HB.out with h0 | ⟨g, o, rfl, hg, hcell⟩
      · exfalso; rw [h0, List.length_nil] at h; omega
      have ql : k < q.length := by rw [PL.out]; exact hlt
      have LT := Lib.hid (le_take_succ q k ql)
      have hx : (q[k]).toNat < 256 := (q[k]).toNat_lt
      have hP := pow8 (show k ≤ 7 by omega)
      have hN : le (q.take k) < 256 ^ k := by
        have := le_lt (q.take k)
        rwa [List.length_take, Nat.min_eq_left (by omega)] at this
      have M := Lib.hid (ref_sum _ _ _ hP hN hx)
      have WO := Lib.hid (ref_worth k)
      rw [Nat.mod_eq_of_lt (show 256 ^ k < 18446744073709551616 by omega)]
      cases b
      · have e : q[k] = l[at_ + many - 1 - k]'(by omega) := by
          have := GB.out k h hlt
          rw [← this]; congr 1
        have c0 := hcell (at_ + many - 1 - k) (by omega)
        rw [← e] at c0
        have bi : ((at_ : Int) + many - 1 - k).toNat = at_ + many - 1 - k := by omega
        clear hcell e
        generalize (q[k]).toNat = x at *
        generalize le (q.take k) = N at *
        generalize 256 ^ k = P at *
        go_wp2
        go_round
        case rel => exact ⟨k + 1, by omega, by go_num, by rw [M.out, LT.out], by rw [WO.out]⟩
        case measure => simp [intOf]; omega
      · have e : q[k] = l[at_ + k]'(by omega) := by
          have := GL.out k h hlt
          rw [← this]; congr 1
        have c0 := hcell (at_ + k) (by omega)
        rw [← e] at c0
        have bi : ((at_ : Int) + k).toNat = at_ + k := by omega
        clear hcell e
        generalize (q[k]).toNat = x at *
        generalize le (q.take k) = N at *
        generalize 256 ^ k = P at *
        go_wp2
        go_round
        case rel => exact ⟨k + 1, by omega, by go_num, by rw [M.out, LT.out], by rw [WO.out]⟩
        case measure => simp [intOf]; omega
    · have E := Lib.hid (show q.take k = q by rw [List.take_of_length_le (by rw [PL.out]; omega)])
      rw [E.out]
      go_wp2
      go_ret2
      exact ⟨rfl, rfl⟩
set_option maxHeartbeats 1000000 in
theorem r_get_no (a : Option Addr) (l : List UInt8) (c : Nat) (b : Bool) (at_ many : Int) (h : gok l.length at_ many = false) (ha : -9223372036854775808 ≤ at_ ∧ at_ ≤ 9223372036854775807) (hm : -9223372036854775808 ≤ many ∧ many ≤ 9223372036854775807) (hz : l.length ≤ 140737488355328) (w : World) :
    Calls Try.prog 28 #[.slice a l.length c, .bool b, .int .i64 at_, .int .i64 many] w fun e w' => e = .returned (.tuple #[.int .u64 (gv l b at_ many), .bool false]) ∧ w = w' := by
  have HG := Lib.hid (show gv l b at_ many = 0 by unfold gv; rw [h]; rfl)
  rw [HG.out]
  have h := of_decide_eq_false h
  generalize l.length = n at *
  rcases (show many < 0 ∨ (0 ≤ many ∧ 8 < many) ∨ (0 ≤ many ∧ many ≤ 8 ∧ at_ < 0) ∨ (0 ≤ many ∧ many ≤ 8 ∧ 0 ≤ at_ ∧ (n : Int) < at_) ∨ (0 ≤ many ∧ many ≤ 8 ∧ 0 ≤ at_ ∧ at_ ≤ n ∧ (n : Int) - at_ < many) by omega) with g | ⟨g1, g2⟩ | ⟨g1, g2, g3⟩ | ⟨g1, g2, g3, g4⟩ | ⟨g1, g2, g3, g4, g5⟩
  all_goals
    clear h
    go_enter Try.func28, Try.ntmps28
    go_wp2
    go_ret2
    exact ⟨rfl, rfl⟩
/-- The document's Get. -/
theorem r_get (a : Option Addr) (l : List UInt8) (c : Nat) (b : Bool) (at_ many : Int) (ha : -9223372036854775808 ≤ at_ ∧ at_ ≤ 9223372036854775807) (hm : -9223372036854775808 ≤ many ∧ many ≤ 9223372036854775807) (hz : l.length ≤ 140737488355328) (w : World) (hB : BytA w a l) :
    Calls Try.prog 28 #[.slice a l.length c, .bool b, .int .i64 at_, .int .i64 many] w fun e w' => e = .returned (.tuple #[.int .u64 (gv l b at_ many), .bool (gok l.length at_ many)]) ∧ w = w' := by
  cases h : gok l.length at_ many with
  | false => exact r_get_no a l c b at_ many h ha hm hz w
  | true =>
    have g := of_decide_eq_true h
    obtain ⟨i, rfl⟩ := Int.eq_ofNat_of_zero_le g.2.2.1
    obtain ⟨m, rfl⟩ := Int.eq_ofNat_of_zero_le g.1
    exact r_get_yes a l c b i m (by omega) (by omega) hz w hB
/-! ### Put -/
theorem run_make_all (w : World) (n : Nat) (hc : n ≤ 140737488355328) :
    (Instr.makeSlice 22 (.int .i64 (n : Int)) (.int .i64 (n : Int))).run Try.prog w = .ok (.slice (some ⟨w.heap.size, 0, none⟩) n n) (w.alloc (.cells (cellsOf (List.replicate n 0)).toArray 5)) := by
  obtain ⟨i0, hi, hz0, hz1, hz2⟩ := info_parts info_byte
  have hr := run_make (P := Try.prog) w 22 5 i0 (.int .u8 0) Try.underlying22 hi hz0 .i64 .i64 n n (by omega) (by omega) (by rw [hz2]; omega) (by omega)
  simp only [Int.toNat_natCast, hz1, Nat.mul_one] at hr
  rw [hr, show cellsOf (List.replicate n 0) = List.replicate n (.int .u8 0) by simp [cellsOf], ← toList_madeCells_one]
  rfl
def fill (n many k : Nat) : List UInt8 := lowB n k ++ List.replicate (many - k) 0
theorem fill_length (n many k : Nat) (h : k ≤ many) : (fill n many k).length = many := by simp [fill, low_length]; omega
theorem fill_succ (n many k : Nat) (h : k < many) : (fill n many k).set k (UInt8.ofNat (n / 256 ^ k)) = fill n many (k + 1) := by
  unfold fill
  rw [List.set_append_right _ _ (by rw [low_length]; exact Nat.le_refl _), low_length, Nat.sub_self, lowB_succ, show many - k = (many - (k + 1)) + 1 by omega, List.replicate_succ, List.set_cons_zero, List.append_assoc]
  rfl
theorem fill_rev (n many k : Nat) (h : k < many) : (fill n many k).reverse.set (many - 1 - k) (UInt8.ofNat (n / 256 ^ k)) = (fill n many (k + 1)).reverse := by
  rw [← fill_succ n many k h]
  apply List.ext_getElem
  · simp
  · intro j h1 h2
    simp only [List.length_set, List.length_reverse, fill_length n many k (by omega)] at h1
    rw [List.getElem_set, List.getElem_reverse, List.getElem_reverse, List.getElem_set]
    simp only [List.length_set, fill_length n many k (by omega)]
    by_cases e : many - 1 - k = j
    · rw [if_pos e, if_pos (by omega)]
    · rw [if_neg e, if_neg (by omega)]
theorem fill_end (n many : Nat) : fill n many many = lowB n many := by simp [fill]
def RPutOut (w : World) (l : List UInt8) (e : Ending) (w' : World) : Prop := ∃ v, e = .returned v ∧ Byt w' v l ∧ Below w.heap.size w w'
/-- .. and where it lies. -/
def RPutG (w : World) (l : List UInt8) (k : Nat) (e : Ending) (w' : World) : Prop := ∃ g, e = .returned (.slice (some ⟨g, 0, none⟩) k k) ∧ RowB w' g l ∧ w.heap.size ≤ g ∧ Below w.heap.size w w'
set_option maxHeartbeats 2000000 in
theorem r_putG (n : Nat) (b : Bool) (many : Nat) (h8 : many ≤ 8) (hn : n < 18446744073709551616) (w : World) :
    Calls Try.prog 22 #[.int .u64 n, .bool b, .int .i64 many] w (RPutG w (ord b (lowB n many)) many) := by
  have MK := Lib.hid (fun w => run_make_all w many (by omega))
  go_enter Try.func22, Try.ntmps22
  go_upto_region 1 with fail
  have mk := MK.out
  go_upto_region 2 with fail
  clear mk MK
  have R0 := Lib.hid (show RowB (w.alloc (.cells (cellsOf (List.replicate many 0)).toArray 5)) w.heap.size (ord b (fill n many 0)) by
    have e : ord b (fill n many 0) = List.replicate many 0 := by cases b <;> simp [ord, fill, lowB]
    rw [e]; exact row_new _ _ rfl)
  have S0 := Lib.hid (below_alloc w (.cells (cellsOf (List.replicate many 0)).toArray 5))
  go_wp2
  obtain ⟨g, hg⟩ : ∃ g, g = w.heap.size := ⟨_, rfl⟩
  have HG := Lib.hid hg
  rw [← hg] at R0 ⊢
  clear hg
  go_loopw [0, 8] (fun nv iv wr => ∃ k : Nat, k ≤ many ∧ iv = .int .i64 k ∧ nv = .int .u64 (n / 256 ^ k : Nat) ∧ Hid (RowB wr g (ord b (fill n many k))) ∧ Hid (Below w.heap.size w wr)) (fun _ iv _ => many - (intOf iv).toNat)
  case atStart => exact ⟨0, by omega, rfl, by simp, R0, S0⟩
  case round =>
    clear R0 S0
    obtain ⟨k, hk, rfl, rfl, R, S⟩ := hrel
    by_cases hlt : k < many
    · have hd : n / 256 ^ k < 18446744073709551616 := Nat.lt_of_le_of_lt (Nat.div_le_self _ _) hn
      have NX := Lib.hid (show n / 256 ^ (k + 1) = n / 256 ^ k / 256 by rw [Nat.pow_succ, Nat.div_div_eq_div_mul])
      have FS := Lib.hid (fill_succ n many k hlt)
      have FR := Lib.hid (fill_rev n many k hlt)
      have FL := Lib.hid (fill_length n many k hk)
      generalize n / 256 ^ k = m at *
      cases b
      · have c0 := R.out.cell (j := many - 1 - k) (by rw [ord_length, FL.out]; omega)
        have f0 := R.out.free (many - 1 - k)
        have bi : ((many : Int) - 1 - k).toNat = many - 1 - k := by omega
        generalize ((ord false (fill n many k))[many - 1 - k]'(by rw [ord_length, FL.out]; omega)).toNat = z at *
        go_wp2
        have PB := Lib.hid (R.out.put (many - 1 - k) (UInt8.ofNat m))
        rw [show ((UInt8.ofNat m).toNat : Int) = (m : Int) % 256 by rw [UInt8.toNat_ofNat']; omega] at PB
        go_roundw
        case rel => exact ⟨k + 1, by omega, by go_num, by rw [NX.out]; rfl, (show RowB _ g ((fill n many (k + 1)).reverse) by rw [← FR.out]; exact PB.out), S.out.setCell (by rw [HG.out]; exact Nat.le_refl _) _⟩
        case measure => simp [intOf]; omega
      · have c0 := R.out.cell (j := k) (by rw [ord_length, FL.out]; omega)
        have f0 := R.out.free k
        generalize ((ord true (fill n many k))[k]'(by rw [ord_length, FL.out]; omega)).toNat = z at *
        go_wp2
        have PB := Lib.hid (R.out.put k (UInt8.ofNat m))
        rw [show ((UInt8.ofNat m).toNat : Int) = (m : Int) % 256 by rw [UInt8.toNat_ofNat']; omega] at PB
        go_roundw
        case rel => exact ⟨k + 1, by omega, by go_num, by rw [NX.out]; rfl, (show RowB _ g (fill n many (k + 1)) by rw [← FS.out]; exact PB.out), S.out.setCell (by rw [HG.out]; exact Nat.le_refl _) _⟩
        case measure => simp [intOf]; omega
    · obtain rfl : k = many := by omega
      have R := Lib.hid R.out
      rw [fill_end] at R
      go_wp2
      go_ret
      exact ⟨g, rfl, R.out, Nat.le_of_eq HG.out.symm, S.out⟩
theorem r_put (n : Nat) (b : Bool) (many : Nat) (h8 : many ≤ 8) (hn : n < 18446744073709551616) (w : World) :
    Calls Try.prog 22 #[.int .u64 n, .bool b, .int .i64 many] w (RPutOut w (ord b (lowB n many))) := by
  refine (r_putG n b many h8 hn w).mono ?_
  rintro e w' ⟨g, rfl, hR, _, hb⟩
  exact ⟨_, rfl, hR.byt (n := many) (c := many) (by rw [ord_length, low_length]) (Nat.le_refl _), hb⟩
/-! ### Sum -/
theorem ws_mod_step (s n : Nat) : (s % 65535 + n) % 65535 = (s + n) % 65535 := by omega
theorem par_even (l : List UInt8) : par true l = decide (l.length % 2 = 0) := by
  unfold par
  rcases Nat.mod_two_eq_zero_or_one l.length with e | e
  · rw [if_pos e]; simp [e]
  · rw [if_neg (by omega)]; simp [e]
end Go.Proofs.Ytjdnekkbmanmdaa
