/-
  PROVED HERE (the walk): the statement OctetBack: what is put is got as it was; with the other end first its bytes are turned; a row's checksum behind it, at an even place, makes that of all 0; in whatever order pairs stand it is one.
-/
import Derived.Test.YtldgfaoiepnemaaOKnown7
import Derived.Test.YtldgfaoiepnemaaORef7
import Derived.Test.YtldgfaoiepnemaaOctD
import Derived.Test.YtldgfaoiepnemaaOctF
import Derived.Test.YtldgfaoiepnemaaQuiet
namespace Go.Proofs.Ytldgfaoiepnemaa
open Go.RowKit Go.Sort
set_option maxRecDepth 100000
def fives : List Int := [0, 1, 2, 4, 8]
theorem fives_at (k : Nat) (h : k < fives.length) : ∃ m : Nat, fives[k] = (m : Int) ∧ m ≤ 8 := by
  match k, h with
  | 0, _ => exact ⟨0, rfl, by omega⟩
  | 1, _ => exact ⟨1, rfl, by omega⟩
  | 2, _ => exact ⟨2, rfl, by omega⟩
  | 3, _ => exact ⟨4, rfl, by omega⟩
  | 4, _ => exact ⟨8, rfl, by omega⟩
  | k + 5, h => simp [fives] at h; omega
theorem mask_fin : ∀ m : Fin 9, IntKind.u64.wrap (IntKind.u64.wrap (2 ^ (8 * m.val)) - 1) = ((2 ^ (8 * m.val) - 1 : Nat) : Int) := by decide +kernel
theorem low_mask (n k : Nat) (hn : n < 18446744073709551616) (hk : k ≤ 64) : bits .and .u64 (n : Int) ((2 ^ k - 1 : Nat) : Int) = ((n % 2 ^ k : Nat) : Int) := by
  have h : 2 ^ k ≤ 2 ^ 64 := Nat.pow_le_pow_right (by omega) hk
  have h' : 2 ^ k - 1 < 18446744073709551616 := by
    have : (2 : Nat) ^ 64 = 18446744073709551616 := by decide +kernel
    rw [this] at h
    have := Nat.pow_pos (n := k) (show 0 < 2 by omega)
    omega
  rw [u64_and_nat n _ hn h', Nat.and_two_pow_sub_one_eq_mod]
theorem want_eq (n m : Nat) (hn : n < 18446744073709551616) (hm : m ≤ 8) : bits .and .u64 (n : Int) (IntKind.u64.wrap (IntKind.u64.wrap (2 ^ (8 * m)) - 1)) = ((n % 256 ^ m : Nat) : Int) := by
  have e : (256 : Nat) ^ m = 2 ^ (8 * m) := by rw [Nat.pow_mul]
  rw [e, ← low_mask n (8 * m) hn (by omega)]
  have := mask_fin ⟨m, by omega⟩
  simp only at this
  rw [this]
theorem whole_eq (n : Nat) (hn : n < 18446744073709551616) : n % 256 ^ 8 = n := Nat.mod_eq_of_lt hn
theorem addr_zero (a : Addr) : a.add 0 = a := by unfold Addr.add; simp
theorem sizeU8 (w : World) : (sizeOf (Try.prog.elem 22)).run Try.prog w = .ok 1 w := by kernel_rfl
theorem run_to (w : World) (a : Option Addr) (n c A : Nat) (h : A ≤ c) : (Instr.slice 22 (.slice a n c) none (some (.int .i64 (A : Int))) none).run Try.prog w = .ok (.slice a A c) w := by
  rw [run_slice_h (P := Try.prog) w 22 a n c Try.underlying22 .i64 A (by omega) (by omega), sizeU8]
  simp only [Result.andThen, sliced, Nat.zero_mul, Int.toNat_natCast, Nat.sub_zero]
  have : a.map (·.add 0) = a := by cases a <;> simp [addr_zero]
  rw [this]; simp
theorem run_from (w : World) (a : Option Addr) (n c A : Nat) (h : A ≤ n) : (Instr.slice 22 (.slice a n c) (some (.int .i64 (A : Int))) none none).run Try.prog w = .ok (.slice (if c = A then a else a.map (·.add A)) (n - A) (c - A)) w := by
  rw [run_slice_l (P := Try.prog) w 22 a n c Try.underlying22 .i64 A (by omega) (by omega), sizeU8]
  simp only [Result.andThen, sliced, Nat.mul_one, Int.toNat_natCast]
theorem BytA.first {w : World} {a : Option Addr} {l : List UInt8} (h : BytA w a l) (k : Nat) : BytA w a (l.take k) := by
  rcases h with rfl | ⟨b, o, e, hb, hc⟩
  · left; simp
  · right
    refine ⟨b, o, e, hb, fun j hj => ?_⟩
    rw [List.length_take] at hj
    rw [hc j (by omega), List.getElem_take]
theorem two_bytes (w : World) (s : Nat) (hs : s ≤ 65535) : RowB (w.alloc (.cells #[.int .u8 ((s : Int) / 256), .int .u8 ((s : Int) % 256)] 5)) w.heap.size [UInt8.ofNat (s / 256), UInt8.ofNat (s % 256)] := by
  refine RowB.new w _ ?_
  have e1 : ((UInt8.ofNat (s / 256)).toNat : Int) = (s : Int) / 256 := by rw [UInt8.toNat_ofNat']; omega
  have e2 : ((UInt8.ofNat (s % 256)).toNat : Int) = (s : Int) % 256 := by rw [UInt8.toNat_ofNat']; omega
  simp only [cellsOf, List.map_cons, List.map_nil, e1, e2]
theorem csum_two (E : List UInt8) (s : Nat) (hs : s ≤ 65535) (h : ∀ a b : UInt8, a.toNat = s / 256 → b.toNat = s % 256 → csum (E ++ [a, b]) = 0) : csum [E, [UInt8.ofNat (s / 256), UInt8.ofNat (s % 256)]].flatten = 0 := by
  have := h (UInt8.ofNat (s / 256)) (UInt8.ofNat (s % 256)) (by rw [UInt8.toNat_ofNat']; omega) (by rw [UInt8.toNat_ofNat']; omega)
  simpa using this
theorem padV_bd (n : Int) : 0 ≤ padV n ∧ padV n ≤ 3 := by unfold padV; split <;> omega
theorem BytA.sub {w : World} {a : Option Addr} {l : List UInt8} (h : BytA w a l) (at_ many c : Nat) (hl : at_ + many ≤ l.length) (hc : l.length ≤ c) : BytA w (if c = at_ then a else a.map (·.add at_)) ((l.drop at_).take many) := by
  by_cases h0 : many = 0
  · subst h0; left; simp
  · have := h.cut at_ many hl
    unfold cutA at this
    rw [if_neg h0] at this
    rw [if_neg (by omega)]
    exact this
set_option maxHeartbeats 4000000 in
theorem octetBack_in (a : Option Addr) (l : List UInt8) (c : Nat) (b : Bool) (n : Nat) (t : Nat) (hn : n < 18446744073709551616) (ht : t < 65536) (w : World) (hc : l.length ≤ c) (hB : BytA w a l) (hl : l.length ≤ 300) :
    Calls Try.prog 6 #[.slice a l.length c, .bool b, .int .u64 n, .int .u16 t] w fun e w' => e = .returned (.bool true) ∧ Below w.heap.size w w' := by
  have HB := Lib.hid hB
  clear hB
  obtain ⟨n0, hn0⟩ : ∃ n, n = l.length := ⟨_, rfl⟩
  have N0 := Lib.hid hn0
  rw [← hn0] at hl hc ⊢
  clear hn0
  have g1 : decide ((300 : Int) < (n0 : Nat)) = false := by simp; omega
  go_enter Try.func6, Try.ntmps6
  go_upto_region 1 with fail
  go_upto_region 5 with (go_at_call 7; refine (t_known _).mono ?_; rintro e w1 ⟨rfl, hb⟩)
  have B1 := Lib.hid (hb.alloc hb.size (.cells #[.int .i64 0, .int .i64 1, .int .i64 2, .int .i64 4, .int .i64 8] 3))
  have F1 := Lib.hid (show Nums .i64 (w1.alloc (.cells #[.int .i64 0, .int .i64 1, .int .i64 2, .int .i64 4, .int .i64 8] 3)) (.slice (some ⟨w1.heap.size, 0, none⟩) 5 5) fives from
    ⟨_, 5, rfl, Or.inr ⟨_, 0, rfl, by simp, fun j hj => by
      rw [Nat.zero_add, World.cell?_alloc_at _ _ _ _ rfl]
      match j, hj with
      | 0, _ => rfl
      | 1, _ => rfl
      | 2, _ => rfl
      | 3, _ => rfl
      | 4, _ => rfl
      | k + 5, h => simp [fives] at h; omega⟩⟩)
  clear hb
  go_wp2
  generalize w1.alloc (.cells #[.int .i64 0, .int .i64 1, .int .i64 2, .int .i64 4, .int .i64 8] 3) = w2 at *
  generalize w1.heap.size = q at *
  have Z0 := Lib.hid (Below.refl w2.heap.size w2)
  go_loopw [30] (fun i wr => ∃ k : Nat, k ≤ 5 ∧ i = .int .i64 k ∧ Hid (Below w2.heap.size w2 wr)) (fun i _ => 5 - (intOf i).toNat)
  case atStart => exact ⟨0, by omega, rfl, Z0⟩
  case round =>
    clear Z0
    obtain ⟨k, hk, rfl, Z⟩ := hrel
    by_cases hlt : k < 5
    · obtain ⟨_, _, e, c0⟩ := (F1.out.on Z.out).get (j := k) hlt
      cases e
      obtain ⟨m, hm, hm8⟩ := fives_at k hlt
      rw [hm, Nat.zero_add] at c0
      have hk5 : decide ((k : Int) < 5) = true := by simp; omega
      have HB2 := Lib.hid (HB.out.on (B1.out.trans (Z.out.mono B1.out.size)))
      have TB := Lib.hid (t_put_byt (.slice a n0 c) l b n m hm8 hn (by have := N0.out; omega) wr (HB2.out.byt N0.out hc))
      clear hm
      go_upto_region 8 with fail
      clear c0
      go_wp2_with fail
      refine TB.out.mono ?_
      rintro e w5 ⟨v5, rfl, hY, hb⟩
      obtain ⟨a5, c5, rfl, hc5, hA5⟩ := hY.open
      have PL := Lib.hid (show (l ++ ord b (low n m)).length = n0 + m by rw [List.length_append, ord_length, low_length, N0.out])
      have S5 := Lib.hid (show BytA (w5.alloc (.cells #[.slice a5 (l ++ ord b (low n m)).length c5, .bool b] 25)) a5 (l ++ ord b (low n m)) ∧ (w5.alloc (.cells #[.slice a5 (l ++ ord b (low n m)).length c5, .bool b] 25)).heap[w5.heap.size]? = some (.cells #[.slice a5 (l ++ ord b (low n m)).length c5, .bool b] 25 (0, 0)) ∧ Below w2.heap.size w2 (w5.alloc (.cells #[.slice a5 (l ++ ord b (low n m)).length c5, .bool b] 25)) from
        ⟨hA5.on (below_alloc _ _), row_new _ _ rfl, (Z.out.trans (hb.mono Z.out.size)).trans ((below_alloc _ _).mono (by have := hb.size; have := Z.out.size; omega))⟩)
      have GG := Lib.hid (fun w hB => t_get a5 (l ++ ord b (low n m)) c5 b n0 m hc5 (by omega) (by omega) (by rw [PL.out]; omega) w hB)
      have CC := Lib.hid (fun w => t_cut_yes a5 (l ++ ord b (low n m)).length c5 b n0 m hc5 (by rw [PL.out]; exact Nat.le_refl _) (by rw [PL.out]; omega) w)
      have GV := gv_put l b n m hm8
      have GK := gok_put l b n m hm8
      rw [← N0.out] at GV GK
      rw [GV, GK] at GG
      have QQ := Lib.hid (show (((l ++ ord b (low n m)).drop n0).take m) = ord b (low n m) by
        have := piece_put l (ord b (low n m)); rw [ord_length, low_length] at this; rw [N0.out]; exact this)
      have PC := Lib.hid (show ∀ w, BytA w a5 (l ++ ord b (low n m)) → Byt w (.slice (cutA a5 n0 m) m m) (ord b (low n m)) from fun w hB => by
        have := hB.cut n0 m (by rw [PL.out]; exact Nat.le_refl _)
        rw [QQ.out] at this
        exact this.byt (by rw [ord_length, low_length]) (Nat.le_refl _))
      clear GV GK QQ hb hA5 hY TB Z
      generalize (l ++ ord b (low n m)).length = m5 at *
      have WW := Lib.hid (want_eq n m hn hm8)
      have W8 := Lib.hid (show m = 8 → n % 256 ^ m = n from fun h => by rw [h]; exact whole_eq n hn)
      have GT := Lib.hid (gv_turned b n m hm8)
      generalize n % 256 ^ m = G at *
      go_upto_region 9 with fail
      generalize w5.alloc (.cells #[.slice a5 m5 c5, .bool b] 25) = w6 at *
      generalize w5.heap.size = r at *
      obtain ⟨e0, e1, _, _⟩ := row_kept S5.out.2.1 (Below.refl _ _)
      go_wp2_with fail
      refine (GG.out _ S5.out.1).mono ?_
      rintro e w7 ⟨rfl, hb⟩
      have S7 := Lib.hid (show BytA w7 a5 (l ++ ord b (low n m)) ∧ w7.heap[r]? = some (.cells #[.slice a5 m5 c5, .bool b] 25 (0, 0)) ∧ Below w2.heap.size w2 w7 from
        ⟨S5.out.1.on hb, (hb.block r (Array.getElem?_eq_some_iff.1 S5.out.2.1).1).trans S5.out.2.1, S5.out.2.2.trans (hb.mono S5.out.2.2.size)⟩)
      clear hb S5 GG e0 e1
      obtain ⟨e0, e1, _, _⟩ := row_kept S7.out.2.1 (Below.refl _ _)
      go_upto_region 11 with fail
      rw [WW.out]
      clear WW
      have GK2 := Lib.hid (gok_turned b n m hm8)
      have LR := Lib.hid (show (ord b (low n m)).length ≤ 1000000 by rw [ord_length, low_length]; omega)
      have LM := Lib.hid (show (ord b (low n m)).length = m by rw [ord_length, low_length])
      generalize ord b (low n m) = pq at *
      have C8 : (decide ((m : Int) < 8) = false ∧ ((m : Int) == 8) = true ∧ G = n) ∨ (decide ((m : Int) < 8) = true ∧ ((m : Int) == 8) = false) := by
        by_cases h8 : m = 8
        · left; exact ⟨by simp; omega, by simp; omega, W8.out h8⟩
        · right; exact ⟨by simp; omega, by simp; omega⟩
      clear W8
      rcases C8 with ⟨m8, m8', rfl⟩ | ⟨m8, m8'⟩
      all_goals
        go_upto_region 13 with fail
        clear m8 m8'
        go_wp2_with fail
        refine (CC.out _).mono ?_
        rintro e w8 ⟨rfl, hb⟩
        have S8 := Lib.hid (show BytA w8 a5 (l ++ pq) ∧ Below w2.heap.size w2 w8 from ⟨S7.out.1.on hb, S7.out.2.2.trans (hb.mono S7.out.2.2.size)⟩)
        clear hb S7 CC e0 e1
        go_wp2_with fail
        refine (t_clone _ pq LR.out w8 (PC.out w8 S8.out.1)).mono ?_
        rintro e w9 ⟨v9, rfl, O9⟩
        have O9 := Lib.hid O9
        go_wp2_with fail
        refine (t_reverse w8 v9 pq LR.out w9 O9.out).mono ?_
        rintro e w10 ⟨rfl, O10⟩
        obtain ⟨a9, n9, c9, rfl⟩ := O10.slice
        have O10 := Lib.hid O10
        clear O9
        have GB := Lib.hid (t_get_byt _ _ (!b) 0 m (by omega) (by omega) (by rw [List.length_reverse, LM.out]; omega) w10 O10.out.byt)
        rw [GT.out, GK2.out] at GB
        go_wp2_with fail
        refine GB.out.mono ?_
        rintro e w11 ⟨rfl, hb⟩
        have S11 := Lib.hid (show Below w2.heap.size w2 w11 from (S8.out.2.trans (O10.out.below.mono S8.out.2.size)).trans (hb.mono (by have := S8.out.2.size; have := O10.out.below.size; omega)))
        clear hb O10 S8 GB
        go_wp2
        go_roundw
        case rel => exact ⟨k + 1, by omega, by go_num, S11⟩
        case measure => simp [intOf]; omega
    · obtain ⟨ne, hne⟩ : ∃ ne, ne = n0 - n0 % 2 := ⟨_, rfl⟩
      have NE := Lib.hid (show (n0 : Int) - (n0 : Int) % 2 = (ne : Int) by omega)
      have e2 : ne % 2 = 0 := by omega
      have e3 : ne ≤ n0 := by omega
      clear hne
      have ft : ∀ w, (Instr.slice 22 (.slice a n0 c) none (some (.int .i64 ((n0 : Int) - (n0 : Int) % 2))) none).run Try.prog w = .ok (.slice a ne c) w := fun w => by rw [NE.out]; exact run_to w a n0 c ne (by omega)
      have HE := Lib.hid (((HB.out.on (B1.out.trans (Z.out.mono B1.out.size))).first ne))
      have LE := Lib.hid (show (l.take ne).length = ne by rw [List.length_take, ← N0.out]; omega)
      have LC := Lib.hid (show (l.take ne).length % 2 = 0 by rw [LE.out]; exact e2)
      have S0 := Lib.hid (B1.out.trans (Z.out.mono B1.out.size))
      have c9 : ne ≤ c := by omega
      generalize l.take ne = E at *
      clear HB Z F1 B1
      have k5 : decide ((k : Int) < 5) = false := by simp; omega
      go_upto_region 21 with fail
      clear ft NE
      have Y1 := Lib.hid (Byts.new1 wr (HE.out.byt LE.out.symm c9))
      have T1 := Lib.hid (t_sum _ [E] (by simp) (by simp; rw [LE.out]; omega) _ Y1.out)
      have hs := csum_le E
      rw [show [E].flatten = E by simp] at T1
      have CW := Lib.hid (csum_whole E LC.out)
      have CS := Lib.hid (fun A h1 h2 => csum_swap E A h1 LC.out h2)
      generalize csum E = s at *
      go_upto_region 22 with (go_at_call 17; refine T1.out.mono ?_; rintro e w8 ⟨rfl, rfl⟩)
      clear T1 Y1
      have A8 := Lib.hid (below_alloc wr (.cells #[.slice a ne c] 22))
      have RB := Lib.hid (two_bytes (wr.alloc (.cells #[.slice a ne c] 22)) s hs)
      have sz8 : (wr.alloc (.cells #[.slice a ne c] 22)).heap.size = wr.heap.size + 1 := by simp
      rw [sz8] at RB
      go_wp2_with fail
      generalize wr.alloc (.cells #[.slice a ne c] 22) = w8 at *
      have B9 := Lib.hid (below_alloc w8 (.cells #[.int .u8 ((s : Int) / 256), .int .u8 ((s : Int) % 256)] 5))
      generalize hw9 : w8.alloc (.cells #[.int .u8 ((s : Int) / 256), .int .u8 ((s : Int) % 256)] 5) = w9 at *
      have sz9 : w9.heap.size = wr.heap.size + 1 + 1 := by rw [← hw9]; simp [sz8]
      clear hw9
      have S9 := Lib.hid (S0.out.trans ((A8.out.trans (B9.out.mono A8.out.size)).mono S0.out.size))
      have Y9 := Lib.hid (Byts.new2 w9 ((HE.out.on (A8.out.trans (B9.out.mono A8.out.size))).byt LE.out.symm c9) (RB.out.byt (n := 2) (c := 2) rfl (Nat.le_refl _)))
      have T9 := Lib.hid (t_sum _ _ (by simp) (by simp; rw [LE.out]; omega) _ Y9.out)
      rw [csum_two E s hs CW.out] at T9
      rw [sz9] at T9
      refine T9.out.mono ?_
      rintro e w10 ⟨rfl, rfl⟩
      have H10 := Lib.hid ((HE.out.on (A8.out.trans (B9.out.mono A8.out.size))).on (below_alloc w9 (.cells #[.slice a ne c, .slice (some ⟨wr.heap.size + 1, 0, none⟩) 2 2] 22)))
      have S10 := Lib.hid (S9.out.trans ((below_alloc w9 (.cells #[.slice a ne c, .slice (some ⟨wr.heap.size + 1, 0, none⟩) 2 2] 22)).mono S9.out.size))
      clear T9 Y9 S9 RB A8 B9 HE S0 sz8
      generalize w9.alloc (.cells #[.slice a ne c, .slice (some ⟨wr.heap.size + 1, 0, none⟩) 2 2] 22) = w11 at *
      go_upto_if 126 with fail
      go_cut [22] from 126 to 133 (fun v wz => (∃ A : Nat, v = .int .i64 A ∧ Hid (A % 2 = 0 ∧ A ≤ ne)) ∧ wz = w11)
      case first =>
        by_cases h0 : ne = 0
        · subst h0
          go_wp2
          go_meet
          exact ⟨⟨0, rfl, Lib.hid ⟨rfl, by omega⟩⟩, rfl⟩
        · have h0' : decide (0 < ne) = true := by simp; omega
          have h1 : (0 : Int) < (ne : Nat) := by omega
          have hb : t % ne < ne := Nat.mod_lt _ (by omega)
          have HH := Lib.hid (show t % ne / 2 * 2 % 2 = 0 ∧ t % ne / 2 * 2 ≤ ne by omega)
          have VV := Lib.hid (show ((t : Int) % (ne : Int)) / 2 * 2 = ((t % ne / 2 * 2 : Nat) : Int) by omega)
          have m0 : 0 ≤ (t : Int) % (ne : Int) := Int.emod_nonneg _ (by omega)
          have m1 : (t : Int) % (ne : Int) ≤ 65535 := by omega
          clear h0 hb
          go_wp2
          go_meet
          exact ⟨⟨t % ne / 2 * 2, by rw [← VV.out], HH⟩, rfl⟩
      case rest =>
        obtain ⟨⟨A, rfl, AA⟩, hw⟩ := hcut
        rw [hw]
        clear hw
        have pb := padV_bd (n0 : Int)
        have P1 := Lib.hid (fun w => t_pad (n0 : Int) (by omega) w)
        have P2 := Lib.hid (fun w => t_pad ((n0 : Int) + padV n0) (by omega) w)
        rw [show padV ((n0 : Int) + padV n0) = 0 by unfold padV; rw [if_neg (show ¬ (n0 : Int) < 0 by omega), if_neg (by omega)]; omega] at P2
        generalize padV (n0 : Int) = pv at *
        have P2 := Lib.hid (show ∀ w, Calls Try.prog 14 #[.int .i64 (IntKind.i64.wrap ((n0 : Int) + pv))] w fun e w' => e = .returned (.int .i64 0) ∧ w = w' from fun w => by
          rw [show IntKind.i64.wrap ((n0 : Int) + pv) = (n0 : Int) + pv by rw [IntKind.wrap_i64]; omega]; exact P2.out w)
        obtain ⟨a', ha'⟩ : ∃ a', a' = if c = A then a else a.map (·.add A) := ⟨_, rfl⟩
        have F1 := Lib.hid (fun w => run_from w a ne c A AA.out.2)
        have F2 := Lib.hid (fun w => run_to w a ne c A (by have := AA.out.2; omega))
        rw [← ha'] at F1
        have G1 := Lib.hid (show ∀ w, BytA w a E → Byt w (.slice a' (ne - A) (c - A)) (E.drop A) from fun w h => by
          have := h.sub A (ne - A) c (by rw [LE.out]; have := AA.out.2; omega) (by rw [LE.out]; exact c9)
          rw [← ha', List.take_of_length_le (by rw [List.length_drop, LE.out]; exact Nat.le_refl _)] at this
          exact this.byt (by rw [List.length_drop, LE.out]) (by omega))
        have G2 := Lib.hid (show ∀ w, BytA w a E → Byt w (.slice a A c) (E.take A) from fun w h =>
          (h.first A).byt (by rw [List.length_take, LE.out]; have := AA.out.2; omega) (by have := AA.out.2; omega))
        have SW := Lib.hid (show csum [E.drop A, E.take A].flatten = s by
          have := CS.out A AA.out.1 (by rw [LE.out]; exact AA.out.2)
          simpa using this)
        have LW := Lib.hid (show [E.drop A, E.take A].flatten.length ≤ 2000000 by simp; rw [LE.out]; omega)
        have TS := Lib.hid (show ∀ w v, Byts w v [E.drop A, E.take A] → Calls Try.prog 17 #[v] w fun e w' => e = .returned (.int .u16 s) ∧ w = w' from fun w v h => by
          have := t_sum v [E.drop A, E.take A] (by simp) LW.out w h
          rw [SW.out] at this
          exact this)
        clear ha'
        go_wp2_with fail
        go_region_held3 (fun W' => (Instr.slice 22 (.slice a ne c) (some (.int .i64 (A : Int))) none none).run Try.prog W' = .ok (.slice a' (ne - A) (c - A)) W' ∧ (Instr.slice 22 (.slice a ne c) none (some (.int .i64 (A : Int))) none).run Try.prog W' = .ok (.slice a A c) W')
          (exact ⟨F1.out _, F2.out _⟩)
          (first
            | (go_at_call 17; refine (TS.out _ _ (Byts.new2 w11.drew ((G1.out _ H10.out).on (Below.refl _ _).drew) ((G2.out _ H10.out).on (Below.refl _ _).drew))).mono ?_; rintro e w12 ⟨rfl, hwa⟩)
            | (go_at_call 14; (with_reducible refine (P1.out _).mono ?_); rintro e w13 ⟨rfl, hwb⟩)
            | (go_at_call 14; (with_reducible refine (P2.out _).mono ?_); rintro e w14 ⟨rfl, hwc⟩))
        have ZZ := Lib.hid (show Below w.heap.size w w14 by
          rw [← hwc, ← hwb, ← hwa]
          exact S10.out.trans (((Below.refl _ _).drew.alloc (Nat.le_refl _) _).mono S10.out.size))
        clear hwa hwb hwc
        go_wp2
        go_ret
        exact ⟨rfl, ZZ.out⟩
set_option maxHeartbeats 1000000 in
theorem octetBack_any (l : List UInt8) (v : Value) (b : Bool) (n t : Int) (w : World) (hB : Byt w v l) (hn : 0 ≤ n ∧ n ≤ 18446744073709551615) (ht : 0 ≤ t ∧ t ≤ 65535) :
    Calls Try.prog 6 #[v, .bool b, .int .u64 n, .int .u16 t] w fun e w' => e = .returned (.bool true) ∧ Below w.heap.size w w' := by
  obtain ⟨a, c, rfl, hc, hA⟩ := hB.open
  obtain ⟨n, rfl⟩ := Int.eq_ofNat_of_zero_le hn.1
  obtain ⟨t, rfl⟩ := Int.eq_ofNat_of_zero_le ht.1
  by_cases hl : l.length ≤ 300
  · exact octetBack_in a l c b n t (by omega) (by omega) w hc hA hl
  · have g : decide ((300 : Int) < (l.length : Nat)) = true := by simp; omega
    clear hl hA hB
    generalize l.length = m at *
    go_enter Try.func6, Try.ntmps6
    go_wp2_with (go_at_call 7; refine (t_known _).mono ?_; rintro e w1 ⟨rfl, hb⟩)
    go_ret
    exact ⟨rfl, hb⟩
end Go.Proofs.Ytldgfaoiepnemaa
