/-
  The document's digits (horologeref05): a number to base ten or sixteen.
-/
import Derived.Test.YthghanidabmfgaaGreatDoorPrint6
namespace Go.Proofs.YthghanidabmfgaaGreatDoor
open Go.RowKit Go.Sort
set_option maxRecDepth 8000
def digF : Nat → Nat → Nat → List UInt8
  | 0, _, _ => []
  | f + 1, B, n => if n < B then [hxd n] else digF f B (n / B) ++ [hxd (n % B)]
theorem digF_length : ∀ f B n, (digF f B n).length ≤ f
  | 0, _, _ => Nat.le_refl _
  | f + 1, B, n => by
    unfold digF
    split
    · simp
    · have := digF_length f B (n / B); simp; omega
theorem digF_hex (f n : Nat) (h : n < 2 ^ (f + 1)) : digF (f + 1) 16 n = hexs n := by
  induction f generalizing n with
  | zero => rw [digF, hexs, if_pos (by omega), if_pos (by omega)]
  | succ f ih =>
    rw [digF, hexs]
    split
    · rfl
    · rw [ih (n / 16) (by omega)]
theorem hxd_low (d : Nat) (h : d < 10) : hxd d = UInt8.ofNat (48 + d) := by unfold hxd; rw [if_pos h]
theorem hxd_high (d : Nat) (h : ¬ d < 10) : hxd d = UInt8.ofNat (87 + d) := by unfold hxd; rw [if_neg h]
theorem digF_dec (f n : Nat) (h : n < 2 ^ (f + 1)) : digF (f + 1) 10 n = Lib.decDigits n := by
  induction f generalizing n with
  | zero => rw [digF, Lib.decDigits, if_pos (by omega), dif_pos (by omega), hxd_low _ (by omega)]
  | succ f ih =>
    rw [digF]
    split
    · rename_i h; rw [Lib.decDigits, dif_pos h, hxd_low _ h]
    · rename_i h; rw [dec_big h, ih (n / 10) (by omega), hxd_low _ (by omega)]
theorem conv_byte (w : World) (v : Int) (c : UInt8) (h : (c.toNat : Int) = v) :
    (convert 33 9 (.slice (some ⟨w.heap.size, 0, none⟩) 1 1)).run Tryz.prog (w.alloc (.cells #[.int .u8 v] 5)) = .ok (.string ⟨#[c]⟩) (w.alloc (.cells #[.int .u8 v] 5)) := by
  have h := run_convert_bytes_back (P := Tryz.prog) (w.alloc (.cells #[.int .u8 v] 5)) 33 9 5 ⟨w.heap.size, 0, none⟩ 1 [c] Tryz.underlying33 Tryz.underlying5 Tryz.underlying9 (fun j hj => by
    have hj : j = 0 := by simpa using hj
    subst hj
    rw [Lib.add_plain, World.cell?_alloc_new]
    simp [h])
  exact h
theorem hxd_toNat (d : Nat) (h : d < 16) : (hxd d).toNat = if d < 10 then 48 + d else 87 + d := by
  unfold hxd; split <;> simp <;> omega
set_option maxHeartbeats 1000000 in
theorem dig_step (B n : Nat) (hB : B = 10 ∨ B = 16) (hs : n ≤ 65535) (t : ByteArray) (ht : t.size ≤ 20) (R : ¬ n < B → ∀ w, Calls Tryz.prog 25 #[.int .i64 ((n : Int) / (B : Int)), .int .i64 B] w fun e w' => e = .returned (.string t) ∧ Below w.heap.size w w') (w : World) :
    Calls Tryz.prog 25 #[.int .i64 n, .int .i64 B] w fun e w' => e = .returned (.string (if n < B then ⟨#[hxd (n % B)]⟩ else t ++ ⟨#[hxd (n % B)]⟩)) ∧ Below w.heap.size w w' := by
  have hd := hxd_toNat (n % B) (by rcases hB with rfl | rfl <;> omega)
  have S0 := fun v => Lib.hid (below_alloc w (.cells #[.int .u8 v] 5))
  rcases hB with rfl | rfl
  · rw [if_pos (by omega)] at hd
    have CV := conv_byte w (48 + (n : Int) % 10) (hxd (n % 10)) (by rw [hd]; simp)
    have S1 := S0 (48 + (n : Int) % 10)
    generalize hxd (n % 10) = c at *
    clear hd S0
    have q0 : (0 : Int) ≤ n := by omega
    have q1 : (n : Int) ≤ 65535 := by omega
    by_cases hl : n < 10
    · have hl' : (n : Int) < 10 := by omega
      rw [if_pos hl]
      clear R
      go_enter Tryz.func25, Tryz.ntmps25
      go_upto_region 4 with fail
      go_wp2
      go_ret
      exact ⟨rfl, S1.out⟩
    · have hl' : ¬ (n : Int) < 10 := by omega
      rw [if_neg hl]
      have R := Lib.hid (R hl)
      go_enter Tryz.func25, Tryz.ntmps25
      go_upto_region 4 with fail
      go_wp2_with (go_at_call 25; refine (R.out _).mono ?_; rintro e w2 ⟨rfl, hb⟩)
      go_ret
      exact ⟨rfl, S1.out.trans (hb.mono S1.out.size)⟩
  · by_cases hq : n % 16 < 10
    · rw [if_pos (by omega)] at hd
      have CV := conv_byte w (48 + (n : Int) % 16) (hxd (n % 16)) (by rw [hd]; simp)
      have S1 := S0 (48 + (n : Int) % 16)
      generalize hxd (n % 16) = c at *
      clear hd S0
      have q0 : (0 : Int) ≤ n := by omega
      have q1 : (n : Int) ≤ 65535 := by omega
      have q2 : (n : Int) % 16 ≤ 9 := by omega
      by_cases hl : n < 16
      · have hl' : (n : Int) < 16 := by omega
        rw [if_pos hl]
        clear R
        go_enter Tryz.func25, Tryz.ntmps25
        go_upto_region 4 with fail
        go_wp2
        go_ret
        exact ⟨rfl, S1.out⟩
      · have hl' : ¬ (n : Int) < 16 := by omega
        rw [if_neg hl]
        have R := Lib.hid (R hl)
        go_enter Tryz.func25, Tryz.ntmps25
        go_upto_region 4 with fail
        go_wp2_with (go_at_call 25; refine (R.out _).mono ?_; rintro e w2 ⟨rfl, hb⟩)
        go_ret
        exact ⟨rfl, S1.out.trans (hb.mono S1.out.size)⟩
    · rw [if_neg (by omega)] at hd
      have CV := conv_byte w (87 + (n : Int) % 16) (hxd (n % 16)) (by rw [hd]; simp)
      have S1 := S0 (87 + (n : Int) % 16)
      generalize hxd (n % 16) = c at *
      clear hd S0
      have q0 : (0 : Int) ≤ n := by omega
      have q1 : (n : Int) ≤ 65535 := by omega
      have q2 : ¬ (n : Int) % 16 ≤ 9 := by omega
      by_cases hl : n < 16
      · have hl' : (n : Int) < 16 := by omega
        rw [if_pos hl]
        clear R
        go_enter Tryz.func25, Tryz.ntmps25
        go_upto_region 4 with fail
        go_wp2
        go_ret
        exact ⟨rfl, S1.out⟩
      · have hl' : ¬ (n : Int) < 16 := by omega
        rw [if_neg hl]
        have R := Lib.hid (R hl)
        go_enter Tryz.func25, Tryz.ntmps25
        go_upto_region 4 with fail
        go_wp2_with (go_at_call 25; refine (R.out _).mono ?_; rintro e w2 ⟨rfl, hb⟩)
        go_ret
        exact ⟨rfl, S1.out.trans (hb.mono S1.out.size)⟩
theorem r_digits (f : Nat) : f ≤ 16 → ∀ (B n : Nat), (B = 10 ∨ B = 16) → n < 2 ^ (f + 1) → n ≤ 65535 → ∀ w, Calls Tryz.prog 25 #[.int .i64 n, .int .i64 B] w fun e w' => e = .returned (.string (str (digF (f + 1) B n))) ∧ Below w.heap.size w w' := by
  induction f with
  | zero =>
    intro _ B n hB hn hs w
    refine (dig_step B n hB hs ⟨#[]⟩ (by decide) (fun h => absurd (show n < B by omega) h) w).mono fun e w' ⟨he, hb⟩ => ⟨?_, hb⟩
    rw [he, if_pos (by omega), digF, if_pos (by omega), Nat.mod_eq_of_lt (by omega)]; rfl
  | succ f ih =>
    intro hf B n hB hn hs w
    refine (dig_step B n hB hs (str (digF (f + 1) B (n / B))) (by rw [str_size]; have := digF_length (f + 1) B (n / B); omega) (fun h w => ?_) w).mono fun e w' ⟨he, hb⟩ => ⟨?_, hb⟩
    · have := ih (by omega) B (n / B) hB (by rw [Nat.div_lt_iff_lt_mul (by omega)]; rcases hB with rfl | rfl <;> omega) (Nat.le_trans (Nat.div_le_self _ _) hs) w
      rwa [show ((n / B : Nat) : Int) = (n : Int) / (B : Int) from rfl] at this
    · rw [he]
      conv => rhs; rw [digF]
      split
      · rename_i h; rw [Nat.mod_eq_of_lt h]; rfl
      · exact congrArg (fun x => Ending.returned (Value.string x)) (bytes_eq (by simp [str]))
/-- A number's digits to base ten; to base sixteen. -/
theorem r_dec (n : Int) (h : 0 ≤ n ∧ n ≤ 65535) (w : World) : Calls Tryz.prog 25 #[.int .i64 n, .int .i64 10] w fun e w' => e = .returned (.string (str (Lib.itoa n))) ∧ Below w.heap.size w w' := by
  obtain ⟨u, rfl⟩ : ∃ u : Nat, n = u := ⟨n.toNat, by omega⟩
  have := r_digits 15 (by omega) 10 u (Or.inl rfl) (by omega) (by omega) w
  rwa [digF_dec 15 u (by omega), show Lib.decDigits u = Lib.itoa (u : Int) from (itoa_nat u h.1).symm] at this
theorem r_hexs (n : Nat) (h : n < 65536) (w : World) : Calls Tryz.prog 25 #[.int .i64 n, .int .i64 16] w fun e w' => e = .returned (.string (str (hexs n))) ∧ Below w.heap.size w w' := by
  have := r_digits 15 (by omega) 16 n (Or.inr rfl) (by omega) (by omega) w
  rwa [digF_hex 15 n (by omega)] at this
/-! ### May, group -/
theorem zeros_get {b : List Int} (hl : b.length = 16) : b.drop 4 = n12 ↔ ∀ j, 4 ≤ j → j < 16 → b[j]? = some 0 := by
  constructor
  · intro h j h1 h2
    have : (b.drop 4)[j - 4]? = some 0 := by rw [h]; exact List.getElem?_replicate_of_lt (by omega)
    rwa [List.getElem?_drop, show 4 + (j - 4) = j by omega] at this
  · intro h
    refine List.ext_getElem? fun i => ?_
    by_cases hi : i < 12
    · rw [List.getElem?_drop, h (4 + i) (by omega) (by omega)]
      exact (List.getElem?_replicate_of_lt hi).symm
    · rw [List.getElem?_eq_none (by simp; omega), List.getElem?_eq_none (by simp [n12]; omega)]
def Nil4 (v : Bool) (b : List Int) (k : Nat) : Prop := v = false → ∀ j, 4 ≤ j → j < k → b[j]? = some 0
set_option maxHeartbeats 1000000 in
theorem r_may (v : Bool) (b : List Int) (h : IsA b) (w : World) : Calls Tryz.prog 12 #[.agg (adC v b)] w fun e w' => e = .returned (.bool (mayB v b)) ∧ Below w.heap.size w w' := by
  obtain ⟨hl, hb⟩ := h
  have B0 : Hid (Blk (w.alloc (.cells (adC v b) 24)) w.heap.size 24 (adC v b)) := Lib.hid (Blk.new _ _ _ rfl)
  have S0 := Lib.hid (below_alloc w (.cells (adC v b) 24))
  have HB := Lib.hid hb
  clear hb
  go_enter Tryz.func12, Tryz.ntmps12
  go_upto_region 1 with fail
  generalize w.alloc (.cells (adC v b) 24) = w1 at *
  have c0 := B0.out.cell (ad_head v b)
  go_wp2
  go_loopw [3] (fun i wr => wr = w1 ∧ ∃ k : Nat, 4 ≤ k ∧ k ≤ 16 ∧ i = .int .i64 k ∧ Hid (Nil4 v b k)) (fun i _ => 16 - (intOf i).toNat)
  case atStart => exact ⟨rfl, 4, by omega, by omega, rfl, Lib.hid fun _ j h1 h2 => by omega⟩
  case round =>
    obtain ⟨rfl, k, h4, hk, rfl, Z⟩ := hrel
    by_cases hlt : k < 16
    · have e1 : b[k]? = some (b[k]'(by omega)) := List.getElem?_eq_getElem _
      have y1 := HB.out _ (List.getElem_mem (show k < b.length by omega))
      generalize b[k]'(by omega) = n at *
      have c1 := B0.out.cell (ad_get (v := v) e1)
      rw [Nat.add_comm] at c1
      obtain ⟨y1, y2⟩ := y1
      cases v
      · by_cases hn : n = 0
        · subst hn
          have Z2 : Hid (Nil4 false b (k + 1)) := Lib.hid fun q j h1 h2 => by
            by_cases hj : j = k
            · subst hj; exact e1
            · exact Z.out q j h1 (by omega)
          clear e1 Z
          go_wp2
          go_roundw
          case rel => exact ⟨trivial, k + 1, by omega, by omega, by go_num, Z2⟩
          case measure => simp [intOf]; omega
        · have M := Lib.hid (show mayB false b = false by
            unfold mayB
            rw [Bool.false_or, decide_eq_false]
            intro h
            have := (zeros_get hl).1 h k h4 hlt
            rw [e1] at this
            exact hn (Option.some.inj this))
          clear e1 Z
          have hn' : (n == 0) = false := by simpa using hn
          go_wp2
          go_ret
          exact ⟨by rw [M.out]; rfl, S0.out⟩
      · clear e1
        go_wp2
        go_roundw
        case rel => exact ⟨trivial, k + 1, by omega, by omega, by go_num, Lib.hid fun q => by cases q⟩
        case measure => simp [intOf]; omega
    · obtain rfl : k = 16 := by omega
      have M := Lib.hid (show mayB v b = true by
        unfold mayB
        cases v
        · rw [Bool.false_or, decide_eq_true]
          exact (zeros_get hl).2 (Z.out rfl)
        · rfl)
      go_wp2
      go_ret
      exact ⟨by rw [M.out]; rfl, S0.out⟩
set_option maxHeartbeats 1000000 in
theorem r_group (v : Bool) (b : List Int) (h : IsA b) (i : Nat) (hi : i < 8) (n : Nat) (hn : (b2g b)[i]? = some n) (w : World) : Calls Tryz.prog 26 #[.agg (adC v b), .int .i64 i] w fun e w' => e = .returned (.int .i64 n) ∧ Below w.heap.size w w' := by
  obtain ⟨hl, hb⟩ := h
  have e0 : b[2 * i]? = some (b[2 * i]'(by omega)) := List.getElem?_eq_getElem _
  have e1 : b[2 * i + 1]? = some (b[2 * i + 1]'(by omega)) := List.getElem?_eq_getElem _
  have y0 := hb _ (List.getElem_mem (show 2 * i < b.length by omega))
  have y1 := hb _ (List.getElem_mem (show 2 * i + 1 < b.length by omega))
  generalize b[2 * i]'(by omega) = x at *
  generalize b[2 * i + 1]'(by omega) = y at *
  have N := (b2g_get i b x y e0 e1).symm.trans hn
  obtain ⟨x0, x1⟩ := y0
  obtain ⟨y0, y1⟩ := y1
  have N : (n : Int) = 256 * x + y := by have := Option.some.inj N; omega
  rw [N]
  have B0 : Hid (Blk (w.alloc (.cells (adC v b) 24)) w.heap.size 24 (adC v b)) := Lib.hid (Blk.new _ _ _ rfl)
  have S0 := Lib.hid (below_alloc w (.cells (adC v b) 24))
  clear N hn hb
  go_enter Tryz.func26, Tryz.ntmps26
  go_upto_region 1 with fail
  generalize w.alloc (.cells (adC v b) 24) = w1 at *
  have c0 := B0.out.cell (ad_get (v := v) e0)
  have c1 := B0.out.cell (ad_get (v := v) e1)
  rw [Nat.add_comm] at c0 c1
  clear e0 e1
  go_region
  go_wp2
  go_ret
  exact ⟨rfl, S0.out.drew⟩
end Go.Proofs.YthghanidabmfgaaGreatDoor
