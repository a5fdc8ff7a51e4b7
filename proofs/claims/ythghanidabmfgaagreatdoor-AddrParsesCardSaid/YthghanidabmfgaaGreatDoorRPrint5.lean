/-
  The document's digits (horologeref05): a number to base ten or sixteen.
  Plain lemmas: how the document finds the longest run of noughts, and writes what lies around it.
  The document's text of an address (horologeref05).
-/
import Derived.Test.YthghanidabmfgaaGreatDoorPrint6
namespace Go.Proofs.YthghanidabmfgaaGreatDoor
open Go.RowKit Go.Sort
set_option maxRecDepth 8000
def digF : Nat → Nat → Nat → List UInt8
  | 0, _, _ => []
  | f + 1, B, n => if n < B then [hxd n] else digF f B (n / B) ++ [hxd (n % B)]
theorem digF_length : ∀ f B n, (digF f B n).length ≤ f
  | 0, _, _ => Nat.le_refl _
  | f + 1, B, n => by
    unfold digF
    split
    · simp
    · have := digF_length f B (n / B); simp; omega
theorem digF_hex (f n : Nat) (h : n < 2 ^ (f + 1)) : digF (f + 1) 16 n = hexs n := by
  induction f generalizing n with
  | zero => rw [digF, hexs, if_pos (by omega), if_pos (by omega)]
  | succ f ih =>
    rw [digF, hexs]
    split
    · rfl
    · rw [ih (n / 16) (by omega)]
theorem hxd_low (d : Nat) (h : d < 10) : hxd d = UInt8.ofNat (48 + d) := by unfold hxd; rw [if_pos h]
theorem hxd_high (d : Nat) (h : ¬ d < 10) : hxd d = UInt8.ofNat (87 + d) := by unfold hxd; rw [if_neg h]
theorem digF_dec (f n : Nat) (h : n < 2 ^ (f + 1)) : digF (f + 1) 10 n = Lib.decDigits n := by
  induction f generalizing n with
  | zero => rw [digF, Lib.decDigits, if_pos (by omega), dif_pos (by omega), hxd_low _ (by omega)]
  | succ f ih =>
    rw [digF]
    split
    · rename_i h; rw [Lib.decDigits, dif_pos h, hxd_low _ h]
    · rename_i h; rw [dec_big h, ih (n / 10) (by omega), hxd_low _ (by omega)]
theorem conv_byte (w : World) (v : Int) (c : UInt8) (h : (c.toNat : Int) = v) :
    (convert 33 9 (.slice (some ⟨w.heap.size, 0, none⟩) 1 1)).run Tryz.prog (w.alloc (.cells #[.int .u8 v] 5)) = .ok (.string ⟨#[c]⟩) (w.alloc (.cells #[.int .u8 v] 5)) := by
  have h := run_convert_bytes_back (P := Tryz.prog) (w.alloc (.cells #[.int .u8 v] 5)) 33 9 5 ⟨w.heap.size, 0, none⟩ 1 [c] Tryz.underlying33 Tryz.underlying5 Tryz.underlying9 (fun j hj => by
    have hj : j = 0 := by simpa using hj
    subst hj
    rw [Lib.add_plain, World.cell?_alloc_new]
    simp [h])
  exact h
theorem hxd_toNat (d : Nat) (h : d < 16) : (hxd d).toNat = if d < 10 then 48 + d else 87 + d := by
  unfold hxd; split <;> simp <;> omega
set_option maxHeartbeats 1000000 in
theorem dig_step (B n : Nat) (hB : B = 10 ∨ B = 16) (hs : n ≤ 65535) (t : ByteArray) (ht : t.size ≤ 20) (R : ¬ n < B → ∀ w, Calls Tryz.prog 25 #[.int .i64 ((n : Int) / (B : Int)), .int .i64 B] w fun e w' => e = .returned (.string t) ∧ Below w.heap.size w w') (w : World) :
    Calls Tryz.prog 25 #[.int .i64 n, .int .i64 B] w fun e w' => e = .returned (.string (if n < B then ⟨#[hxd (n % B)]⟩ else t ++ ⟨#[hxd (n % B)]⟩)) ∧ Below w.heap.size w w' := by
  have hd := hxd_toNat (n % B) (by rcases hB with rfl | rfl <;> omega)
  have S0 := fun v => Lib.hid (below_alloc w (.cells #[.int .u8 v] 5))
  rcases hB with rfl | rfl
  · rw [if_pos (by omega)] at hd
    have CV := conv_byte w (48 + (n : Int) % 10) (hxd (n % 10)) (by rw [hd]; simp)
    have S1 := S0 (48 + (n : Int) % 10)
    generalize hxd (n % 10) = c at *
    clear hd S0
    have q0 : (0 : Int) ≤ n := by omega
    have q1 : (n : Int) ≤ 65535 := by omega
    by_cases hl : n < 10
    · have hl' : (n : Int) < 10 := by omega
      rw [if_pos hl]
      clear R
      go_enter Tryz.func25, Tryz.ntmps25
      go_upto_region 4 with fail
      go_wp2
      go_ret
      exact ⟨rfl, S1.out⟩
    · have hl' : ¬ (n : Int) < 10 := by omega
      rw [if_neg hl]
      have R := Lib.hid (R hl)
      go_enter Tryz.func25, Tryz.ntmps25
      go_upto_region 4 with fail
      go_wp2_with (go_at_call 25; refine (R.out _).mono ?_; rintro e w2 ⟨rfl, hb⟩)
      go_ret
      exact ⟨rfl, S1.out.trans (hb.mono S1.out.size)⟩
  · by_cases hq : n % 16 < 10
    · rw [if_pos (by omega)] at hd
      have CV := conv_byte w (48 + (n : Int) % 16) (hxd (n % 16)) (by rw [hd]; simp)
      have S1 := S0 (48 + (n : Int) % 16)
      generalize hxd (n % 16) = c at *
      clear hd S0
      have q0 : (0 : Int) ≤ n := by omega
      have q1 : (n : Int) ≤ 65535 := by omega
      have q2 : (n : Int) % 16 ≤ 9 := by omega
      by_cases hl : n < 16
      · have hl' : (n : Int) < 16 := by omega
        rw [if_pos hl]
        clear R
        go_enter Tryz.func25, Tryz.ntmps25
        go_upto_region 4 with fail
        go_wp2
        go_ret
        exact ⟨rfl, S1.out⟩
      · have hl' : ¬ (n : Int) < 16 := by omega
        rw [if_neg hl]
        have R := Lib.hid (R hl)
        go_enter Tryz.func25, Tryz.ntmps25
        go_upto_region 4 with fail
        go_wp2_with (go_at_call 25; refine (R.out _).mono ?_; rintro e w2 ⟨rfl, hb⟩)
        go_ret
        exact ⟨rfl, S1.out.trans (hb.mono S1.out.size)⟩
    · rw [if_neg (by omega)] at hd
      have CV := conv_byte w (87 + (n : Int) % 16) (hxd (n % 16)) (by rw [hd]; simp)
      have S1 := S0 (87 + (n : Int) % 16)
      generalize hxd (n % 16) = c at *
      clear hd S0
      have q0 : (0 : Int) ≤ n := by omega
      have q1 : (n : Int) ≤ 65535 := by omega
      have q2 : ¬ (n : Int) % 16 ≤ 9 := by omega
      by_cases hl : n < 16
      · have hl' : (n : Int) < 16 := by omega
        rw [if_pos hl]
        clear R
        go_enter Tryz.func25, Tryz.ntmps25
        go_upto_region 4 with fail
        go_wp2
        go_ret
        exact ⟨rfl, S1.out⟩
      · have hl' : ¬ (n : Int) < 16 := by omega
        rw [if_neg hl]
        have R := Lib.hid (R hl)
        go_enter Tryz.func25, Tryz.ntmps25
        go_upto_region 4 with fail
        go_wp2_with (go_at_call 25; refine (R.out _).mono ?_; rintro e w2 ⟨rfl, hb⟩)
        go_ret
        exact ⟨rfl, S1.out.trans (hb.mono S1.out.size)⟩
theorem r_digits (f : Nat) : f ≤ 16 → ∀ (B n : Nat), (B = 10 ∨ B = 16) → n < 2 ^ (f + 1) → n ≤ 65535 → ∀ w, Calls Tryz.prog 25 #[.int .i64 n, .int .i64 B] w fun e w' => e = .returned (.string (str (digF (f + 1) B n))) ∧ Below w.heap.size w w' := by
  induction f with
  | zero =>
    intro _ B n hB hn hs w
    refine (dig_step B n hB hs ⟨#[]⟩ (by decide) (fun h => absurd (show n < B by omega) h) w).mono fun e w' ⟨he, hb⟩ => ⟨?_, hb⟩
    rw [he, if_pos (by omega), digF, if_pos (by omega), Nat.mod_eq_of_lt (by omega)]; rfl
  | succ f ih =>
    intro hf B n hB hn hs w
    refine (dig_step B n hB hs (str (digF (f + 1) B (n / B))) (by rw [str_size]; have := digF_length (f + 1) B (n / B); omega) (fun h w => ?_) w).mono fun e w' ⟨he, hb⟩ => ⟨?_, hb⟩
    · have := ih (by omega) B (n / B) hB (by rw [Nat.div_lt_iff_lt_mul (by omega)]; rcases hB with rfl | rfl <;> omega) (Nat.le_trans (Nat.div_le_self _ _) hs) w
      rwa [show ((n / B : Nat) : Int) = (n : Int) / (B : Int) from rfl] at this
    · rw [he]
      conv => rhs; rw [digF]
      split
      · rename_i h; rw [Nat.mod_eq_of_lt h]; rfl
      · exact congrArg (fun x => Ending.returned (Value.string x)) (bytes_eq (by simp [str]))
/-- A number's digits to base ten; to base sixteen. -/
theorem r_dec (n : Int) (h : 0 ≤ n ∧ n ≤ 65535) (w : World) : Calls Tryz.prog 25 #[.int .i64 n, .int .i64 10] w fun e w' => e = .returned (.string (str (Lib.itoa n))) ∧ Below w.heap.size w w' := by
  obtain ⟨u, rfl⟩ : ∃ u : Nat, n = u := ⟨n.toNat, by omega⟩
  have := r_digits 15 (by omega) 10 u (Or.inl rfl) (by omega) (by omega) w
  rwa [digF_dec 15 u (by omega), show Lib.decDigits u = Lib.itoa (u : Int) from (itoa_nat u h.1).symm] at this
theorem r_hexs (n : Nat) (h : n < 65536) (w : World) : Calls Tryz.prog 25 #[.int .i64 n, .int .i64 16] w fun e w' => e = .returned (.string (str (hexs n))) ∧ Below w.heap.size w w' := by
  have := r_digits 15 (by omega) 16 n (Or.inr rfl) (by omega) (by omega) w
  rwa [digF_hex 15 n (by omega)] at this
/-! ### May, group -/
theorem zeros_get {b : List Int} (hl : b.length = 16) : b.drop 4 = n12 ↔ ∀ j, 4 ≤ j → j < 16 → b[j]? = some 0 := by
  constructor
  · intro h j h1 h2
    have : (b.drop 4)[j - 4]? = some 0 := by rw [h]; exact List.getElem?_replicate_of_lt (by omega)
    rwa [List.getElem?_drop, show 4 + (j - 4) = j by omega] at this
  · intro h
    refine List.ext_getElem? fun i => ?_
    by_cases hi : i < 12
    · rw [List.getElem?_drop, h (4 + i) (by omega) (by omega)]
      exact (List.getElem?_replicate_of_lt hi).symm
    · rw [List.getElem?_eq_none (by simp; omega), List.getElem?_eq_none (by simp [n12]; omega)]
def Nil4 (v : Bool) (b : List Int) (k : Nat) : Prop := v = false → ∀ j, 4 ≤ j → j < k → b[j]? = some 0
set_option maxHeartbeats 1000000 in
theorem r_may (v : Bool) (b : List Int) (h : IsA b) (w : World) : Calls Tryz.prog 12 #[.agg (adC v b)] w fun e w' => e = .returned (.bool (mayB v b)) ∧ Below w.heap.size w w' := by
  obtain ⟨hl, hb⟩ := h
  have B0 : Hid (Blk (w.alloc (.cells (adC v b) 24)) w.heap.size 24 (adC v b)) := Lib.hid (Blk.new _ _ _ rfl)
  have S0 := Lib.hid (below_alloc w (.cells (adC v b) 24))
  have HB := Lib.hid hb
  clear hb
  go_enter Tryz.func12, Tryz.ntmps12
  go_upto_region 1 with fail
  generalize w.alloc (.cells (adC v b) 24) = w1 at *
  have c0 := B0.out.cell (ad_head v b)
  go_wp2
  go_loopw [3] (fun i wr => wr = w1 ∧ ∃ k : Nat, 4 ≤ k ∧ k ≤ 16 ∧ i = .int .i64 k ∧ Hid (Nil4 v b k)) (fun i _ => 16 - (intOf i).toNat)
  case atStart => exact ⟨rfl, 4, by omega, by omega, rfl, Lib.hid fun _ j h1 h2 => by omega⟩
  case round =>
    obtain ⟨rfl, k, h4, hk, rfl, Z⟩ := hrel
    by_cases hlt : k < 16
    · have e1 : b[k]? = some (b[k]'(by omega)) := List.getElem?_eq_getElem _
      have y1 := HB.out _ (List.getElem_mem (show k < b.length by omega))
      generalize b[k]'(by omega) = n at *
      have c1 := B0.out.cell (ad_get (v := v) e1)
      rw [Nat.add_comm] at c1
      obtain ⟨y1, y2⟩ := y1
      cases v
      · by_cases hn : n = 0
        · subst hn
          have Z2 : Hid (Nil4 false b (k + 1)) := Lib.hid fun q j h1 h2 => by
            by_cases hj : j = k
            · subst hj; exact e1
            · exact Z.out q j h1 (by omega)
          clear e1 Z
          go_wp2
          go_roundw
          case rel => exact ⟨trivial, k + 1, by omega, by omega, by go_num, Z2⟩
          case measure => simp [intOf]; omega
        · have M := Lib.hid (show mayB false b = false by
            unfold mayB
            rw [Bool.false_or, decide_eq_false]
            intro h
            have := (zeros_get hl).1 h k h4 hlt
            rw [e1] at this
            exact hn (Option.some.inj this))
          clear e1 Z
          have hn' : (n == 0) = false := by simpa using hn
          go_wp2
          go_ret
          exact ⟨by rw [M.out]; rfl, S0.out⟩
      · clear e1
        go_wp2
        go_roundw
        case rel => exact ⟨trivial, k + 1, by omega, by omega, by go_num, Lib.hid fun q => by cases q⟩
        case measure => simp [intOf]; omega
    · obtain rfl : k = 16 := by omega
      have M := Lib.hid (show mayB v b = true by
        unfold mayB
        cases v
        · rw [Bool.false_or, decide_eq_true]
          exact (zeros_get hl).2 (Z.out rfl)
        · rfl)
      go_wp2
      go_ret
      exact ⟨by rw [M.out]; rfl, S0.out⟩
set_option maxHeartbeats 1000000 in
theorem r_group (v : Bool) (b : List Int) (h : IsA b) (i : Nat) (hi : i < 8) (n : Nat) (hn : (b2g b)[i]? = some n) (w : World) : Calls Tryz.prog 26 #[.agg (adC v b), .int .i64 i] w fun e w' => e = .returned (.int .i64 n) ∧ Below w.heap.size w w' := by
  obtain ⟨hl, hb⟩ := h
  have e0 : b[2 * i]? = some (b[2 * i]'(by omega)) := List.getElem?_eq_getElem _
  have e1 : b[2 * i + 1]? = some (b[2 * i + 1]'(by omega)) := List.getElem?_eq_getElem _
  have y0 := hb _ (List.getElem_mem (show 2 * i < b.length by omega))
  have y1 := hb _ (List.getElem_mem (show 2 * i + 1 < b.length by omega))
  generalize b[2 * i]'(by omega) = x at *
  generalize b[2 * i + 1]'(by omega) = y at *
  have N := (b2g_get i b x y e0 e1).symm.trans hn
  obtain ⟨x0, x1⟩ := y0
  obtain ⟨y0, y1⟩ := y1
  have N : (n : Int) = 256 * x + y := by have := Option.some.inj N; omega
  rw [N]
  have B0 : Hid (Blk (w.alloc (.cells (adC v b) 24)) w.heap.size 24 (adC v b)) := Lib.hid (Blk.new _ _ _ rfl)
  have S0 := Lib.hid (below_alloc w (.cells (adC v b) 24))
  clear N hn hb
  go_enter Tryz.func26, Tryz.ntmps26
  go_upto_region 1 with fail
  generalize w.alloc (.cells (adC v b) 24) = w1 at *
  have c0 := B0.out.cell (ad_get (v := v) e0)
  have c1 := B0.out.cell (ad_get (v := v) e1)
  rw [Nat.add_comm] at c0 c1
  clear e0 e1
  go_region
  go_wp2
  go_ret
  exact ⟨rfl, S0.out.drew⟩
end Go.Proofs.YthghanidabmfgaaGreatDoor
namespace Go.Proofs.YthghanidabmfgaaGreatDoor
open Go.Lib
/-! ### The longest run -/
def rlen (bs : List Bool) (i : Nat) : Nat := ((bs.drop i).takeWhile id).length
def rstep (bs : List Bool) (p : Nat × Nat) (i : Nat) : Nat × Nat := if p.2 < rlen bs i then (i, rlen bs i) else p
def rrun (bs : List Bool) (k : Nat) : Nat × Nat := (List.range k).foldl (rstep bs) (0, 1)
theorem rrun_succ (bs : List Bool) (k : Nat) : rrun bs (k + 1) = rstep bs (rrun bs k) k := by simp [rrun, List.range_succ]
theorem rrun_all : ∀ a b c d e f g h : Bool, ((zrun [a, b, c, d, e, f, g, h]).2 = (zrun [a, b, c, d, e, f, g, h]).1 ∧ (rrun [a, b, c, d, e, f, g, h] 8).2 = 1) ∨
    ((zrun [a, b, c, d, e, f, g, h]).2 ≠ (zrun [a, b, c, d, e, f, g, h]).1 ∧ 2 ≤ (rrun [a, b, c, d, e, f, g, h] 8).2 ∧ (rrun [a, b, c, d, e, f, g, h] 8).1 = (zrun [a, b, c, d, e, f, g, h]).1 ∧ (rrun [a, b, c, d, e, f, g, h] 8).1 + (rrun [a, b, c, d, e, f, g, h] 8).2 = (zrun [a, b, c, d, e, f, g, h]).2) := by decide +kernel
theorem rrun_ok {bs : List Bool} (hl : bs.length = 8) : ((zrun bs).2 = (zrun bs).1 ∧ (rrun bs 8).2 = 1) ∨ ((zrun bs).2 ≠ (zrun bs).1 ∧ 2 ≤ (rrun bs 8).2 ∧ (rrun bs 8).1 = (zrun bs).1 ∧ (rrun bs 8).1 + (rrun bs 8).2 = (zrun bs).2) := by
  match bs, hl with
  | [a, b, c, d, e, f, g, h], _ => exact rrun_all a b c d e f g h
theorem while_length : ∀ (l : List Bool) (n : Nat), (∀ j, j < n → l[j]? = some true) → l[n]? ≠ some true → (l.takeWhile id).length = n
  | [], 0, _, _ => rfl
  | [], n + 1, h, _ => by have := h 0 (by omega); simp at this
  | true :: r, 0, _, h => by simp at h
  | false :: r, 0, _, _ => by simp
  | false :: r, n + 1, h, _ => by have := h 0 (by omega); simp at this
  | true :: r, n + 1, h, h' => by
    simp [while_length r n (fun j hj => by have := h (j + 1) (by omega); simpa using this) (by simpa using h')]
theorem rlen_is {bs : List Bool} {i n : Nat} (h : ∀ j, j < n → bs[i + j]? = some true) (h' : bs[i + n]? ≠ some true) : rlen bs i = n :=
  while_length _ n (fun j hj => by rw [List.getElem?_drop]; exact h j hj) (by rw [List.getElem?_drop]; exact h')
theorem rlen_le {bs : List Bool} {i : Nat} (hl : bs.length = 8) (hi : i ≤ 8) : i + rlen bs i ≤ 8 := by
  have := (List.takeWhile_sublist (p := id) (l := bs.drop i)).length_le
  unfold rlen; simp at this ⊢; omega
/-! ### The text -/
def J (l : List Nat) : List UInt8 := joinC 58 (l.map hexs)
theorem J_one (n : Nat) : J [n] = hexs n := rfl
theorem J_snoc : ∀ {l : List Nat} (n : Nat), l ≠ [] → J (l ++ [n]) = J l ++ 58 :: hexs n
  | [], _, h => absurd rfl h
  | [a], n, _ => rfl
  | a :: b :: r, n, _ => by
    have i := J_snoc (l := b :: r) n (by simp)
    have e1 : J (a :: b :: r ++ [n]) = hexs a ++ 58 :: J (b :: r ++ [n]) := joinC_cons 58 (hexs a) (ws := (b :: r ++ [n]).map hexs) (by simp)
    have e2 : J (a :: b :: r) = hexs a ++ 58 :: J (b :: r) := joinC_cons 58 (hexs a) (ws := (b :: r).map hexs) (by simp)
    rw [e1, i, e2]
    simp
theorem hexs_last (n : Nat) : ∃ c, (hexs n).getLast? = some c ∧ c ≠ 58 := by
  cases h : (hexs n).getLast? with
  | none => exact absurd (List.getLast?_eq_none_iff.1 h) (hexs_ne n)
  | some c => exact ⟨c, rfl, fun e => hexs_free n 58 (by decide) (e ▸ List.mem_of_getLast? h)⟩
theorem J_last {l : List Nat} (h : l ≠ []) : ∃ c, (J l).getLast? = some c ∧ c ≠ 58 := by
  obtain ⟨m, n, rfl⟩ : ∃ m n, l = m ++ [n] := ⟨l.dropLast, l.getLast h, (List.dropLast_concat_getLast h).symm⟩
  obtain ⟨c, h1, h2⟩ := hexs_last n
  refine ⟨c, ?_, h2⟩
  by_cases hm : m = []
  · subst hm; exact h1
  · rw [J_snoc n hm, List.getLast?_append]
    have : (58 :: hexs n).getLast? = some c := by
      rw [List.getLast?_cons, h1]; rfl
    rw [this]; rfl
/-- What is written ahead of group k; the run goes from s to e (s = e: there is none). -/
def outK (g : List Nat) (s e k : Nat) : List UInt8 := if k ≤ s ∨ e = s then J (g.take k) else J (g.take s) ++ 58 :: 58 :: J ((g.take k).drop e)
theorem outK_zero (g : List Nat) (s e : Nat) : outK g s e 0 = [] := by unfold outK; rw [if_pos (Or.inl (Nat.zero_le _))]; rfl
theorem outK_all {g : List Nat} (hl : g.length = 8) : outK g (zrun (isZ g)).1 (zrun (isZ g)).2 8 = t6 g := by
  have Z := zrun_ok (bs := isZ g) (by simp [isZ, hl])
  unfold outK t6
  have e8 : g.take 8 = g := List.take_of_length_le (by omega)
  by_cases c : (zrun (isZ g)).2 = (zrun (isZ g)).1
  · rw [if_pos (Or.inr c), if_pos c, e8]; rfl
  · have := Z.2.2 c
    rw [if_neg (by omega), if_neg c, e8]; rfl
/-- One more group, behind a text that ends in a group; behind one that doesn't. -/
def addG (x : List UInt8) (n : Nat) : List UInt8 := (if x ≠ [] ∧ x.getLast? ≠ some 58 then x ++ [58] else x) ++ hexs n
theorem outK_low {g : List Nat} {s e k : Nat} (h : k ≤ s ∨ e = s) : outK g s e k = J (g.take k) := if_pos h
theorem outK_high {g : List Nat} {s e k : Nat} (h : ¬ (k ≤ s ∨ e = s)) : outK g s e k = J (g.take s) ++ 58 :: 58 :: J ((g.take k).drop e) := if_neg h
theorem addG_J {l : List Nat} (n : Nat) (x : List UInt8) (hx : x = [] ∨ ∃ y, x = y ++ [58]) : addG (x ++ J l) n = x ++ J (l ++ [n]) := by
  unfold addG
  by_cases h0 : l = []
  · subst h0
    rw [show J [] = [] from rfl, List.append_nil, List.nil_append, J_one]
    rcases hx with rfl | ⟨y, rfl⟩
    · rw [if_neg (fun q => q.1 rfl)]
    · rw [if_neg (fun q => q.2 (by rw [List.getLast?_append]; rfl))]
  · obtain ⟨c, h1, h2⟩ := J_last h0
    have e : (x ++ J l).getLast? = some c := by rw [List.getLast?_append, h1]; rfl
    rw [if_pos ⟨fun q => by rw [q] at e; simp at e, by rw [e]; simpa using h2⟩, J_snoc n h0]; simp
theorem outK_add {g : List Nat} {s e k n : Nat} (hs : s ≤ e) (hn : g[k]? = some n) (h : k < s ∨ e ≤ k) : outK g s e (k + 1) = addG (outK g s e k) n := by
  have hk : k < g.length := (List.getElem?_eq_some_iff.1 hn).1
  have ek : g.take (k + 1) = g.take k ++ [n] := by rw [List.take_add_one, hn]; rfl
  by_cases c : k + 1 ≤ s ∨ e = s
  · rw [outK_low c, outK_low (by omega), ek]
    have := addG_J (l := g.take k) n [] (Or.inl rfl)
    rw [List.nil_append, List.nil_append] at this
    exact this.symm
  · rw [outK_high c, ek, List.drop_append_of_le_length (by simp; omega)]
    have := addG_J (l := (g.take k).drop e) n (J (g.take s) ++ [58, 58]) (Or.inr ⟨J (g.take s) ++ [58], by simp⟩)
    by_cases c2 : k ≤ s ∨ e = s
    · omega
    · rw [outK_high c2]
      simpa using this.symm
theorem outK_start {g : List Nat} {s e : Nat} (hs : s + 2 ≤ e) (hl : s ≤ g.length) : outK g s e (s + 1) = outK g s e s ++ [58, 58] := by
  rw [outK_high (by omega), outK_low (by omega), List.drop_of_length_le (by simp; omega)]; rfl
theorem outK_skip {g : List Nat} {s e k : Nat} (h1 : s < k) (h2 : k < e) : outK g s e (k + 1) = outK g s e k := by
  rw [outK_high (by omega), outK_high (by omega), List.drop_of_length_le (by simp; omega), List.drop_of_length_le (by simp; omega)]
theorem outK_length {g : List Nat} (hg : ∀ n ∈ g, n < 65536) (s e k : Nat) (hk : g.length ≤ 8) : (outK g s e k).length ≤ 90 := by
  have b : ∀ l : List Nat, (∀ n ∈ l, n < 65536) → l.length ≤ 8 → (J l).length ≤ 40 := fun l h1 h2 => by
    have := hexs_bound h1 h2; rwa [str_size] at this
  unfold outK
  split
  · have := b (g.take k) (fun n hn => hg n (List.mem_of_mem_take hn)) (by simp; omega); omega
  · have := b (g.take s) (fun n hn => hg n (List.mem_of_mem_take hn)) (by simp; omega)
    have := b ((g.take k).drop e) (fun n hn => hg n (List.mem_of_mem_take (List.mem_of_mem_drop hn))) (by simp; omega)
    simp; omega
end Go.Proofs.YthghanidabmfgaaGreatDoor
namespace Go.Proofs.YthghanidabmfgaaGreatDoor
open Go.RowKit Go.Sort
set_option maxRecDepth 100000
theorem q_load {ops : Array Oper} {C : World → Prop} {Q : Act → Prop} {a : Act} {o : Oper} {rest : List Oper} (hw : Region.wanted o (yielded ops a.tmps) = true) (ty : TypeId) (x : Operand) (ho : o.op = .load ty x)
    (p : Addr) (hx : a.eval x = .pointer (some p)) (V : Value) (hS : ∀ w, C w → (Instr.loadAt ty (.pointer (some p))).run Tryz.prog w = .ok V w) (h : wpQuiet Tryz.prog ops C Q rest (a.put o.dst V)) : wpQuiet Tryz.prog ops C Q (o :: rest) a :=
  BigFrame.wpQuiet_want hw fun K hK => ⟨V, fun w hw => by
    have e : (execOp a.eval o).run Tryz.prog w = .ok (.value V) w := by
      unfold execOp
      simp only [ho, hx, Sem.run_bind, hS w hw, Result.andThen_ok, Sem.run_pure]
    unfold Oper.quietAt
    rw [e]
    exact ⟨rfl, rfl⟩, hK _ h⟩
theorem Blk.q_u8 {w : World} {g : Nat} {t : TypeId} {cs : Array Value} {j : Nat} {n : Int} (h : Blk w g t cs) (hj : cs[j]? = some (.int .u8 n)) : ∀ w', (∃ p : Regrown, w' = grow (redrawn w p.d) p.os) → (Instr.loadAt 5 (.pointer (some ⟨g, j, none⟩))).run Tryz.prog w' = .ok (.int .u8 n) w' := by
  rintro w' ⟨p, rfl⟩
  have c := (h.on (below_regrown w p.d p.os)).cell hj
  generalize grow (redrawn w p.d) p.os = w1 at *
  clear h hj
  simp [Instr.loadAt, go_sem, c]
/-- An address in its variable. -/
def Adr (w wr : World) (v : Bool) (b : List Int) : Prop := Blk wr w.heap.size 24 (adC v b) ∧ Below w.heap.size w wr
theorem Adr.on {w w1 w2 : World} {v : Bool} {b : List Int} (h : Adr w w1 v b) (hb : Below w1.heap.size w1 w2) : Adr w w2 v b := ⟨h.1.on hb, h.2.trans (hb.mono h.2.size)⟩
set_option maxHeartbeats 1000000 in
theorem r_print4 (b : List Int) (h : IsA b) (w : World) : Calls Tryz.prog 13 #[.agg (adC false b)] w fun e w' => e = .returned (.string (str (tx false b))) ∧ Below w.heap.size w w' := by
  obtain ⟨hl, hb⟩ := h
  have A0 : Hid (Adr w (w.alloc (.cells (adC false b) 24)) false b) := Lib.hid ⟨Blk.new _ _ _ rfl, below_alloc _ _⟩
  obtain ⟨x0, x1, x2, x3, r, rfl⟩ : ∃ x0 x1 x2 x3 r, b = x0 :: x1 :: x2 :: x3 :: r := by
    match b, hl with
    | x0 :: x1 :: x2 :: x3 :: r, _ => exact ⟨x0, x1, x2, x3, r, rfl⟩
  have d := fun n (hn : 0 ≤ n ∧ n ≤ 255) => Lib.hid (r_dec n (by omega))
  have D0 := d x0 (hb _ (by simp))
  have D1 := d x1 (hb _ (by simp))
  have D2 := d x2 (hb _ (by simp))
  have D3 := d x3 (hb _ (by simp))
  obtain ⟨y00, y01⟩ := hb x0 (by simp)
  obtain ⟨y10, y11⟩ := hb x1 (by simp)
  obtain ⟨y20, y21⟩ := hb x2 (by simp)
  obtain ⟨y30, y31⟩ := hb x3 (by simp)
  have sz := fun n (hn : 0 ≤ n ∧ n ≤ 255) => (show (str (Lib.itoa n)).size ≤ 4 by rw [str_size]; exact itoa_length n 3 (by omega) (by decide))
  have s0 := sz x0 ⟨y00, y01⟩
  have s1 := sz x1 ⟨y10, y11⟩
  have s2 := sz x2 ⟨y20, y21⟩
  have s3 := sz x3 ⟨y30, y31⟩
  have T : Hid (str (tx false (x0 :: x1 :: x2 :: x3 :: r)) = str (Lib.itoa x0) ++ ⟨#[46]⟩ ++ str (Lib.itoa x1) ++ ⟨#[46]⟩ ++ str (Lib.itoa x2) ++ ⟨#[46]⟩ ++ str (Lib.itoa x3)) := Lib.hid (bytes_eq (by simp [str, tx, t4, joinC]))
  clear hb d sz
  generalize str (Lib.itoa x0) = t0 at *
  generalize str (Lib.itoa x1) = t1 at *
  generalize str (Lib.itoa x2) = t2 at *
  generalize str (Lib.itoa x3) = t3 at *
  go_enter Tryz.func13, Tryz.ntmps13
  go_upto_region 1 with fail
  generalize w.alloc (.cells (adC false (x0 :: x1 :: x2 :: x3 :: r)) 24) = w1 at *
  have c0 := A0.out.1.cell (ad_head false _)
  go_upto_region 2 with fail
  have q0 := A0.out.1.q_u8 (show (adC false (x0 :: x1 :: x2 :: x3 :: r))[1]? = some (.int .u8 x0) from rfl)
  have q1 := A0.out.1.q_u8 (show (adC false (x0 :: x1 :: x2 :: x3 :: r))[2]? = some (.int .u8 x1) from rfl)
  have q2 := A0.out.1.q_u8 (show (adC false (x0 :: x1 :: x2 :: x3 :: r))[3]? = some (.int .u8 x2) from rfl)
  have q3 := A0.out.1.q_u8 (show (adC false (x0 :: x1 :: x2 :: x3 :: r))[4]? = some (.int .u8 x3) from rfl)
  refine wp_region_quiet_below (by kernel_rfl) (by kernel_rfl) ?_
  repeat (first
    | ((first | refine q_load rfl _ _ rfl _ rfl _ q0 ?_ | refine q_load rfl _ _ rfl _ rfl _ q1 ?_ | refine q_load rfl _ _ rfl _ rfl _ q2 ?_ | refine q_load rfl _ _ rfl _ rfl _ q3 ?_); (try simp only [Act.put, List.setIfInBounds_toArray, List.set_cons_zero, List.set_cons_succ]))
    | (go_big_quiet_step (first | (with_reducible exact (Calls.regrown_of (D0.out _))) | (with_reducible exact (Calls.regrown_of (D1.out _))) | (with_reducible exact (Calls.regrown_of (D2.out _))) | (with_reducible exact (Calls.regrown_of (D3.out _))))))
  (refine wpQuiet_nil ?_; intro _ hw'; obtain ⟨⟨dq, osq⟩, hw''⟩ := hw'; subst hw'')
  go_wp2
  go_ret
  exact ⟨by rw [T.out]; rfl, A0.out.2.trans ((below_quiet dq osq).mono A0.out.2.size)⟩
theorem isZ_get {g : List Nat} {i n : Nat} (h : g[i]? = some n) : (isZ g)[i]? = some (decide (n = 0)) := by simp [isZ, h]; rfl
/-- The loop that looks for the run. -/
def Fnd (w wr : World) (b : List Int) (g : List Nat) (k p q : Nat) : Prop := Adr w wr true b ∧ rrun (isZ g) k = (p, q) ∧ p ≤ 8 ∧ q ≤ 8
def Cnt (w wr : World) (b : List Int) (g : List Nat) (k d : Nat) : Prop := Adr w wr true b ∧ ∀ j, j < d → (isZ g)[k + j]? = some true
theorem Fnd.next {w wr w' : World} {b : List Int} {g : List Nat} {k d p q : Nat} (F : Fnd w wr b g k p q) (C : Cnt w w' b g k d) (h : (isZ g)[k + d]? ≠ some true) (hd : k + d ≤ 8) : Fnd w w' b g (k + 1) (if q < d then k else p) (if q < d then d else q) := by
  have e := rlen_is C.2 h
  refine ⟨C.1, ?_, ?_, ?_⟩
  · rw [rrun_succ, F.2.1]
    unfold rstep
    rw [e]
    by_cases c : q < d
    · rw [if_pos c, if_pos c, if_pos c]
    · rw [if_neg c, if_neg c, if_neg c]
  · have := F.2.2.1; split <;> omega
  · have := F.2.2.2; split <;> omega
/-- The loop that writes. -/
def Wrt (w wr : World) (b : List Int) (g : List Nat) (s e k : Nat) (x : List UInt8) : Prop := Adr w wr true b ∧ outK g s e k = x ∧ x.length ≤ 90
theorem Wrt.on {w w1 w2 : World} {b : List Int} {g : List Nat} {s e k : Nat} {x : List UInt8} (h : Wrt w w1 b g s e k x) (hb : Below w1.heap.size w1 w2) : Wrt w w2 b g s e k x := ⟨h.1.on hb, h.2⟩
theorem str_index (y : List UInt8) (c : UInt8) : 0 < (str (y ++ [c])).size ∧ ∀ h : (str (y ++ [c])).size - 1 < (str (y ++ [c])).size, (str (y ++ [c]))[(str (y ++ [c])).size - 1]'h = c := by
  have hs : (str (y ++ [c])).size = y.length + 1 := by rw [str_size]; simp
  refine ⟨by omega, fun h => ?_⟩
  have k : ∀ (i : Nat) (h : i < (str (y ++ [c])).size), i = y.length → (str (y ++ [c]))[i]'h = c := by
    rintro i h rfl
    show (str (y ++ [c])).data[y.length]'h = c
    simp [str]
  exact k _ h (by omega)
theorem nil_snoc {α : Type} (t : List α) : t = [] ∨ ∃ y c, t = y ++ [c] := by
  cases h : t.reverse with
  | nil => exact Or.inl (by simpa using h)
  | cons c r => exact Or.inr ⟨r.reverse, c, by have := congrArg List.reverse h; simpa using this⟩
theorem snoc_facts (y : List UInt8) (c : UInt8) : ∃ sx, str (y ++ [c]) = sx ∧ ∃ h : 0 < sx.size, (((sx[sx.size - 1]'(by omega)).toNat : Int) != 58) = decide (c ≠ 58) := by
  obtain ⟨h, ix⟩ := str_index y c
  refine ⟨_, rfl, h, ?_⟩
  rw [ix]
  by_cases hc : c = 58
  · subst hc; rfl
  · have : c.toNat ≠ 58 := fun q => hc (UInt8.toNat_inj.1 q)
    rw [decide_eq_true hc]
    simp; omega
set_option maxHeartbeats 2000000 in
theorem r_print6 (b : List Int) (h : IsA b) (w : World) : Calls Tryz.prog 13 #[.agg (adC true b)] w fun e w' => e = .returned (.string (str (tx true b))) ∧ Below w.heap.size w w' := by
  have hl := h.1
  have GR := Lib.hid (fun i hi n hn w => r_group true b h i hi n hn w)
  have hg := b2g_lt h.2
  have hgl := b2g_length 8 b hl
  rw [show tx true b = t6 (b2g b) from rfl]
  have A0 : Hid (Adr w (w.alloc (.cells (adC true b) 24)) true b) := Lib.hid ⟨Blk.new _ _ _ rfl, below_alloc _ _⟩
  clear h
  generalize b2g b = g at *
  have HG := Lib.hid hg
  clear hg
  go_enter Tryz.func13, Tryz.ntmps13
  go_upto_region 1 with fail
  generalize w.alloc (.cells (adC true b) 24) = w1 at *
  have c0 := A0.out.1.cell (ad_head true _)
  go_upto_region 5 with fail
  clear c0
  go_loopw [3, 4, 5] (fun a m i wr => ∃ k p q : Nat, k ≤ 8 ∧ a = .int .i64 p ∧ m = .int .i64 q ∧ i = .int .i64 k ∧ Hid (Fnd w wr b g k p q)) (fun _ _ i _ => 8 - (intOf i).toNat)
  case atStart => exact ⟨0, 0, 1, by omega, rfl, rfl, rfl, Lib.hid ⟨A0.out, rfl, by omega, by omega⟩⟩
  case round =>
    clear A0
    obtain ⟨k, p, q, hk, rfl, rfl, rfl, F⟩ := hrel
    have p8 := F.out.2.2.1
    have q8 := F.out.2.2.2
    by_cases hlt : k < 8
    · have hk8 : decide ((k : Int) < 8) = true := decide_eq_true (by omega)
      go_upto_region 8 with fail
      try simp only [hk8]
      clear hk8
      go_loopw [6] (fun n wr => ∃ d : Nat, k + d ≤ 8 ∧ n = .int .i64 d ∧ Hid (Cnt w wr b g k d)) (fun n _ => 8 - (intOf n).toNat)
      case atStart => exact ⟨0, by omega, rfl, Lib.hid ⟨F.out.1, fun j hj => by omega⟩⟩
      case round =>
        rename_i wq
        obtain ⟨d, hd, rfl, C⟩ := hrel
        by_cases hlt2 : k + d < 8
        · have e1 : g[k + d]? = some (g[k + d]'(by omega)) := List.getElem?_eq_getElem _
          have n1 := HG.out _ (List.getElem_mem (show k + d < g.length by omega))
          generalize g[k + d]'(by omega) = n at *
          have G1 := Lib.hid (GR.out (k + d) hlt2 n e1)
          have IZ := Lib.hid (isZ_get e1)
          have ec : ((k + d : Nat) : Int) = (k : Int) + (d : Int) := by omega
          rw [ec] at G1
          have hd1 : decide ((k : Int) + (d : Int) < 8) = true := decide_eq_true (by omega)
          have l0 := ld_addr hl C.out.1.1
          clear e1 ec
          by_cases hn : n = 0
          · subst hn
            have Z := Lib.hid (fun wr (h : Adr w wr true b) => (show Cnt w wr b g k (d + 1) from ⟨h, fun j hj => by
              by_cases e : j = d
              · subst e; exact IZ.out
              · exact C.out.2 j (by omega)⟩))
            clear IZ
            go_wp2_with (first
              | (refine wl_load rfl _ _ rfl _ rfl _ l0 ?_)
              | (go_at_call 26; refine (G1.out _).mono ?_; rintro e w4 ⟨rfl, hb⟩; have A4 := Lib.hid (C.out.1.on hb); clear hb l0))
            go_roundw
            case rel => exact ⟨d + 1, by omega, by go_num, Lib.hid (Z.out _ A4.out)⟩
            case measure => simp [intOf]; omega
          · have Z := Lib.hid (fun wr (h : Adr w wr true b) => F.out.next (show Cnt w wr b g k d from ⟨h, C.out.2⟩) (by rw [IZ.out]; simp [hn]) hd)
            have hn' : ((n : Int) == 0) = false := by simpa using hn
            clear IZ F
            by_cases c : q < d
            · rw [if_pos c, if_pos c] at Z
              have c' : (q : Int) < d := by omega
              go_wp2_with (first
                | (refine wl_load rfl _ _ rfl _ rfl _ l0 ?_)
                | (go_at_call 26; refine (G1.out _).mono ?_; rintro e w4 ⟨rfl, hb⟩; have A4 := Lib.hid (C.out.1.on hb); clear hb l0))
              go_roundw
              case rel => exact ⟨k + 1, k, d, by omega, rfl, rfl, by go_num, Lib.hid (Z.out _ A4.out)⟩
              case measure => simp [intOf]; omega
            · rw [if_neg c, if_neg c] at Z
              have c' : ¬ (q : Int) < d := by omega
              go_wp2_with (first
                | (refine wl_load rfl _ _ rfl _ rfl _ l0 ?_)
                | (go_at_call 26; refine (G1.out _).mono ?_; rintro e w4 ⟨rfl, hb⟩; have A4 := Lib.hid (C.out.1.on hb); clear hb l0))
              go_roundw
              case rel => exact ⟨k + 1, p, q, by omega, rfl, rfl, by go_num, Lib.hid (Z.out _ A4.out)⟩
              case measure => simp [intOf]; omega
        · have e8 : k + d = 8 := by omega
          have e8' : (k : Int) + d = 8 := by omega
          have Z := Lib.hid (F.out.next C.out (by rw [e8, List.getElem?_eq_none (by simp [isZ, hgl])]; simp) hd)
          clear F C
          by_cases c : q < d
          · rw [if_pos c, if_pos c] at Z
            have c' : (q : Int) < d := by omega
            go_wp2
            go_roundw
            case rel => exact ⟨k + 1, k, d, by omega, rfl, rfl, by go_num, Z⟩
            case measure => simp [intOf]; omega
          · rw [if_neg c, if_neg c] at Z
            have c' : ¬ (q : Int) < d := by omega
            go_wp2
            go_roundw
            case rel => exact ⟨k + 1, p, q, by omega, rfl, rfl, by go_num, Z⟩
            case measure => simp [intOf]; omega
    · obtain rfl : k = 8 := by omega
      have R := rrun_ok (bs := isZ g) (by simp [isZ, hgl])
      rw [F.out.2.1] at R
      have O := Lib.hid (outK_all hgl)
      have Z0 := zrun_ok (bs := isZ g) (by simp [isZ, hgl])
      generalize (zrun (isZ g)).1 = s at *
      generalize (zrun (isZ g)).2 = e at *
      have A := Lib.hid F.out.1
      clear F
      rcases R with ⟨rfl, rfl⟩ | ⟨ne, q2, rfl, rfl⟩
      · go_upto_region 15 with fail
        simp only [show ((1 : Nat) : Int) = 1 from rfl, show ((8 : Nat) : Int) = 8 from rfl]
        go_loopw [7, 8] (fun x i wr => ∃ (k : Nat) (t : List UInt8), k ≤ 8 ∧ x = .string (str t) ∧ i = .int .i64 k ∧ Hid (Wrt w wr b g e e k t)) (fun _ i _ => 8 - (intOf i).toNat)
        case atStart => exact ⟨0, [], by omega, rfl, rfl, Lib.hid ⟨A.out, outK_zero _ _ _, by simp⟩⟩
        case round =>
          obtain ⟨k, t, hk, rfl, rfl, W⟩ := hrel
          by_cases hlt : k < 8
          · have e1 : g[k]? = some (g[k]'(by omega)) := List.getElem?_eq_getElem _
            have n1 := HG.out _ (List.getElem_mem (show k < g.length by omega))
            generalize g[k]'(by omega) = n at *
            have G1 := Lib.hid (GR.out k hlt n e1)
            have D1 := Lib.hid (r_hexs n n1)
            have l0 := ld_addr hl W.out.1.1
            have N := Lib.hid (fun wr (h : Adr w wr true b) => (show Wrt w wr b g e e (k + 1) (addG t n) from ⟨h, by rw [outK_add (Nat.le_refl _) e1 (by omega), W.out.2.1], by rw [← W.out.2.1, ← outK_add (Nat.le_refl _) e1 (by omega)]; exact outK_length HG.out _ _ _ (by omega)⟩))
            have hz : (str (hexs n)).size ≤ 4 := by rw [str_size]; exact hexs_length 4 n (by omega) (by decide)
            have t90 : (str t).size ≤ 90 := by rw [str_size]; exact W.out.2.2
            clear e1
            rcases nil_snoc t with rfl | ⟨y, c, rfl⟩
            · have E : Hid (str (addG [] n) = str [] ++ str (hexs n)) := Lib.hid (bytes_eq (by simp [str, addG]))
              rw [show str [] = (⟨#[]⟩ : ByteArray) from rfl] at E t90
              simp only [show str [] = (⟨#[]⟩ : ByteArray) from rfl]
              generalize addG [] n = t' at *
              generalize str (hexs n) = sh at *
              go_upto_region 20 with fail
              go_wp2_with (first
                | (refine wl_load rfl _ _ rfl _ rfl _ l0 ?_)
                | (go_at_call 26; refine (G1.out _).mono ?_; rintro e w4 ⟨rfl, hb⟩; have A4 := Lib.hid (W.out.1.on hb); clear hb l0)
                | (go_at_call 25; refine (D1.out _).mono ?_; rintro e w5 ⟨rfl, hb⟩; have A5 := Lib.hid (A4.out.on hb); clear hb A4))
              go_roundw
              case rel => exact ⟨k + 1, t', by omega, by first | (rw [E.out]; done) | (rw [E.out]; rfl), by go_num, Lib.hid (N.out _ A5.out)⟩
              case measure => simp [intOf]; omega
            · obtain ⟨sx, hsx, h0, hix⟩ := snoc_facts y c
              by_cases hc : c = 58
              · have E : Hid (str (addG (y ++ [c]) n) = str (y ++ [c]) ++ str (hexs n)) := Lib.hid (by
                  unfold addG; rw [if_neg (fun q => q.2 (by rw [hc]; simp))]; exact bytes_eq (by simp [str]))
                rw [decide_eq_false (fun q => q hc)] at hix
                rw [hsx] at E t90
                simp only [hsx]
                generalize addG (y ++ [c]) n = t' at *
                generalize str (hexs n) = sh at *
                go_upto_region 20 with fail
                go_wp2_with (first
                  | (refine wl_load rfl _ _ rfl _ rfl _ l0 ?_)
                  | (go_at_call 26; refine (G1.out _).mono ?_; rintro e w4 ⟨rfl, hb⟩; have A4 := Lib.hid (W.out.1.on hb); clear hb l0)
                  | (go_at_call 25; refine (D1.out _).mono ?_; rintro e w5 ⟨rfl, hb⟩; have A5 := Lib.hid (A4.out.on hb); clear hb A4))
                go_roundw
                case rel => exact ⟨k + 1, t', by omega, by first | (rw [E.out]; done) | (rw [E.out]; rfl), by go_num, Lib.hid (N.out _ A5.out)⟩
                case measure => simp [intOf]; omega
              · have E : Hid (str (addG (y ++ [c]) n) = str (y ++ [c]) ++ ⟨#[58]⟩ ++ str (hexs n)) := Lib.hid (by
                  unfold addG; rw [if_pos ⟨by simp, by simpa using hc⟩]; exact bytes_eq (by simp [str]))
                rw [decide_eq_true hc] at hix
                rw [hsx] at E t90
                simp only [hsx]
                generalize addG (y ++ [c]) n = t' at *
                generalize str (hexs n) = sh at *
                go_upto_region 20 with fail
                go_wp2_with (first
                  | (refine wl_load rfl _ _ rfl _ rfl _ l0 ?_)
                  | (go_at_call 26; refine (G1.out _).mono ?_; rintro e w4 ⟨rfl, hb⟩; have A4 := Lib.hid (W.out.1.on hb); clear hb l0)
                  | (go_at_call 25; refine (D1.out _).mono ?_; rintro e w5 ⟨rfl, hb⟩; have A5 := Lib.hid (A4.out.on hb); clear hb A4))
                go_roundw
                case rel => exact ⟨k + 1, t', by omega, by first | (rw [E.out]; done) | (rw [E.out]; rfl), by go_num, Lib.hid (N.out _ A5.out)⟩
                case measure => simp [intOf]; omega
          · obtain rfl : k = 8 := by omega
            have E := Lib.hid (W.out.2.1.symm.trans O.out)
            rw [E.out]
            go_wp2
            go_ret
            exact ⟨rfl, W.out.1.2⟩
      · go_upto_region 15 with fail
        try simp only [show ((8 : Nat) : Int) = 8 from rfl]
        have hq1 : decide ((1 : Int) < (q : Int)) = true := decide_eq_true (by omega)
        go_loopw [7, 8] (fun x i wr => ∃ (k : Nat) (t : List UInt8), k ≤ 8 ∧ x = .string (str t) ∧ i = .int .i64 k ∧ Hid (Wrt w wr b g p (p + q) k t)) (fun _ i _ => 8 - (intOf i).toNat)
        case atStart => exact ⟨0, [], by omega, rfl, rfl, Lib.hid ⟨A.out, outK_zero _ _ _, by simp⟩⟩
        case round =>
          obtain ⟨k, t, hk, rfl, rfl, W⟩ := hrel
          by_cases hlt : k < 8
          · rcases Nat.lt_trichotomy k p with h1 | h1 | h1
            · have f1 : ((k : Int) == (p : Int)) = false := by simp; omega
              have f2 : decide ((p : Int) ≤ (k : Int)) = false := decide_eq_false (by omega)
              have e1 : g[k]? = some (g[k]'(by omega)) := List.getElem?_eq_getElem _
              have n1 := HG.out _ (List.getElem_mem (show k < g.length by omega))
              generalize g[k]'(by omega) = n at *
              have G1 := Lib.hid (GR.out k hlt n e1)
              have D1 := Lib.hid (r_hexs n n1)
              have l0 := ld_addr hl W.out.1.1
              have N := Lib.hid (fun wr (h : Adr w wr true b) => (show Wrt w wr b g p (p + q) (k + 1) (addG t n) from ⟨h, by rw [outK_add (Nat.le_add_right _ _) e1 (by omega), W.out.2.1], by rw [← W.out.2.1, ← outK_add (Nat.le_add_right _ _) e1 (by omega)]; exact outK_length HG.out _ _ _ (by omega)⟩))
              have hz : (str (hexs n)).size ≤ 4 := by rw [str_size]; exact hexs_length 4 n (by omega) (by decide)
              have t90 : (str t).size ≤ 90 := by rw [str_size]; exact W.out.2.2
              clear e1
              rcases nil_snoc t with rfl | ⟨y, c, rfl⟩
              · have E : Hid (str (addG [] n) = str [] ++ str (hexs n)) := Lib.hid (bytes_eq (by simp [str, addG]))
                rw [show str [] = (⟨#[]⟩ : ByteArray) from rfl] at E t90
                simp only [show str [] = (⟨#[]⟩ : ByteArray) from rfl]
                generalize addG [] n = t' at *
                generalize str (hexs n) = sh at *
                go_upto_region 20 with fail
                go_wp2_with (first
                  | (refine wl_load rfl _ _ rfl _ rfl _ l0 ?_)
                  | (go_at_call 26; refine (G1.out _).mono ?_; rintro e w4 ⟨rfl, hb⟩; have A4 := Lib.hid (W.out.1.on hb); clear hb l0)
                  | (go_at_call 25; refine (D1.out _).mono ?_; rintro e w5 ⟨rfl, hb⟩; have A5 := Lib.hid (A4.out.on hb); clear hb A4))
                go_roundw
                case rel => exact ⟨k + 1, t', by omega, by first | (rw [E.out]; done) | (rw [E.out]; rfl), by go_num, Lib.hid (N.out _ A5.out)⟩
                case measure => simp [intOf]; omega
              · obtain ⟨sx, hsx, h0, hix⟩ := snoc_facts y c
                by_cases hc : c = 58
                · have E : Hid (str (addG (y ++ [c]) n) = str (y ++ [c]) ++ str (hexs n)) := Lib.hid (by
                    unfold addG; rw [if_neg (fun q => q.2 (by rw [hc]; simp))]; exact bytes_eq (by simp [str]))
                  rw [decide_eq_false (fun q => q hc)] at hix
                  rw [hsx] at E t90
                  simp only [hsx]
                  generalize addG (y ++ [c]) n = t' at *
                  generalize str (hexs n) = sh at *
                  go_upto_region 20 with fail
                  go_wp2_with (first
                    | (refine wl_load rfl _ _ rfl _ rfl _ l0 ?_)
                    | (go_at_call 26; refine (G1.out _).mono ?_; rintro e w4 ⟨rfl, hb⟩; have A4 := Lib.hid (W.out.1.on hb); clear hb l0)
                    | (go_at_call 25; refine (D1.out _).mono ?_; rintro e w5 ⟨rfl, hb⟩; have A5 := Lib.hid (A4.out.on hb); clear hb A4))
                  go_roundw
                  case rel => exact ⟨k + 1, t', by omega, by first | (rw [E.out]; done) | (rw [E.out]; rfl), by go_num, Lib.hid (N.out _ A5.out)⟩
                  case measure => simp [intOf]; omega
                · have E : Hid (str (addG (y ++ [c]) n) = str (y ++ [c]) ++ ⟨#[58]⟩ ++ str (hexs n)) := Lib.hid (by
                    unfold addG; rw [if_pos ⟨by simp, by simpa using hc⟩]; exact bytes_eq (by simp [str]))
                  rw [decide_eq_true hc] at hix
                  rw [hsx] at E t90
                  simp only [hsx]
                  generalize addG (y ++ [c]) n = t' at *
                  generalize str (hexs n) = sh at *
                  go_upto_region 20 with fail
                  go_wp2_with (first
                    | (refine wl_load rfl _ _ rfl _ rfl _ l0 ?_)
                    | (go_at_call 26; refine (G1.out _).mono ?_; rintro e w4 ⟨rfl, hb⟩; have A4 := Lib.hid (W.out.1.on hb); clear hb l0)
                    | (go_at_call 25; refine (D1.out _).mono ?_; rintro e w5 ⟨rfl, hb⟩; have A5 := Lib.hid (A4.out.on hb); clear hb A4))
                  go_roundw
                  case rel => exact ⟨k + 1, t', by omega, by first | (rw [E.out]; done) | (rw [E.out]; rfl), by go_num, Lib.hid (N.out _ A5.out)⟩
                  case measure => simp [intOf]; omega
            · have f1 : ((k : Int) == (p : Int)) = true := by simp; omega
              have f2 : decide ((p : Int) ≤ (k : Int)) = true := decide_eq_true (by omega)
              have f3 : decide ((k : Int) < (p : Int) + (q : Int)) = true := decide_eq_true (by omega)
              have t90 : (str t).size ≤ 90 := by rw [str_size]; exact W.out.2.2
              have OS : outK g p (p + q) (k + 1) = t ++ [58, 58] := by
                have := outK_start (g := g) (s := p) (e := p + q) (by omega) (by omega)
                rw [← h1] at this ⊢
                rw [this]
                have k2 := W.out.2.1
                rw [← h1] at k2
                rw [k2]
              have N := Lib.hid (show Wrt w wr b g p (p + q) (k + 1) (t ++ [58, 58]) from ⟨W.out.1, OS, by rw [← OS]; exact outK_length HG.out _ _ _ (by omega)⟩)
              clear OS
              have E : Hid (str (t ++ [58, 58]) = str t ++ ⟨#[58, 58]⟩) := Lib.hid (bytes_eq (by simp [str]))
              generalize str t = st at *
              clear h1
              go_wp2
              go_roundw
              case rel => exact ⟨k + 1, t ++ [58, 58], by omega, by first | (rw [E.out]; done) | (rw [E.out]; rfl), by go_num, N⟩
              case measure => simp [intOf]; omega
            · by_cases h2 : k < p + q
              · have f1 : ((k : Int) == (p : Int)) = false := by simp; omega
                have f2 : decide ((p : Int) ≤ (k : Int)) = true := decide_eq_true (by omega)
                have f3 : decide ((k : Int) < (p : Int) + (q : Int)) = true := decide_eq_true (by omega)
                have N := Lib.hid (show Wrt w wr b g p (p + q) (k + 1) t from ⟨W.out.1, by rw [outK_skip h1 h2, W.out.2.1], W.out.2.2⟩)
                go_wp2
                go_roundw
                case rel => exact ⟨k + 1, t, by omega, rfl, by go_num, N⟩
                case measure => simp [intOf]; omega
              · have f1 : ((k : Int) == (p : Int)) = false := by simp; omega
                have f2 : decide ((p : Int) ≤ (k : Int)) = true := decide_eq_true (by omega)
                have f3 : decide ((k : Int) < (p : Int) + (q : Int)) = false := decide_eq_false (by omega)
                have e1 : g[k]? = some (g[k]'(by omega)) := List.getElem?_eq_getElem _
                have n1 := HG.out _ (List.getElem_mem (show k < g.length by omega))
                generalize g[k]'(by omega) = n at *
                have G1 := Lib.hid (GR.out k hlt n e1)
                have D1 := Lib.hid (r_hexs n n1)
                have l0 := ld_addr hl W.out.1.1
                have N := Lib.hid (fun wr (h : Adr w wr true b) => (show Wrt w wr b g p (p + q) (k + 1) (addG t n) from ⟨h, by rw [outK_add (Nat.le_add_right _ _) e1 (by omega), W.out.2.1], by rw [← W.out.2.1, ← outK_add (Nat.le_add_right _ _) e1 (by omega)]; exact outK_length HG.out _ _ _ (by omega)⟩))
                have hz : (str (hexs n)).size ≤ 4 := by rw [str_size]; exact hexs_length 4 n (by omega) (by decide)
                have t90 : (str t).size ≤ 90 := by rw [str_size]; exact W.out.2.2
                clear e1
                rcases nil_snoc t with rfl | ⟨y, c, rfl⟩
                · have E : Hid (str (addG [] n) = str [] ++ str (hexs n)) := Lib.hid (bytes_eq (by simp [str, addG]))
                  rw [show str [] = (⟨#[]⟩ : ByteArray) from rfl] at E t90
                  simp only [show str [] = (⟨#[]⟩ : ByteArray) from rfl]
                  generalize addG [] n = t' at *
                  generalize str (hexs n) = sh at *
                  go_upto_region 20 with fail
                  go_wp2_with (first
                    | (refine wl_load rfl _ _ rfl _ rfl _ l0 ?_)
                    | (go_at_call 26; refine (G1.out _).mono ?_; rintro e w4 ⟨rfl, hb⟩; have A4 := Lib.hid (W.out.1.on hb); clear hb l0)
                    | (go_at_call 25; refine (D1.out _).mono ?_; rintro e w5 ⟨rfl, hb⟩; have A5 := Lib.hid (A4.out.on hb); clear hb A4))
                  go_roundw
                  case rel => exact ⟨k + 1, t', by omega, by first | (rw [E.out]; done) | (rw [E.out]; rfl), by go_num, Lib.hid (N.out _ A5.out)⟩
                  case measure => simp [intOf]; omega
                · obtain ⟨sx, hsx, h0, hix⟩ := snoc_facts y c
                  by_cases hc : c = 58
                  · have E : Hid (str (addG (y ++ [c]) n) = str (y ++ [c]) ++ str (hexs n)) := Lib.hid (by
                      unfold addG; rw [if_neg (fun q => q.2 (by rw [hc]; simp))]; exact bytes_eq (by simp [str]))
                    rw [decide_eq_false (fun q => q hc)] at hix
                    rw [hsx] at E t90
                    simp only [hsx]
                    generalize addG (y ++ [c]) n = t' at *
                    generalize str (hexs n) = sh at *
                    go_upto_region 20 with fail
                    go_wp2_with (first
                      | (refine wl_load rfl _ _ rfl _ rfl _ l0 ?_)
                      | (go_at_call 26; refine (G1.out _).mono ?_; rintro e w4 ⟨rfl, hb⟩; have A4 := Lib.hid (W.out.1.on hb); clear hb l0)
                      | (go_at_call 25; refine (D1.out _).mono ?_; rintro e w5 ⟨rfl, hb⟩; have A5 := Lib.hid (A4.out.on hb); clear hb A4))
                    go_roundw
                    case rel => exact ⟨k + 1, t', by omega, by first | (rw [E.out]; done) | (rw [E.out]; rfl), by go_num, Lib.hid (N.out _ A5.out)⟩
                    case measure => simp [intOf]; omega
                  · have E : Hid (str (addG (y ++ [c]) n) = str (y ++ [c]) ++ ⟨#[58]⟩ ++ str (hexs n)) := Lib.hid (by
                      unfold addG; rw [if_pos ⟨by simp, by simpa using hc⟩]; exact bytes_eq (by simp [str]))
                    rw [decide_eq_true hc] at hix
                    rw [hsx] at E t90
                    simp only [hsx]
                    generalize addG (y ++ [c]) n = t' at *
                    generalize str (hexs n) = sh at *
                    go_upto_region 20 with fail
                    go_wp2_with (first
                      | (refine wl_load rfl _ _ rfl _ rfl _ l0 ?_)
                      | (go_at_call 26; refine (G1.out _).mono ?_; rintro e w4 ⟨rfl, hb⟩; have A4 := Lib.hid (W.out.1.on hb); clear hb l0)
                      | (go_at_call 25; refine (D1.out _).mono ?_; rintro e w5 ⟨rfl, hb⟩; have A5 := Lib.hid (A4.out.on hb); clear hb A4))
                    go_roundw
                    case rel => exact ⟨k + 1, t', by omega, by first | (rw [E.out]; done) | (rw [E.out]; rfl), by go_num, Lib.hid (N.out _ A5.out)⟩
                    case measure => simp [intOf]; omega
          · obtain rfl : k = 8 := by omega
            have E := Lib.hid (W.out.2.1.symm.trans O.out)
            rw [E.out]
            go_wp2
            go_ret
            exact ⟨rfl, W.out.1.2⟩
/-! ### Print, Ends -/
theorem r_print (v : Bool) (b : List Int) (h : IsA b) (w : World) : Calls Tryz.prog 13 #[.agg (adC v b)] w fun e w' => e = .returned (.string (str (tx v b))) ∧ Below w.heap.size w w' := by
  cases v
  · exact r_print4 b h w
  · exact r_print6 b h w
theorem Blk.q_u16 {w : World} {g : Nat} {t : TypeId} {cs : Array Value} {j : Nat} {n : Int} (h : Blk w g t cs) (hj : cs[j]? = some (.int .u16 n)) : ∀ w', (∃ p : Regrown, w' = grow (redrawn w p.d) p.os) → (Instr.loadAt 25 (.pointer (some ⟨g, j, none⟩))).run Tryz.prog w' = .ok (.int .u16 n) w' := by
  rintro w' ⟨p, rfl⟩
  have c := (h.on (below_regrown w p.d p.os)).cell hj
  generalize grow (redrawn w p.d) p.os = w1 at *
  clear h hj
  simp [Instr.loadAt, go_sem, c]
theorem Blk.q_endsAddr {w : World} {g : Nat} {t : TypeId} {v : Bool} {b : List Int} {p : Int} (h : Blk w g t (enC v b p)) (hl : b.length = 16) : ∀ w', (∃ p : Regrown, w' = grow (redrawn w p.d) p.os) → (Instr.loadAt 24 (.pointer (some ⟨g, 0, none⟩))).run Tryz.prog w' = .ok (.agg (adC v b)) w' := by
  rintro w' ⟨p, rfl⟩
  exact ld_endsAddr hl (h.on (below_regrown w p.d p.os))
set_option maxHeartbeats 1000000 in
theorem r_ends (v : Bool) (b : List Int) (p : Int) (h : IsA b) (hp : 0 ≤ p ∧ p ≤ 65535) (w : World) : Calls Tryz.prog 14 #[.agg (enC v b p)] w fun e w' => e = .returned (.string (str (te v b p))) ∧ Below w.heap.size w w' := by
  have hl := h.1
  have P := Lib.hid (fun w => r_print v b h w)
  have D := Lib.hid (fun w => r_dec p hp w)
  have B0 : Hid (Blk (w.alloc (.cells (enC v b p) 32)) w.heap.size 32 (enC v b p)) := Lib.hid (Blk.new _ _ _ rfl)
  have S0 := Lib.hid (below_alloc w (.cells (enC v b p) 32))
  have k1 : (str (tx v b)).size ≤ 90 := by rw [str_size]; exact tx_bound h
  have k2 : (str (Lib.itoa p)).size ≤ 6 := by rw [str_size]; exact itoa_length p 5 (by omega) (by decide)
  obtain ⟨p0, p1⟩ := hp
  have TE : Hid (str (te v b p) = if v then ⟨#[91]⟩ ++ str (tx v b) ++ ⟨#[93, 58]⟩ ++ str (Lib.itoa p) else str (tx v b) ++ ⟨#[58]⟩ ++ str (Lib.itoa p)) := Lib.hid (by
    cases v <;> exact bytes_eq (by simp [str, te]))
  clear h
  generalize str (Lib.itoa p) = sp at *
  generalize str (tx v b) = s at *
  generalize str (te v b p) = q at *
  go_enter Tryz.func14, Tryz.ntmps14
  go_upto_region 1 with fail
  generalize w.alloc (.cells (enC v b p) 32) = w1 at *
  have c0 := B0.out.cell (en_head v b p)
  have q0 := B0.out.q_endsAddr hl
  have q1 := B0.out.q_u16 (en_port hl)
  cases v
  · go_upto_region 3 with fail
    clear c0
    refine wp_region_quiet_below (by kernel_rfl) (by kernel_rfl) ?_
    repeat (first
      | ((first | refine q_load rfl _ _ rfl _ rfl _ q0 ?_ | refine q_load rfl _ _ rfl _ rfl _ q1 ?_); (try simp only [Act.put, List.setIfInBounds_toArray, List.set_cons_zero, List.set_cons_succ]))
      | (go_big_quiet_step (first | (with_reducible exact (Calls.regrown_of (P.out _))) | (with_reducible exact (Calls.regrown_of (D.out _))))))
    (refine wpQuiet_nil ?_; intro _ hw'; obtain ⟨⟨dq, osq⟩, hw''⟩ := hw'; subst hw'')
    go_wp2
    go_ret
    exact ⟨by rw [TE.out]; rfl, S0.out.trans ((below_quiet dq osq).mono S0.out.size)⟩
  · go_upto_region 2 with fail
    clear c0
    refine wp_region_quiet_below (by kernel_rfl) (by kernel_rfl) ?_
    repeat (first
      | ((first | refine q_load rfl _ _ rfl _ rfl _ q0 ?_ | refine q_load rfl _ _ rfl _ rfl _ q1 ?_); (try simp only [Act.put, List.setIfInBounds_toArray, List.set_cons_zero, List.set_cons_succ]))
      | (go_big_quiet_step (first | (with_reducible exact (Calls.regrown_of (P.out _))) | (with_reducible exact (Calls.regrown_of (D.out _))))))
    (refine wpQuiet_nil ?_; intro _ hw'; obtain ⟨⟨dq, osq⟩, hw''⟩ := hw'; subst hw'')
    go_wp2
    go_ret
    exact ⟨by rw [TE.out]; rfl, S0.out.trans ((below_quiet dq osq).mono S0.out.size)⟩
end Go.Proofs.YthghanidabmfgaaGreatDoor
