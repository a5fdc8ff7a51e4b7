/-
  The document's numbers as texts: Num (horologeref04).
-/
import Derived.Test.YtednmodeoofbgaaDoorSay
import Derived.Test.YtednmodeoofbgaaDoorRefZ
namespace Go.Proofs.YtednmodeoofbgaaDoor
open Go.RowKit Go.Sort
set_option maxRecDepth 8000
/-- The pieces from i on divided by ten. -/
def quo (V : Int) (i : Nat) : Nat → Int := fun j => if j < i then dig V j else dig (V / 10) j
theorem quo_start (b : Bool) (V : Int) : numC b (dig V) = numC b (quo V 20) := numC_congr b (fun i hi => by unfold quo; rw [if_pos hi])
theorem quo_end (V : Int) : quo V 0 = dig (V / 10) := by funext j; simp [quo]
theorem quo_digit (V : Int) (i : Nat) :
    (65536 * (V / 65536 ^ (i + 1) % 10) + dig V i) / 10 = dig (V / 10) i ∧ (65536 * (V / 65536 ^ (i + 1) % 10) + dig V i) % 10 = V / 65536 ^ i % 10 := by
  have s := step65 V i
  have e : V / 10 / 65536 ^ i = V / 65536 ^ i / 10 := by rw [Int.ediv_ediv_of_nonneg (by omega), Int.mul_comm, ← Int.ediv_ediv_of_nonneg (by have := pow_pos65 i; omega)]
  have d := dig_bd V i
  constructor
  · show _ = V / 10 / 65536 ^ i % 65536
    rw [e]
    generalize V / 65536 ^ i = A at *
    generalize V / 65536 ^ (i + 1) = B at *
    generalize dig V i = D at *
    omega
  · generalize V / 65536 ^ i = A at *
    generalize V / 65536 ^ (i + 1) = B at *
    generalize dig V i = D at *
    omega
theorem quo_step (V : Int) (i : Nat) : upd (quo V (i + 1)) i ((65536 * (V / 65536 ^ (i + 1) % 10) + dig V i) / 10) = quo V i := by
  rw [(quo_digit V i).1]
  funext j
  unfold upd quo
  by_cases h : j = i
  · subst h; simp
  · rw [if_neg h]
    by_cases h2 : j < i
    · rw [if_pos h2, if_pos (by omega)]
    · rw [if_neg h2, if_neg (by omega)]
theorem quo_at (V : Int) (i : Nat) : quo V (i + 1) i = dig V i := by unfold quo; rw [if_pos (by omega)]
/-- How far the digits are out. -/
def Out (N V : Int) (tail : List UInt8) : Prop := 0 ≤ V ∧ V ≤ N ∧ ((tail = [] ∧ V = N) ∨ (tail ≠ [] ∧ (if V = 0 then tail else Lib.decDigits V.toNat ++ tail) = Lib.decDigits N.toNat))
theorem Out.step {N V : Int} {tail : List UInt8} (h : Out N V tail) (hz : tail = [] ∨ V ≠ 0) : Out N (V / 10) (UInt8.ofNat (48 + (V % 10).toNat) :: tail) := by
  obtain ⟨h0, h1, h2⟩ := h
  refine ⟨by omega, by omega, Or.inr ⟨by simp, ?_⟩⟩
  have e : (if V = 0 then tail else Lib.decDigits V.toNat ++ tail) = Lib.decDigits N.toNat ∨ (tail = [] ∧ V = 0 ∧ N = 0) := by
    rcases h2 with ⟨a, b⟩ | ⟨a, b⟩
    · subst a b
      by_cases hv : V = 0
      · exact Or.inr ⟨rfl, hv, hv⟩
      · left; rw [if_neg hv, List.append_nil]
    · exact Or.inl b
  rcases e with e | ⟨rfl, rfl, rfl⟩
  · by_cases hv : V = 0
    · subst hv
      rcases hz with rfl | hz
      · rcases h2 with ⟨_, b⟩ | ⟨a, _⟩
        · rw [← b]; simp; rw [Lib.decDigits, dif_pos (by decide)]; rfl
        · exact absurd rfl a
      · exact absurd rfl hz
    · rw [if_neg hv] at e
      rw [← e]
      by_cases hs : V < 10
      · rw [if_pos (by omega), Lib.decDigits, dif_pos (by omega), show (V % 10).toNat = V.toNat by omega]; rfl
      · rw [if_neg (by omega), dec_big (u := V.toNat) (by omega), show (V / 10).toNat = V.toNat / 10 by omega, show (V % 10).toNat = V.toNat % 10 by omega]
        simp
  · simp; rw [Lib.decDigits, dif_pos (by decide)]; rfl
theorem Out.done {N : Int} {tail : List UInt8} (h : Out N 0 tail) (ht : tail ≠ []) : tail = Lib.decDigits N.toNat := by
  obtain ⟨_, _, ⟨a, _⟩ | ⟨_, b⟩⟩ := h
  · exact absurd a ht
  · simpa using b
theorem Out.room {N V : Int} {tail : List UInt8} (h : Out N V tail) (hz : tail = [] ∨ V ≠ 0) : tail.length < Lib.nDigits N.toNat := by
  rw [← Lib.decDigits_length]
  obtain ⟨h0, h1, ⟨a, b⟩ | ⟨a, b⟩⟩ := h
  · subst a; have := dec_ne N.toNat; cases hh : Lib.decDigits N.toNat with
    | nil => exact absurd hh this
    | cons c l => simp
  · rcases hz with hz | hz
    · exact absurd hz a
    · rw [if_neg hz] at b
      rw [← b, List.length_append, Lib.decDigits_length]
      have := Lib.nDigits_pos V.toNat
      omega
/-- How long the text in a slot is. -/
def lenOf (v : Value) : Nat := match v with | .string s => s.size | _ => 0
theorem lenOf_list (l : List UInt8) : lenOf (.string ⟨l.toArray⟩) = l.length := by show l.toArray.size = _; simp
/-- The number in its variable, on its way out. -/
def OutRel (w wr : World) (b : Bool) (N : Int) (v : Value) : Prop := ∃ (V : Int) (tail : List UInt8), Out N V tail ∧ v = .string ⟨tail.toArray⟩ ∧ NumAt wr w.heap.size b (dig V) ∧ Below w.heap.size w wr
/-- .. on its way through a division by ten. -/
def DivRel (w wr : World) (b : Bool) (V : Int) (r i : Value) : Prop := ∃ k : Nat, k ≤ 20 ∧ i = .int .i64 ((k : Int) - 1) ∧ r = .int .u64 (V / 65536 ^ k % 10) ∧ NumAt wr w.heap.size b (quo V k) ∧ Below w.heap.size w wr
theorem num_room {m : Int} (h : Sz m) : Lib.nDigits m.toNat ≤ 97 :=
  nDigits_le 97 m.toNat (by have := h.2; have e : (65536 : Int) ^ 20 ≤ 10 ^ 97 := by decide
                            have e2 : ((10 ^ 97 : Nat) : Int) = 10 ^ 97 := by decide
                            have := h.1
                            omega) (by decide)
theorem conv_one (w : World) (v : Int) (h0 : 0 ≤ v) (h1 : v < 10) :
    (convert 51 9 (.slice (some ⟨w.heap.size, 0, none⟩) 1 1)).run Tryd.prog (w.alloc (.cells #[.int .u8 (48 + v)] 5)) = .ok (.string ⟨#[UInt8.ofNat (48 + v.toNat)]⟩) (w.alloc (.cells #[.int .u8 (48 + v)] 5)) := by
  have h := run_convert_bytes_back (P := Tryd.prog) (w.alloc (.cells #[.int .u8 (48 + v)] 5)) 51 9 5 ⟨w.heap.size, 0, none⟩ 1 [UInt8.ofNat (48 + v.toNat)] Tryd.underlying51 Tryd.underlying5 Tryd.underlying9 (fun j hj => by
    have hj : j = 0 := by simpa using hj
    subst hj
    rw [Lib.add_plain, World.cell?_alloc_new]
    have := dig_toNat v.toNat (by omega)
    simp only [List.getElem_cons_zero, this]
    simp
    omega)
  exact h
theorem cons_bytes (c : UInt8) (l : List UInt8) : (⟨#[c]⟩ : ByteArray) ++ ⟨l.toArray⟩ = ⟨(c :: l).toArray⟩ := bytes_eq (by simp)
set_option maxHeartbeats 1000000 in
theorem num_pos (b : Bool) (m : Int) (hm : Sz m) (hb : b = true → m = 0) (w : World) (hg : Glob w) :
    Calls Tryd.prog 9 #[.agg (numC b (dig m))] w fun e w' => e = .returned (.string ⟨(Lib.decDigits m.toNat).toArray⟩) ∧ Below w.heap.size w w' := by
  have G := Lib.hid hg
  have Z := Lib.hid (r_zero b m hm)
  have M := Lib.hid hm
  have W : Hid (NumAt (w.alloc (.cells (numC b (dig m)) 28)) w.heap.size b (dig m) ∧ Below w.heap.size w (w.alloc (.cells (numC b (dig m)) 28))) := Lib.hid ⟨NumAt.new _ _ _ rfl, below_alloc _ _⟩
  clear hg hm
  go_enter Tryd.func9, Tryd.ntmps9
  go_upto_region 1 with fail
  generalize w.alloc (.cells (numC b (dig m)) 28) = w1 at *
  have c0 := W.out.1.cell0
  go_cut [13] from 7 to 14 (fun v wr => v = .bool false ∧ Hid (NumAt wr w.heap.size b (dig m) ∧ Below w.heap.size w wr))
  case first =>
    cases b
    · go_wp2
      go_meet
      exact ⟨rfl, W⟩
    · have e0 := hb rfl
      rw [show decide (m = 0) = true from decide_eq_true e0] at Z
      clear e0 hb
      go_wp2_with (first
        | (refine load_num rfl (.tmp 1) rfl w.heap.size rfl _ _ W.out.1 ?_)
        | (go_at_call 31; refine (Z.out _ (G.out.below W.out.2)).mono ?_; rintro e w2 ⟨rfl, hb⟩; have W2 := Lib.hid (show NumAt w2 w.heap.size true (dig m) ∧ Below w.heap.size w w2 from ⟨W.out.1.on hb, W.out.2.trans (hb.mono W.out.2.size)⟩); clear hb W c0))
      go_meet
      exact ⟨rfl, W2⟩
  case rest =>
  obtain ⟨rfl, hW⟩ := hcut
  obtain ⟨w2, rfl⟩ : ∃ v : World, v = wc := ⟨_, rfl⟩
  clear W c0 w1 hb Z
  go_wp2
  go_loopw [3] (fun v wr => OutRel w wr b m v) (fun v _ => Lib.nDigits m.toNat - lenOf v)
  case atStart => exact ⟨m, [], ⟨M.out.1, Int.le_refl _, Or.inl ⟨rfl, rfl⟩⟩, rfl, hW.out.1, hW.out.2⟩
  case round =>
    clear hW
    obtain ⟨V, tail, hO, rfl, hN, hB⟩ := hrel
    have S := Lib.hid (show NumAt wr w.heap.size b (dig V) ∧ Below w.heap.size w wr from ⟨hN, hB⟩)
    have O := Lib.hid hO
    have SV : Hid (Sz V) := Lib.hid ⟨hO.1, Int.lt_of_le_of_lt hO.2.1 M.out.2⟩
    clear hN hB hO
    go_upto_region 5 with fail
    go_cut [24] from 18 to 25 (fun v wq => v = .bool (decide (tail = [] ∨ V ≠ 0)) ∧ Hid (NumAt wq w.heap.size b (dig V) ∧ Below w.heap.size w wq))
    case first =>
      by_cases ht : tail = []
      · have D := Lib.hid (show decide (tail = [] ∨ V ≠ 0) = true by simp [ht])
        subst ht
        go_wp2
        go_meet
        exact ⟨by rw [D.out], S⟩
      · have D := Lib.hid (show decide (tail = [] ∨ V ≠ 0) = !decide (V = 0) by simp [ht])
        have Z := Lib.hid (r_zero b V SV.out)
        have k : (tail == []) = false := by simpa using ht
        generalize decide (V = 0) = z at *
        clear ht
        go_wp2_with (first
          | (refine load_num rfl (.tmp 1) rfl w.heap.size rfl _ _ S.out.1 ?_)
          | (go_at_call 31; refine (Z.out _ (G.out.below S.out.2)).mono ?_; rintro e w2 ⟨rfl, hb⟩; have S2 := Lib.hid (show NumAt w2 w.heap.size b (dig V) ∧ Below w.heap.size w w2 from ⟨S.out.1.on hb, S.out.2.trans (hb.mono S.out.2.size)⟩); clear hb S))
        go_meet
        exact ⟨by rw [D.out], S2⟩
    case rest =>
    obtain ⟨rfl, hW⟩ := hcut
    obtain ⟨w3, rfl⟩ : ∃ v : World, v = wc := ⟨_, rfl⟩
    clear S
    by_cases hc : tail = [] ∨ V ≠ 0
    · have SP := Lib.hid (O.out.step hc)
      have RM := Lib.hid (O.out.room hc)
      rw [decide_eq_true hc]
      clear hc O
      go_wp2
      go_loopw [4, 5] (fun r i wq => DivRel w wq b V r i) (fun _ i _ => (intOf i + 1).toNat)
      case atStart => exact ⟨20, Nat.le_refl _, rfl, by rw [Int.ediv_eq_zero_of_lt SV.out.1 SV.out.2]; rfl, by unfold NumAt; rw [← quo_start]; exact hW.out.1, hW.out.2⟩
      case round =>
        obtain ⟨k, hk, rfl, rfl, hN, hB⟩ := hrel
        clear hW
        by_cases h0 : k = 0
        · subst h0
          rw [quo_end] at hN
          rw [show V / 65536 ^ 0 % 10 = V % 10 by simp, show ((0 : Nat) : Int) - 1 = -1 from rfl]
          have N := Lib.hid hN
          have B := Lib.hid hB
          have v0 : 0 ≤ V % 10 := by omega
          have v1 : V % 10 < 10 := by omega
          clear hN hB
          generalize hv : V % 10 = v at *
          clear hv
          go_upto_region 13 with fail
          have cv := conv_one wr v v0 v1
          have hl : tail.length ≤ 200 := by have := RM.out; have := num_room M.out; omega
          have ec := Lib.hid (show (48 : UInt8) + UInt8.ofNat v.toNat = UInt8.ofNat (48 + v.toNat) by simp [UInt8.ofNat_add])
          go_wp2
          go_roundw
          case rel => exact ⟨V / 10, UInt8.ofNat (48 + v.toNat) :: tail, SP.out, by rw [ec.out, cons_bytes], N.out.alloc _, B.out.alloc B.out.size _⟩
          case measure =>
            rw [ec.out, cons_bytes, lenOf_list, lenOf_list, List.length_cons]
            have := RM.out
            omega
        · obtain ⟨j, rfl⟩ : ∃ j, k = j + 1 := ⟨k - 1, by omega⟩
          have Q := Lib.hid (quo_digit V j)
          have QS := Lib.hid (quo_step V j)
          have c := hN.cell (k := j) (by omega)
          have f := hN.free (1 + j)
          rw [quo_at] at c
          have d := dig_bd V j
          have rb : 0 ≤ V / 65536 ^ (j + 1) % 10 ∧ V / 65536 ^ (j + 1) % 10 < 10 := by omega
          have N := Lib.hid hN
          have B := Lib.hid hB
          rw [show (((j + 1 : Nat) : Int) - 1) = (j : Int) by omega]
          clear hN hB h0
          generalize hr : V / 65536 ^ (j + 1) % 10 = r at *
          generalize hd : dig V j = dv at *
          obtain ⟨d0, d1⟩ := d
          obtain ⟨r0, r1⟩ := rb
          clear hr hd
          have hj : j < 20 := by omega
          go_wp2
          go_roundw
          case rel => exact ⟨j, by omega, rfl, by rw [Q.out.2], by rw [← QS.out]; exact N.out.put hj _, B.out.setCell (Nat.le_refl _) _⟩
          case measure => first | (simp [intOf]; done) | (simp [intOf]; omega)
    · have E := Lib.hid (show tail = Lib.decDigits m.toNat from by
        have h0 : V = 0 := Decidable.byContradiction fun h => hc (Or.inr h)
        have := O.out
        rw [h0] at this
        exact this.done fun h => hc (Or.inl h))
      rw [decide_eq_false hc]
      clear hc O
      go_wp2
      go_ret
      exact ⟨by rw [E.out]; rfl, hW.out.2⟩
/-- The document's text of a number. -/
theorem r_text (b : Bool) (m v : Int) (hm : Sz m) (hv : vz b m = v) : Gives 9 #[.agg (numC b (dig m))] (.string (txt v)) := fun w hg => by
  by_cases hb : b = true ∧ m ≠ 0
  · obtain ⟨rfl, h0⟩ := hb
    have hp := hm.1
    have e : txt v = (⟨#[45]⟩ : ByteArray) ++ ⟨(Lib.decDigits m.toNat).toArray⟩ := bytes_eq (by
      rw [txt_list, ← hv]
      unfold vz Lib.itoa
      rw [if_pos rfl, if_pos (by omega), show (-m).natAbs = m.toNat by omega]
      simp)
    rw [e]
    have G := Lib.hid hg
    have Z := Lib.hid ((r_zero true m hm).as rfl (v' := .bool false) (by rw [decide_eq_false h0]))
    have I := Lib.hid (fun w => num_pos false m hm (fun h => by cases h) w)
    have hl := num_room hm
    have hs : (Lib.decDigits m.toNat).length ≤ 97 := by rw [Lib.decDigits_length]; exact hl
    have W : Hid (NumAt (w.alloc (.cells (numC true (dig m)) 28)) w.heap.size true (dig m) ∧ Below w.heap.size w (w.alloc (.cells (numC true (dig m)) 28))) := Lib.hid ⟨NumAt.new _ _ _ rfl, below_alloc _ _⟩
    generalize Lib.decDigits m.toNat = ds at *
    clear hg hm hv e hl hp h0
    go_enter Tryd.func9, Tryd.ntmps9
    go_upto_region 1 with fail
    generalize w.alloc (.cells (numC true (dig m)) 28) = w1 at *
    have c0 := W.out.1.cell0
    go_wp2_with (first
      | (refine load_num rfl (.tmp 1) rfl w.heap.size rfl _ _ W.out.1 ?_)
      | (go_at_call 31; refine (Z.out _ (G.out.below W.out.2)).mono ?_; rintro e w2 ⟨rfl, hb⟩; have W2 := Lib.hid (show NumAt w2 w.heap.size true (dig m) ∧ Below w.heap.size w w2 from ⟨W.out.1.on hb, W.out.2.trans (hb.mono W.out.2.size)⟩); clear hb W c0; have c0 := W2.out.1.cell0; have f0 := W2.out.1.free 0; have W3 := Lib.hid (show NumAt _ w.heap.size false (dig m) ∧ Below w.heap.size w (w2.setCell ⟨w.heap.size, 0, none⟩ (.bool false)) from ⟨W2.out.1.sign false, W2.out.2.setCell (Nat.le_refl _) _⟩))
      | (refine load_num rfl (.tmp 1) rfl w.heap.size rfl _ _ W3.out.1 ?_)
      | (go_at_call 9; refine (I.out _ (G.out.below W3.out.2)).mono ?_; rintro e w4 ⟨rfl, hb⟩; have W4 := Lib.hid (W3.out.2.trans (hb.mono W3.out.2.size)); clear hb))
    go_ret
    exact ⟨rfl, W4.out⟩
  · have e : txt v = ⟨(Lib.decDigits m.toNat).toArray⟩ := bytes_eq (by
      rw [txt_list, ← hv]
      have hp := hm.1
      have : vz b m = m := by unfold vz; cases b <;> simp at * <;> omega
      rw [this]
      unfold Lib.itoa
      rw [if_neg (by omega)])
    rw [e]
    exact num_pos b m hm (fun h => Decidable.byContradiction fun h0 => hb ⟨h, h0⟩) w hg
end Go.Proofs.YtednmodeoofbgaaDoor
