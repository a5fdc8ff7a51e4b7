/-
  The document's numbers (horologeref06): digits, Number.
  The document's words (horologeref06): Word, Line.
  The document's line (horologeref06): Line.
-/
import Derived.Test.YtcipgagpmglikaaGreatDoorConvB
import Derived.Test.YtcipgagpmglikaaGreatDoorLine7
import Derived.Test.YtcipgagpmglikaaGreatDoorWrap6
import Derived.Deep.LoopGhost
import Derived.Test.YtcipgagpmglikaaGreatDoorHeavy6
namespace Go.Proofs.YtcipgagpmglikaaGreatDoor
open Go.RowKit Go.Sort
set_option maxRecDepth 8000
theorem dec_size {n : Nat} (h : n < 18446744073709551616) : (⟨(Lib.decDigits n).toArray⟩ : ByteArray).size ≤ 20 := by
  have := nDigits_le 20 n (by omega) (by decide)
  show (Lib.decDigits n).toArray.size ≤ 20
  simp [Lib.decDigits_length]
  omega
theorem conv_one (w : World) (c : UInt8) (x : Int) (hx : (c.toNat : Int) = x) : (convert 49 9 (.slice (some ⟨w.heap.size, 0, none⟩) 1 1)).run Tryz.prog (w.alloc (.cells #[.int .u8 x] 5)) = .ok (.string ⟨#[c]⟩) (w.alloc (.cells #[.int .u8 x] 5)) := by
  subst hx
  have n := Blk.new w 5 #[.int .u8 (c.toNat : Int)] rfl
  exact conv_bytes (l := [c]) ⟨some ⟨w.heap.size, 0, none⟩, 1, rfl, Or.inr ⟨w.heap.size, 0, rfl, n.lt, fun j hj => by
    obtain rfl : j = 0 := by simp at hj; omega
    exact n.cell (j := 0) rfl⟩⟩
set_option maxHeartbeats 1000000 in
theorem r_digits (k : Nat) : ∀ (n : Nat) (w : World), n < 10 ^ k → n < 18446744073709551616 → Calls Tryz.prog 30 #[.int .u64 n] w fun ex w' => ex = .returned (.string ⟨(Lib.decDigits n).toArray⟩) ∧ Below w.heap.size w w' := by
  induction k with
  | zero =>
    intro n w h hn
    obtain rfl : n = 0 := by simp at h; exact h
    have cv := conv_one w 48 48 rfl
    have D := Lib.hid (show Lib.decDigits 0 = [48] by rw [Lib.decDigits, dif_pos (by decide)]; rfl)
    clear h hn
    go_enter Tryz.func30, Tryz.ntmps30
    go_wp2
    go_ret
    exact ⟨by rw [D.out]; rfl, below_alloc _ _⟩
  | succ k ih =>
    intro n w h hn
    obtain ⟨d, hd⟩ : ∃ d, d = n % 10 := ⟨_, rfl⟩
    have hr : (n : Int) % 10 = (d : Int) := by omega
    have d10 : d < 10 := by omega
    obtain ⟨c, hc⟩ : ∃ c : UInt8, c = UInt8.ofNat (48 + d) := ⟨_, rfl⟩
    have cv := conv_one w c (48 + (d : Int)) (by rw [hc, UInt8.toNat_ofNat']; omega)
    have d10' : (d : Int) < 10 := by omega
    have n64 : (n : Int) < 18446744073709551616 := by omega
    by_cases hs : n < 10
    · have hs' : (n : Int) < 10 := by omega
      have D := Lib.hid (show Lib.decDigits n = [c] by rw [Lib.decDigits, dif_pos hs, hc, hd, Nat.mod_eq_of_lt hs])
      clear h hn hd hs ih hc d10
      go_enter Tryz.func30, Tryz.ntmps30
      go_wp2
      go_ret
      exact ⟨by rw [D.out]; rfl, below_alloc _ _⟩
    · have hs' : ¬ (n : Int) < 10 := by omega
      obtain ⟨q, hq⟩ : ∃ q, q = n / 10 := ⟨_, rfl⟩
      have hq' : (n : Int) / 10 = (q : Int) := by omega
      have IH := Lib.hid (fun w => ih q w (by rw [Nat.pow_succ] at h; omega) (by omega))
      have sq := dec_size (n := q) (by omega)
      have D := Lib.hid (show (⟨(Lib.decDigits q).toArray⟩ : ByteArray) ++ ⟨#[c]⟩ = ⟨(Lib.decDigits n).toArray⟩ by
        rw [dec_big hs, hc, hd, hq]; exact bytes_eq (by simp))
      generalize (⟨(Lib.decDigits q).toArray⟩ : ByteArray) = a at *
      generalize (⟨(Lib.decDigits n).toArray⟩ : ByteArray) = r at *
      have f1 : ∀ W, (Op.stringOp .add a ⟨#[c]⟩).run Tryz.prog W = .ok (.string r) W := fun W => by
        rw [← D.out]; exact run_string_add_sum W _ _ (by have e : (⟨#[c]⟩ : ByteArray).size = 1 := rfl; omega)
      have hs1 : a.size ≤ 20 := sq
      clear h hn hd hs ih hc d10 hq
      go_enter Tryz.func30, Tryz.ntmps30
      go_wp2_with fail
      refine (IH.out _).mono ?_
      rintro e w1 ⟨rfl, hb⟩
      go_wp2
      go_ret
      exact ⟨rfl, (below_alloc _ _).trans (hb.mono (below_alloc _ _).size)⟩
theorem r_number (n : Int) (h : W64 n) (w : World) : Calls Tryz.prog 17 #[.int .i64 n] w fun ex w' => ex = .returned (.string (txt n)) ∧ Below w.heap.size w w' := by
  unfold W64 at h
  by_cases hn : n < 0
  · obtain ⟨m, hm⟩ : ∃ m : Nat, m = n.natAbs := ⟨_, rfl⟩
    have D := Lib.hid (fun w => r_digits 20 m w (by omega) (by omega))
    have sm := dec_size (n := m) (by omega)
    have T := Lib.hid (show (⟨#[45]⟩ : ByteArray) ++ ⟨(Lib.decDigits m).toArray⟩ = txt n by
      rw [hm]; exact bytes_eq (by rw [txt_list, Lib.itoa, if_pos hn]; simp))
    generalize (⟨(Lib.decDigits m).toArray⟩ : ByteArray) = a at *
    generalize txt n = r at *
    have f1 : ∀ W, (Op.stringOp .add ⟨#[45]⟩ a).run Tryz.prog W = .ok (.string r) W := fun W => by
      rw [← T.out]; exact run_string_add_sum W _ _ (by have e : (⟨#[45]⟩ : ByteArray).size = 1 := rfl; omega)
    obtain ⟨U, hU⟩ : ∃ U : Int, U = 18446744073709551616 - m := ⟨_, rfl⟩
    have e1 : IntKind.wrap .u64 n = U := by simp [IntKind.wrap, IntKind.signed, IntKind.bits]; omega
    have e2 : IntKind.wrap .u64 (-U) = (m : Int) := by simp [IntKind.wrap, IntKind.signed, IntKind.bits]; omega
    clear h hm hU
    go_enter Tryz.func17, Tryz.ntmps17
    go_wp2_with fail
    refine (D.out _).mono ?_
    rintro e w1 ⟨rfl, hb⟩
    go_wp2
    go_ret
    exact ⟨rfl, hb⟩
  · obtain ⟨m, hm⟩ : ∃ m : Nat, m = n.toNat := ⟨_, rfl⟩
    have D := Lib.hid (fun w => r_digits 20 m w (by omega) (by omega))
    have T := Lib.hid (show (⟨(Lib.decDigits m).toArray⟩ : ByteArray) = txt n by
      rw [hm]; exact bytes_eq (by rw [txt_list, Lib.itoa, if_neg hn]))
    rw [T.out] at D
    generalize txt n = r at *
    have e1 : IntKind.wrap .u64 n = (m : Int) := by simp [IntKind.wrap, IntKind.signed, IntKind.bits]; omega
    clear h hm T
    go_enter Tryz.func17, Tryz.ntmps17
    go_wp2_with fail
    refine (D.out _).mono ?_
    rintro e w1 ⟨rfl, hb⟩
    go_wp2
    go_ret
    exact ⟨rfl, hb⟩
end Go.Proofs.YtcipgagpmglikaaGreatDoor
namespace Go.Proofs.YtcipgagpmglikaaGreatDoor
open Go.RowKit Go.Sort
set_option maxRecDepth 8000
theorem wordW_may (s : ByteArray) : wordW s = if decide (1 ≤ s.size ∧ s.size ≤ 32) && s.data.toList.all okB then s else ⟨#[63]⟩ := by
  unfold wordW mayW
  rw [len_list]
  have e : s.data.toList.isEmpty = decide (s.size = 0) := by
    rw [Bool.eq_iff_iff, List.isEmpty_iff, decide_eq_true_eq, ← len_list, List.length_eq_zero_iff]
  rw [e]
  congr 1
  simp only [eq_iff_iff, Bool.and_eq_true, Bool.not_eq_true', decide_eq_false_iff_not, decide_eq_true_eq]
  constructor
  · rintro ⟨⟨h1, h2⟩, h3⟩; exact ⟨⟨by omega, h2⟩, h3⟩
  · rintro ⟨⟨h1, h2⟩, h3⟩; exact ⟨⟨by omega, h2⟩, h3⟩
set_option maxHeartbeats 2000000 in
theorem r_word (s : ByteArray) (hs : s.size ≤ 4000) (w : World) : Calls Tryz.prog 27 #[.string s] w fun ex w' => ex = .returned (.string (wordW s)) ∧ Below w.heap.size w w' := by
  obtain ⟨r, hr⟩ : ∃ r, r = wordW s := ⟨_, rfl⟩
  rw [← hr]
  obtain ⟨b0, hb0⟩ : ∃ b0, b0 = (decide ((1 : Int) ≤ (s.size : Nat)) && decide ((s.size : Int) ≤ 32)) := ⟨_, rfl⟩
  have R := Lib.hid (show r = if b0 && s.data.toList.all okB then s else ⟨#[63]⟩ by
    rw [hr, wordW_may, hb0]
    have e : (decide ((1 : Int) ≤ (s.size : Nat)) && decide ((s.size : Int) ≤ 32)) = decide (1 ≤ s.size ∧ s.size ≤ 32) := by
      rw [Bool.eq_iff_iff]; simp only [Bool.and_eq_true, decide_eq_true_eq]; omega
    rw [e])
  clear hr
  have B0 := Lib.hid hb0
  have hs' : (s.size : Int) ≤ 4000 := by omega
  go_enter Tryz.func27, Tryz.ntmps27
  go_upto_region 1 with fail
  go_cut [3] from 6 to 13 (fun v wr => v = .bool b0 ∧ wr = w)
  case first =>
    by_cases h1 : 1 ≤ s.size
    · have h1' : (1 : Int) ≤ s.size := by omega
      by_cases h2 : s.size ≤ 32
      · have h2' : (s.size : Int) ≤ 32 := by omega
        have E := Lib.hid (show b0 = true by rw [B0.out]; simp; omega)
        clear hb0 h1 h2
        go_wp2
        go_meet
        exact ⟨by rw [E.out], rfl⟩
      · have h2' : ¬ (s.size : Int) ≤ 32 := by omega
        have E := Lib.hid (show b0 = false by rw [B0.out]; simp; omega)
        clear hb0 h1 h2
        go_wp2
        go_meet
        exact ⟨by rw [E.out], rfl⟩
    · have h1' : ¬ (1 : Int) ≤ s.size := by omega
      have E := Lib.hid (show b0 = false by rw [B0.out]; simp; omega)
      clear hb0 h1
      go_wp2
      go_meet
      exact ⟨by rw [E.out], rfl⟩
  case rest =>
  obtain ⟨rfl, rfl⟩ := hcut
  go_wp2
  go_loopg [3, 4] (s.size) (fun g v3 v4 wr => wr = wc ∧ ∃ (k : Nat) (b : Bool), k ≤ s.size ∧ g = s.size - k ∧ v4 = .int .i64 k ∧ v3 = .bool b ∧ Hid (b = (b0 && (s.data.toList.take k).all okB)))
  case atStart => exact ⟨rfl, 0, _, Nat.zero_le _, rfl, rfl, rfl, Lib.hid (by simp [B0.out])⟩
  case round =>
    obtain ⟨rfl, k, b, hk, rfl, rfl, rfl, A⟩ := hrel
    by_cases hlt : k < s.size
    · have hlt' : (k : Int) < s.size := by omega
      have LT := Lib.hid hlt
      have nx := Lib.hid (take_byte s k hlt)
      cases b with
      | false =>
        have A1 := Lib.hid (show false = (b0 && (s.data.toList.take (k + 1)).all okB) by rw [nx.out, List.all_append, ← Bool.and_assoc, ← A.out]; rfl)
        clear hk
        go_wp2
        go_roundg (s.size - (k + 1))
        case rel => exact ⟨rfl, k + 1, false, LT.out, rfl, by go_num, rfl, A1⟩
        case measure => have := LT.out; omega
      | true =>
        have A1 := Lib.hid (show okR (s[k]).toNat = (b0 && (s.data.toList.take (k + 1)).all okB) by
          rw [nx.out, List.all_append, ← Bool.and_assoc, ← A.out]; simp only [List.all_cons, List.all_nil, Bool.and_true, Bool.true_and, okB]; rfl)
        clear hk
        have cl : ∃ c, c = (s[k]).toNat := ⟨_, rfl⟩
        obtain ⟨c, hc⟩ := cl
        rw [← hc] at A1
        have hcc : ((s[k]).toNat : Int) = (c : Int) := by rw [hc]
        clear hc
        rcases okR_cases c with ⟨hk1, (h | h | h)⟩ | ⟨hk1, (h | h | h | h)⟩
        · have b1 : (97 : Int) ≤ c := by omega
          have b2 : (c : Int) ≤ 122 := by omega
          have K := Lib.hid (show true = (b0 && (s.data.toList.take (k + 1)).all okB) by rw [← A1.out, hk1])
          clear h A1
          go_wp2
          go_roundg (s.size - (k + 1))
          case rel => exact ⟨rfl, k + 1, true, LT.out, rfl, by go_num, by first | rfl | (congr 1; simp; omega), K⟩
          case measure => have := LT.out; omega
        · have b1 : (c : Int) < 97 := by omega
          have b3 : (48 : Int) ≤ c := by omega
          have b4 : (c : Int) ≤ 57 := by omega
          have K := Lib.hid (show true = (b0 && (s.data.toList.take (k + 1)).all okB) by rw [← A1.out, hk1])
          clear h A1
          go_wp2
          go_roundg (s.size - (k + 1))
          case rel => exact ⟨rfl, k + 1, true, LT.out, rfl, by go_num, by first | rfl | (congr 1; simp; omega), K⟩
          case measure => have := LT.out; omega
        · have b1 : (c : Int) = 45 := by omega
          have K := Lib.hid (show true = (b0 && (s.data.toList.take (k + 1)).all okB) by rw [← A1.out, hk1])
          clear h A1
          go_wp2
          go_roundg (s.size - (k + 1))
          case rel => exact ⟨rfl, k + 1, true, LT.out, rfl, by go_num, by first | rfl | (congr 1; simp; omega), K⟩
          case measure => have := LT.out; omega
        · have b1 : (c : Int) < 45 := by omega
          have e5 : ((c : Int) == 45) = false := by simp; omega
          have e6 : ((c : Int) != 45) = true := by simp; omega
          have e7 : ¬ (c : Int) = 45 := by omega
          have K := Lib.hid (show false = (b0 && (s.data.toList.take (k + 1)).all okB) by rw [← A1.out, hk1])
          clear h A1
          go_wp2
          go_roundg (s.size - (k + 1))
          case rel => exact ⟨rfl, k + 1, false, LT.out, rfl, by go_num, by first | rfl | (congr 1; simp; omega), K⟩
          case measure => have := LT.out; omega
        · have b1 : (c : Int) < 48 := by omega
          have b2 : (45 : Int) < c := by omega
          have e5 : ((c : Int) == 45) = false := by simp; omega
          have e6 : ((c : Int) != 45) = true := by simp; omega
          have e7 : ¬ (c : Int) = 45 := by omega
          have K := Lib.hid (show false = (b0 && (s.data.toList.take (k + 1)).all okB) by rw [← A1.out, hk1])
          clear h A1
          go_wp2
          go_roundg (s.size - (k + 1))
          case rel => exact ⟨rfl, k + 1, false, LT.out, rfl, by go_num, by first | rfl | (congr 1; simp; omega), K⟩
          case measure => have := LT.out; omega
        · have b1 : (c : Int) < 97 := by omega
          have b2 : (57 : Int) < c := by omega
          have b3 : (48 : Int) ≤ c := by omega
          have b4 : ¬ (c : Int) ≤ 57 := by omega
          have e5 : ((c : Int) == 45) = false := by simp; omega
          have e6 : ((c : Int) != 45) = true := by simp; omega
          have e7 : ¬ (c : Int) = 45 := by omega
          have K := Lib.hid (show false = (b0 && (s.data.toList.take (k + 1)).all okB) by rw [← A1.out, hk1])
          clear h A1
          go_wp2
          go_roundg (s.size - (k + 1))
          case rel => exact ⟨rfl, k + 1, false, LT.out, rfl, by go_num, by first | rfl | (congr 1; simp; omega), K⟩
          case measure => have := LT.out; omega
        · have b1 : (122 : Int) < c := by omega
          have b2 : (97 : Int) ≤ c := by omega
          have b3 : (48 : Int) ≤ c := by omega
          have b4 : ¬ (c : Int) ≤ 57 := by omega
          have b5 : ¬ (c : Int) ≤ 122 := by omega
          have e5 : ((c : Int) == 45) = false := by simp; omega
          have e6 : ((c : Int) != 45) = true := by simp; omega
          have e7 : ¬ (c : Int) = 45 := by omega
          have K := Lib.hid (show false = (b0 && (s.data.toList.take (k + 1)).all okB) by rw [← A1.out, hk1])
          clear h A1
          go_wp2
          go_roundg (s.size - (k + 1))
          case rel => exact ⟨rfl, k + 1, false, LT.out, rfl, by go_num, by first | rfl | (congr 1; simp; omega), K⟩
          case measure => have := LT.out; omega
    · obtain rfl : k = s.size := by omega
      rw [List.take_of_length_le (by rw [len_list]; exact Nat.le_refl _)] at A
      have K := Lib.hid (show r = if b then s else ⟨#[63]⟩ by rw [R.out, A.out])
      clear hlt hk A
      cases b with
      | true => go_wp2; go_ret; exact ⟨by rw [K.out]; rfl, Below.refl _ _⟩
      | false => go_wp2; go_ret; exact ⟨by rw [K.out]; rfl, Below.refl _ _⟩
end Go.Proofs.YtcipgagpmglikaaGreatDoor
namespace Go.Proofs.YtcipgagpmglikaaGreatDoor
open Go.RowKit Go.Sort
set_option maxRecDepth 8000
/-- The words so far, each with a colon and a blank. -/
def preW (ws : List ByteArray) : ByteArray := ws.foldl (fun a s => a ++ s ++ colB) ⟨#[]⟩
theorem preW_snoc (ws : List ByteArray) (s : ByteArray) : preW (ws ++ [s]) = preW ws ++ s ++ colB := by simp [preW, List.foldl_append]
theorem app_list (a b : ByteArray) : (a ++ b).data.toList = a.data.toList ++ b.data.toList := by simp
theorem pre_line (k o : Int) (ws : List ByteArray) : ∀ a : ByteArray, ws.foldl (fun a s => a ++ s ++ colB) a ++ lineW k o [] = a ++ lineW k o ws := by
  induction ws with
  | nil => intro a; rfl
  | cons s r ih =>
    intro a
    rw [List.foldl_cons, ih]
    exact bytes_eq (by simp only [app_list, lineW, List.append_assoc])
theorem line_whole (k o : Int) (ws : List ByteArray) : preW ws ++ kindB ++ txt k ++ atB ++ txt o = lineW k o ws := by
  have h := pre_line k o ws ⟨#[]⟩
  have e : (⟨#[]⟩ : ByteArray) ++ lineW k o ws = lineW k o ws := bytes_eq (by simp)
  rw [e] at h
  rw [← h]
  exact bytes_eq (by simp only [app_list, lineW, List.append_assoc]; rfl)
theorem preW_size (ws : List ByteArray) (h : ∀ s ∈ ws, s.size ≤ 1000) : (preW ws).size ≤ 1002 * ws.length := by
  have g : ∀ (ws : List ByteArray) (a : ByteArray), (∀ s ∈ ws, s.size ≤ 1000) → (ws.foldl (fun a s => a ++ s ++ colB) a).size ≤ a.size + 1002 * ws.length := by
    intro ws
    induction ws with
    | nil => intro a _; simp
    | cons s r ih =>
      intro a h
      have := ih (a ++ s ++ colB) fun x hx => h x (List.mem_cons_of_mem _ hx)
      have := h s List.mem_cons_self
      have e : colB.size = 2 := rfl
      simp only [List.foldl_cons, List.length_cons, add_sz] at *
      omega
  have := g ws ⟨#[]⟩ h
  have e : (⟨#[]⟩ : ByteArray).size = 0 := rfl
  unfold preW
  omega
set_option maxHeartbeats 2000000 in
theorem r_line (ws : List ByteArray) (v : Value) (k o : Int) (hk : W64 k) (ho : W64 o) (w : World) (h : Strs w v ws) (hl : ws.length ≤ 100) (hz : ∀ s ∈ ws, s.size ≤ 1000) :
    Calls Tryz.prog 12 #[v, .int .i64 k, .int .i64 o] w fun ex w' => ex = .returned (.string (lineW k o ws)) ∧ Below w.heap.size w w' := by
  obtain ⟨a, c, rfl, hc, hx⟩ := h.at
  have HX := Lib.hid hx
  have HZ := Lib.hid hz
  have KK := Lib.hid (fun w => r_number k hk w)
  have OO := Lib.hid (fun w => r_number o ho w)
  have hl' : (ws.length : Int) ≤ 100 := by omega
  have HL := Lib.hid hl
  have LW := Lib.hid (line_whole k o ws)
  have s1 := txt_small hk
  have s2 := txt_small ho
  generalize lineW k o ws = r at *
  generalize txt k = tk at *
  generalize txt o = tt at *
  clear h hx hz hk ho hl
  go_enter Tryz.func12, Tryz.ntmps12
  go_wp2
  go_loopg [7, 8] (ws.length) (fun g v7 v8 wr => wr = w ∧ ∃ j : Nat, j ≤ ws.length ∧ g = ws.length - j ∧ v8 = .int .i64 j ∧ ∃ p, v7 = .string p ∧ Hid (p = preW (ws.take j)))
  case atStart => exact ⟨rfl, 0, Nat.zero_le _, rfl, rfl, _, rfl, rfl⟩
  case round =>
    obtain ⟨rfl, j, hj, rfl, rfl, p, rfl, P⟩ := hrel
    have sp : p.size ≤ 100200 := by
      have := preW_size (ws.take j) fun s hs => HZ.out s (List.mem_of_mem_take hs)
      rw [← P.out, List.length_take] at this
      have := HL.out
      omega
    by_cases hlt : j < ws.length
    · obtain ⟨b, q, x, rfl, hx, hcell⟩ := HX.out j hlt
      have hlt' : (j : Int) < ws.length := by omega
      have sx := HZ.out x (List.mem_of_getElem? hx)
      obtain ⟨p1, hp1⟩ : ∃ p1, p1 = p ++ x := ⟨_, rfl⟩
      obtain ⟨p2, hp2⟩ : ∃ p2, p2 = p1 ++ colB := ⟨_, rfl⟩
      have s3 : p1.size ≤ 101200 := by rw [hp1, add_sz]; omega
      have f1 : ∀ W, (Op.stringOp .add p x).run Tryz.prog W = .ok (.string p1) W := fun W => by rw [hp1]; exact run_string_add_sum W _ _ (by omega)
      have f2 : ∀ W, (Op.stringOp .add p1 ⟨#[58, 32]⟩).run Tryz.prog W = .ok (.string p2) W := fun W => by rw [hp2]; exact run_string_add_sum W _ _ (by have e : (⟨#[58, 32]⟩ : ByteArray).size = 2 := rfl; omega)
      have P2 := Lib.hid (show p2 = preW (ws.take (j + 1)) by
        have lt := hlt
        rw [List.take_succ_eq_append_getElem hlt, preW_snoc, ← P.out, hp2, hp1]
        rw [(List.getElem?_eq_some_iff.1 hx).2])
      have LT := Lib.hid hlt
      clear hp1 hp2 hx hlt sp sx s3 P hj
      go_wp2
      go_roundg (ws.length - (j + 1))
      case rel => exact ⟨rfl, j + 1, LT.out, rfl, by go_num, p2, rfl, P2⟩
      case measure => have := LT.out; omega
    · obtain rfl : j = ws.length := by omega
      rw [List.take_of_length_le (Nat.le_refl _)] at P
      obtain ⟨p1, hp1⟩ : ∃ p1, p1 = p ++ kindB := ⟨_, rfl⟩
      obtain ⟨p2, hp2⟩ : ∃ p2, p2 = p1 ++ tk := ⟨_, rfl⟩
      obtain ⟨p3, hp3⟩ : ∃ p3, p3 = p2 ++ atB := ⟨_, rfl⟩
      have s3 : p1.size ≤ 100205 := by have e : kindB.size = 5 := rfl; rw [hp1, add_sz]; omega
      have s4 : p2.size ≤ 100245 := by rw [hp2, add_sz]; omega
      have s5 : p3.size ≤ 100249 := by have e : atB.size = 4 := rfl; rw [hp3, add_sz]; omega
      have f1 : ∀ W, (Op.stringOp .add p ⟨#[107, 105, 110, 100, 32]⟩).run Tryz.prog W = .ok (.string p1) W := fun W => by rw [hp1]; exact run_string_add_sum W _ _ (by have e : (⟨#[107, 105, 110, 100, 32]⟩ : ByteArray).size = 5 := rfl; omega)
      have f2 : ∀ W, (Op.stringOp .add p1 tk).run Tryz.prog W = .ok (.string p2) W := fun W => by rw [hp2]; exact run_string_add_sum W _ _ (by omega)
      have f3 : ∀ W, (Op.stringOp .add p2 ⟨#[32, 97, 116, 32]⟩).run Tryz.prog W = .ok (.string p3) W := fun W => by rw [hp3]; exact run_string_add_sum W _ _ (by have e : (⟨#[32, 97, 116, 32]⟩ : ByteArray).size = 4 := rfl; omega)
      have f4 : ∀ W, (Op.stringOp .add p3 tt).run Tryz.prog W = .ok (.string r) W := fun W => by
        rw [show r = p3 ++ tt by rw [hp3, hp2, hp1, P.out]; exact LW.out.symm]; exact run_string_add_sum W _ _ (by omega)
      clear hp1 hp2 hp3 sp s1 s2 s3 s4 s5 P LW hlt hj
      go_wp2_with fail
      refine (KK.out _).mono ?_
      rintro e w1 ⟨rfl, hb1⟩
      go_wp2_with fail
      refine (OO.out _).mono ?_
      rintro e w2 ⟨rfl, hb2⟩
      go_wp2
      go_ret
      exact ⟨rfl, hb1.trans (hb2.mono hb1.size)⟩
end Go.Proofs.YtcipgagpmglikaaGreatDoor
