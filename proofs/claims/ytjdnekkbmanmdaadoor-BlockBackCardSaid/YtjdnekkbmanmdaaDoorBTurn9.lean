/-
  Package block: Turn.
-/
import Derived.Test.YtjdnekkbmanmdaaDoorBBytes9
namespace Go.Proofs.YtjdnekkbmanmdaaDoor
open Go.RowKit Go.Sort
set_option maxRecDepth 8000
theorem turnB_ways (l : List UInt8) : ((sectB.take (l.take 4).length == l.take 4) = false ∧ turnB l = (false, 120)) ∨ ((sectB.take (l.take 4).length == l.take 4) = true ∧ l.length < 12 ∧ turnB l = (false, 121)) ∨
    ((sectB.take (l.take 4).length == l.take 4) = true ∧ ¬ l.length < 12 ∧ gv l false 8 4 = 439041101 ∧ turnB l = (false, 0)) ∨
    ((sectB.take (l.take 4).length == l.take 4) = true ∧ ¬ l.length < 12 ∧ gv l false 8 4 ≠ 439041101 ∧ gv l true 8 4 = 439041101 ∧ turnB l = (true, 0)) ∨
    ((sectB.take (l.take 4).length == l.take 4) = true ∧ ¬ l.length < 12 ∧ gv l false 8 4 ≠ 439041101 ∧ gv l true 8 4 ≠ 439041101 ∧ turnB l = (false, 120)) := by
  have e1 : l.take (min l.length 4) = l.take 4 := by
    by_cases h : l.length ≤ 4
    · rw [Nat.min_eq_left h, List.take_of_length_le (Nat.le_refl _), List.take_of_length_le h]
    · rw [Nat.min_eq_right (by omega)]
  have e2 : (l.take 4).length = min l.length 4 := by rw [List.length_take, Nat.min_comm]
  unfold turnB
  rw [e1, e2]
  by_cases h1 : l.take 4 = sectB.take (min l.length 4)
  · right
    have h1' : (sectB.take (min l.length 4) == l.take 4) = true := by rw [h1]; simp
    rw [if_neg (by simp [h1])]
    by_cases h2 : l.length < 12
    · left; exact ⟨h1', h2, if_pos h2⟩
    · right
      rw [if_neg h2]
      have g : ∀ b, gv l b 8 4 = le (ord b ((l.drop 8).take 4)) := fun b => by
        unfold gv gok; rw [if_pos (by simp; omega)]; rfl
      have pl : ((l.drop 8).take 4).length = 4 := piece_length l 8 4 (by omega)
      have m : ∀ b, gv l b 8 4 = 439041101 ↔ (l.drop 8).take 4 = ord b (lowB 439041101 4) := fun b => by
        rw [g b]
        constructor
        · intro h
          have : ord b ((l.drop 8).take 4) = lowB 439041101 4 := le_inj4 (by rw [ord_length, low_length, pl]) (by rw [h, le_low])
          rw [← this, ord_ord]
        · intro h
          rw [h, ord_ord, le_low]
      by_cases h3 : gv l false 8 4 = 439041101
      · left; exact ⟨h1', h2, h3, by rw [if_pos ((m false).1 h3)]⟩
      · right
        rw [if_neg (fun h => h3 ((m false).2 h))]
        by_cases h4 : gv l true 8 4 = 439041101
        · left; exact ⟨h1', h2, h3, h4, by rw [if_pos ((m true).1 h4)]⟩
        · right; exact ⟨h1', h2, h3, h4, by rw [if_neg (fun h => h4 ((m true).2 h))]⟩
  · left
    exact ⟨by rw [beq_eq_false_iff_ne]; exact fun h => h1 h.symm, by rw [if_pos h1]⟩
theorem KSt.turned {w wr : World} {v0 v1 : Value} {T : TypeId} (h : KSt w wr (.cells #[v0, v1] T (0, 0))) (u : Value) : KSt w (wr.setCell ⟨w.heap.size, 1, none⟩ u) (.cells #[v0, u] T (0, 0)) :=
  ⟨by rw [heap_setCell_same wr w.heap.size 1 _ _ u h.1]; rfl, h.2.setCell (by exact Nat.le_refl _) _⟩
def turnV (o : Bool × Nat) : Value := .tuple #[.bool o.1, .int .i64 o.2]
set_option maxHeartbeats 4000000 in
theorem t_turnB (v : Value) (l : List UInt8) (w : World) (hB : Byt w v l) (hz : l.length ≤ 140737488355328) :
    Calls Tryd.prog 9 #[v] w fun e w' => e = .returned (turnV (turnB l)) ∧ Below w.heap.size w w' := by
  obtain ⟨ad, c, rfl, hc, hA⟩ := hB.open
  have U1 := Lib.hid (fun w hB => t_u32 ad l c false 8 hc (by omega) hz w hB)
  have U2 := Lib.hid (fun w hB => t_u32 ad l c true 8 hc (by omega) hz w hB)
  have P := Lib.hid (fun w => put_next false (.slice none 0 0) [] sectB 168627466 4 (by omega) (by omega) (by simp) (by decide) 168627466 4 rfl rfl w (byt_nil w))
  have PR := Lib.hid (fun (w : World) v u hv (hu : Byt w u (l.take 4)) => t_prefix9 v u sectB (l.take 4) (by rw [List.length_take]; exact Nat.le_trans (Nat.min_le_left _ _) (by decide)) w hv hu)
  have HT := Lib.hid (fun w (h : BytA w ad l) => (h.upto 4).byt (n := min l.length 4) (c := c) (by rw [List.length_take, Nat.min_comm]) (by omega))
  have HA := Lib.hid hA
  clear hB hA
  have V := turnB_ways l
  generalize turnB l = o at *
  generalize gv l false 8 4 = x at *
  generalize gv l true 8 4 = y at *
  generalize (sectB.take (l.take 4).length == l.take 4) = pr at *
  generalize hn : l.length = n at *
  have HN := Lib.hid hn
  clear hn
  obtain ⟨m, hm⟩ : ∃ m, m = min n 4 := ⟨_, rfl⟩
  rw [← hm] at HT
  have mi : min (n : Int) 4 = (m : Int) := by omega
  have mn : m ≤ n := by omega
  have HM := Lib.hid hm
  clear hm
  have FLD := run_field_B
  unfold turnV
  have S0 := Lib.hid (KSt.new w (.cells #[.slice ad n c, .bool false] 42 (0, 0)))
  go_enter Tryd.func9, Tryd.ntmps9
  go_upto_region 3 with (go_at_call 10; refine (P.out _).mono ?_; rintro e w1 ⟨v1, rfl, hY, hb⟩; have S1 := Lib.hid (S0.out.on hb); have Y1 := Lib.hid hY; obtain ⟨a1, n1, c1, rfl⟩ := hY.slice; clear hb hY S0 P)
  have PR1 := Lib.hid (PR.out w1 _ _ Y1.out (HT.out _ (HA.out.on S1.out.2)))
  clear PR Y1 HT
  have MW : ((n : Int) ≤ 4 ∧ m = n) ∨ ((4 : Int) < (n : Int) ∧ m = 4) := by omega
  clear mi mn HM
  rcases V with ⟨rfl, rfl⟩ | ⟨rfl, g2, rfl⟩ | ⟨rfl, g2, g3, rfl⟩ | ⟨rfl, g2, g3, g4, rfl⟩ | ⟨rfl, g2, g3, g4, rfl⟩
  · rcases MW with ⟨h, rfl⟩ | ⟨h, rfl⟩
    all_goals
      go_wp2_with (go_at_call 19; refine (PR1.out).mono ?_; rintro e w2 ⟨rfl, rfl⟩)
      go_ret2
      exact ⟨rfl, S1.out.2⟩
  · have g2 : decide ((n : Int) < 12) = true := by simp; omega
    rcases MW with ⟨h, rfl⟩ | ⟨h, rfl⟩
    all_goals
      go_wp2_with (go_at_call 19; refine (PR1.out).mono ?_; rintro e w2 ⟨rfl, rfl⟩)
      go_ret2
      exact ⟨rfl, S1.out.2⟩
  all_goals
    obtain ⟨h, rfl⟩ : (4 : Int) < (n : Int) ∧ m = 4 := by omega
    have g2 : decide ((n : Int) < 12) = false := by simp; omega
    obtain ⟨⟨c0, c1⟩, f⟩ := row2 S1.out.1
    have f1 := f 1
    clear MW f
  · have g3 : ((x : Int) == 439041101) = true := by simp; omega
    go_wp2_with (first | (go_at_call 19; refine (PR1.out).mono ?_; rintro e w2 ⟨rfl, rfl⟩) | (go_at_call 13; refine (U1.out _ (HA.out.on S1.out.2)).mono ?_; rintro e w3 ⟨rfl, hb⟩))
    go_ret2
    exact ⟨rfl, (S1.out.on hb).2⟩
  · have g3 : ((x : Int) == 439041101) = false := by simp; omega
    have g4 : ((y : Int) == 439041101) = true := by simp; omega
    go_upto_region 9 with (first | (go_at_call 19; refine (PR1.out).mono ?_; rintro e w2 ⟨rfl, rfl⟩) | (go_at_call 13; refine (U1.out _ (HA.out.on S1.out.2)).mono ?_; rintro e w3 ⟨rfl, hb⟩; have S3 := Lib.hid (S1.out.on hb); clear hb S1 c0 c1 f1))
    obtain ⟨⟨c0, c1⟩, f⟩ := row2 S3.out.1
    have f1 := f 1
    go_upto_region 10 with fail
    have S4 := Lib.hid (S3.out.turned (.bool true))
    clear S3 c0 c1 f f1
    generalize w3.setCell ⟨w.heap.size, 1, none⟩ (.bool true) = w4 at *
    obtain ⟨⟨c0, c1⟩, _⟩ := row2 S4.out.1
    go_wp2_with (go_at_call 13; refine (U2.out _ (HA.out.on S4.out.2)).mono ?_; rintro e w5 ⟨rfl, hb⟩)
    go_ret2
    exact ⟨rfl, (S4.out.on hb).2⟩
  · have g3 : ((x : Int) == 439041101) = false := by simp; omega
    have g4 : ((y : Int) == 439041101) = false := by simp; omega
    go_upto_region 9 with (first | (go_at_call 19; refine (PR1.out).mono ?_; rintro e w2 ⟨rfl, rfl⟩) | (go_at_call 13; refine (U1.out _ (HA.out.on S1.out.2)).mono ?_; rintro e w3 ⟨rfl, hb⟩; have S3 := Lib.hid (S1.out.on hb); clear hb S1 c0 c1 f1))
    obtain ⟨⟨c0, c1⟩, f⟩ := row2 S3.out.1
    have f1 := f 1
    go_upto_region 10 with fail
    have S4 := Lib.hid (S3.out.turned (.bool true))
    clear S3 c0 c1 f f1
    generalize w3.setCell ⟨w.heap.size, 1, none⟩ (.bool true) = w4 at *
    obtain ⟨⟨c0, c1⟩, _⟩ := row2 S4.out.1
    go_wp2_with (go_at_call 13; refine (U2.out _ (HA.out.on S4.out.2)).mono ?_; rintro e w5 ⟨rfl, hb⟩)
    go_ret2
    exact ⟨rfl, (S4.out.on hb).2⟩
end Go.Proofs.YtjdnekkbmanmdaaDoor
