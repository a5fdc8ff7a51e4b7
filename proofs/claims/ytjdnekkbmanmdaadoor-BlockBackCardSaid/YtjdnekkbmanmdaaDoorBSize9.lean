/-
  Package block: Size; the document's number and Size.
-/
import Derived.Test.YtjdnekkbmanmdaaDoorBlockH
import Derived.Test.YtjdnekkbmanmdaaDoorKeep
import Derived.Test.YtjdnekkbmanmdaaDoorORef7
namespace Go.Proofs.YtjdnekkbmanmdaaDoor
open Go.RowKit Go.Sort
set_option maxRecDepth 8000
theorem gv_32 (l : List UInt8) (b : Bool) (at_ : Int) : gv l b at_ 4 < 4294967296 := gv_lt l b at_ 4
theorem gv_16 (l : List UInt8) (b : Bool) (at_ : Int) : gv l b at_ 2 < 65536 := gv_lt l b at_ 2
theorem gv_64 (l : List UInt8) (b : Bool) (at_ : Int) : gv l b at_ 8 < 18446744073709551616 := gv_lt l b at_ 8
def sizeV (o : Nat × Nat) : Value := .tuple #[.int .i64 o.1, .int .i64 o.2]
/-- The four ways. -/
theorem sizeB_ways (l : List UInt8) (b : Bool) (most : Int) : (l.length < 8 ∧ sizeB l b most = (0, 121)) ∨ (¬ l.length < 8 ∧ gv l b 4 4 < 12 ∧ sizeB l b most = (0, 123)) ∨ (¬ l.length < 8 ∧ ¬ gv l b 4 4 < 12 ∧ gv l b 4 4 % 4 ≠ 0 ∧ sizeB l b most = (0, 123)) ∨
    (¬ l.length < 8 ∧ ¬ gv l b 4 4 < 12 ∧ gv l b 4 4 % 4 = 0 ∧ most < gv l b 4 4 ∧ sizeB l b most = (0, 122)) ∨ (¬ l.length < 8 ∧ ¬ gv l b 4 4 < 12 ∧ gv l b 4 4 % 4 = 0 ∧ ¬ most < gv l b 4 4 ∧ sizeB l b most = (gv l b 4 4, 0)) := by
  unfold sizeB
  by_cases h1 : l.length < 8
  · left; exact ⟨h1, if_pos h1⟩
  · right
    rw [if_neg h1]
    by_cases h2 : gv l b 4 4 < 12
    · left; exact ⟨h1, h2, if_pos (Or.inl h2)⟩
    · right
      by_cases h3 : gv l b 4 4 % 4 = 0
      · right
        rw [if_neg (by omega)]
        by_cases h4 : most < gv l b 4 4
        · left; exact ⟨h1, h2, h3, h4, if_pos h4⟩
        · right; exact ⟨h1, h2, h3, h4, if_neg h4⟩
      · left; exact ⟨h1, h2, h3, if_pos (Or.inr h3)⟩
set_option maxHeartbeats 2000000 in
theorem t_size (v : Value) (l : List UInt8) (b : Bool) (most : Int) (w : World) (hB : Byt w v l) (hz : l.length ≤ 140737488355328) :
    Calls Tryd.prog 8 #[v, .bool b, .int .i64 most] w fun e w' => e = .returned (sizeV (sizeB l b most)) ∧ Below w.heap.size w w' := by
  obtain ⟨ad, c, rfl, hc, hA⟩ := hB.open
  have U := Lib.hid (fun w hB => t_u32 ad l c b 4 hc (by omega) hz w hB)
  have HA := Lib.hid hA
  clear hB hA
  have bd := gv_32 l b 4
  have V := sizeB_ways l b most
  generalize sizeB l b most = o at *
  generalize gv l b 4 4 = x at *
  have cx : IntKind.i64.wrap (x : Int) = (x : Int) := by rw [IntKind.wrap_i64]; omega
  generalize hn : l.length = n at *
  have HN := Lib.hid hn
  clear hn
  unfold sizeV
  rcases V with ⟨g1, rfl⟩ | ⟨g1, g2, rfl⟩ | ⟨g1, g2, g3, rfl⟩ | ⟨g1, g2, g3, g4, rfl⟩ | ⟨g1, g2, g3, g4, rfl⟩
  · have g1 : decide ((n : Int) < 8) = true := by simp; omega
    go_enter Tryd.func8, Tryd.ntmps8
    go_wp2
    go_ret2
    exact ⟨rfl, Below.refl _ _⟩
  · have g1 : decide ((n : Int) < 8) = false := by simp; omega
    have g2 : decide ((x : Int) < 12) = true := by simp; omega
    go_enter Tryd.func8, Tryd.ntmps8
    go_wp2_with (go_at_call 13; refine (U.out _ HA.out).mono ?_; rintro e w1 ⟨rfl, hb⟩)
    go_ret2
    exact ⟨rfl, hb⟩
  · have g1 : decide ((n : Int) < 8) = false := by simp; omega
    have g2 : decide ((x : Int) < 12) = false := by simp; omega
    have g3 : (((x : Int) % 4 == 0) : Bool) = false := by simp; omega
    go_enter Tryd.func8, Tryd.ntmps8
    go_wp2_with (go_at_call 13; refine (U.out _ HA.out).mono ?_; rintro e w1 ⟨rfl, hb⟩)
    go_ret2
    exact ⟨rfl, hb⟩
  · have g1 : decide ((n : Int) < 8) = false := by simp; omega
    have g2 : decide ((x : Int) < 12) = false := by simp; omega
    have g3 : (((x : Int) % 4 == 0) : Bool) = true := by simp; omega
    have g4 : decide (most < (x : Int)) = true := by simp; omega
    go_enter Tryd.func8, Tryd.ntmps8
    go_wp2_with (go_at_call 13; refine (U.out _ HA.out).mono ?_; rintro e w1 ⟨rfl, hb⟩)
    go_ret2
    exact ⟨rfl, hb⟩
  · have g1 : decide ((n : Int) < 8) = false := by simp; omega
    have g2 : decide ((x : Int) < 12) = false := by simp; omega
    have g3 : (((x : Int) % 4 == 0) : Bool) = true := by simp; omega
    have g4 : decide (most < (x : Int)) = false := by simp; omega
    go_enter Tryd.func8, Tryd.ntmps8
    go_wp2_with (go_at_call 13; refine (U.out _ HA.out).mono ?_; rintro e w1 ⟨rfl, hb⟩)
    go_ret2
    exact ⟨rfl, hb⟩
end Go.Proofs.YtjdnekkbmanmdaaDoor
