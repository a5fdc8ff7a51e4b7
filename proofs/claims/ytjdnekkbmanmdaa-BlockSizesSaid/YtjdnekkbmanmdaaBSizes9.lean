/-
  PROVED HERE (the walk): the statement BlockSizes: how long the frame is that any bytes begin, or why it is none, is the document's.
-/
import Derived.Test.YtjdnekkbmanmdaaBKnown9
namespace Go.Proofs.Ytjdnekkbmanmdaa
open Go.RowKit Go.Sort
set_option maxRecDepth 100000
set_option maxHeartbeats 2000000 in
theorem blockSizes_any (v : Value) (l : List UInt8) (b : Bool) (most : Int) (w : World) (hB : Byt w v l) :
    Calls Try.prog 3 #[v, .bool b, .int .i64 most] w fun e w' => e = .returned (.bool true) ∧ Below w.heap.size w w' := by
  have HB := Lib.hid hB
  by_cases hl : l.length ≤ 300
  · have TS := Lib.hid (fun w hB => t_size v l b most w hB (by omega))
    have RS := Lib.hid (fun w hB => r_size9 v l b most w hB (by omega))
    obtain ⟨ad, c, rfl, hc, _⟩ := hB.open
    have g : decide ((300 : Int) < (l.length : Nat)) = false := by simp; omega
    obtain ⟨⟨z0, z1⟩, hz⟩ : ∃ z, z = sizeB l b most := ⟨_, rfl⟩
    rw [← hz] at TS RS
    clear hz hB hc
    unfold sizeV at TS RS
    simp only at TS RS
    generalize l.length = n at *
    go_enter Try.func3, Try.ntmps3
    go_upto_region 5 with (go_at_call 7; refine (t_known9 _).mono ?_; rintro e w1 ⟨rfl, hb1⟩)
    go_upto_region 6 with (go_at_call 8; refine (TS.out _ (HB.out.on hb1)).mono ?_; rintro e w2 ⟨rfl, hb2⟩)
    go_wp2_with (go_at_call 9; refine (RS.out _ ((HB.out.on hb1).on hb2)).mono ?_; rintro e w3 ⟨rfl, rfl⟩)
    go_ret
    exact ⟨rfl, hb1.trans (hb2.mono hb1.size)⟩
  · obtain ⟨ad, c, rfl, hc, _⟩ := hB.open
    have g : decide ((300 : Int) < (l.length : Nat)) = true := by simp; omega
    clear hl hB HB
    generalize l.length = n at *
    go_enter Try.func3, Try.ntmps3
    go_wp2_with (go_at_call 7; refine (t_known9 _).mono ?_; rintro e w1 ⟨rfl, hb⟩)
    go_ret
    exact ⟨rfl, hb⟩
end Go.Proofs.Ytjdnekkbmanmdaa
