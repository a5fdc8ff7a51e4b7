/-
  PROVED HERE (the walk): the statement BlockTurns: which end the head has first that any bytes begin with, and what any block tells as a section's head, are the document's.
-/
import Derived.Test.YtjdnekkbmanmdaaBKnown9
import Derived.Test.YtjdnekkbmanmdaaBRTurn9
import Derived.Test.YtjdnekkbmanmdaaBRHead9
namespace Go.Proofs.Ytjdnekkbmanmdaa
open Go.RowKit Go.Sort
set_option maxRecDepth 100000
/-- What stays: the block that came in. -/
theorem KSt.below {w wr : World} {o : Obj} (h : KSt w wr o) : Below w.heap.size w wr := h.2
set_option maxHeartbeats 4000000 in
theorem blockTurns_small (v : Value) (l : List UInt8) (kind : Nat) (u : Value) (body : List UInt8) (b : Bool) (hk : kind < 4294967296) (w : World) (hB : Byt w v l) (hU : Byt w u body) (hl : l.length ≤ 300) (hl2 : body.length ≤ 300) :
    Calls Try.prog 5 #[v, .agg #[.int .u32 kind, u], .bool b] w fun e w' => e = .returned (.bool true) ∧ Below w.heap.size w w' := by
  have HB := Lib.hid hB
  have HU := Lib.hid hU
  have TT := Lib.hid (fun w hB => t_turnB v l w hB (by omega))
  have RT := Lib.hid (fun w hB => r_turnB v l w hB (by omega))
  have TS := Lib.hid (fun w hB => t_sec kind u body b hk (by omega) w hB)
  have RS := Lib.hid (fun w hB => r_head9 kind u body b (by omega) w hB)
  obtain ⟨ad, c, rfl, hc, _⟩ := hB.open
  obtain ⟨ad2, c2, rfl, hc2, _⟩ := hU.open
  have g : decide ((300 : Int) < (l.length : Nat)) = false := by simp; omega
  have g2 : decide ((300 : Int) < (body.length : Nat)) = false := by simp; omega
  have S0 := Lib.hid (KSt.new w (.cells #[.int .u32 kind, .slice ad2 body.length c2] 32 (0, 0)))
  obtain ⟨⟨t0, t1⟩, ht⟩ : ∃ z, z = turnB l := ⟨_, rfl⟩
  rw [← ht] at TT RT
  obtain ⟨⟨⟨s0, s1, s2, s3⟩, s4⟩, hs⟩ : ∃ z, z = secB kind body b := ⟨_, rfl⟩
  rw [← hs] at TS RS
  clear ht hs hB hU hc hc2 hl hl2
  unfold turnV at TT RT
  unfold SecOut secV at TS RS
  simp only at TT RT TS RS
  generalize l.length = n at *
  generalize body.length = n2 at *
  generalize IntKind.i64.wrap (s2 : Int) = i2 at *
  go_enter Try.func5, Try.ntmps5
  go_upto_region 1 with fail
  generalize hw0 : w.alloc (.cells _ 32 (0, 0)) = w0 at *
  clear hw0
  go_upto_region 3 with (go_at_call 7; refine (t_known9 _).mono ?_; rintro e w1 ⟨rfl, hb⟩; have S1 := Lib.hid (S0.out.on hb); clear hb S0)
  obtain ⟨⟨c0, c1⟩, _⟩ := row2 S1.out.1
  go_upto_region 6 with (go_at_call 14; refine (TT.out _ (HB.out.on S1.out.2)).mono ?_; rintro e w2 ⟨rfl, hb⟩; have S2 := Lib.hid (S1.out.on hb); clear hb S1 c0 c1)
  go_upto_region 7 with (go_at_call 15; refine (RT.out _ (HB.out.on S2.out.2)).mono ?_; rintro e w3 ⟨rfl, hb⟩; have S3 := Lib.hid (S2.out.on hb); clear hb S2)
  obtain ⟨⟨c0, c1⟩, _⟩ := row2 S3.out.1
  go_upto_region 8 with (go_at_call 16; refine (TS.out _ (HU.out.on S3.out.2)).mono ?_; rintro e w4 ⟨v4, rfl, hY, hb⟩; have S4 := Lib.hid (S3.out.on hb); have Y4 := Lib.hid hY; obtain ⟨a4, n4, d4, rfl⟩ := hY.slice; clear hb hY S3 c0 c1)
  have S5 := Lib.hid (S4.out.on (below_alloc w4 (.cells #[.int .u16 s0, .int .u16 s1, .int .i64 i2, .slice a4 n4 d4] 35)))
  have Y5 := Lib.hid (Y4.out.on (below_alloc w4 (.cells #[.int .u16 s0, .int .u16 s1, .int .i64 i2, .slice a4 n4 d4] 35)))
  have G5 := Lib.hid (row_new w4 (.cells #[.int .u16 s0, .int .u16 s1, .int .i64 i2, .slice a4 n4 d4] 35) rfl)
  clear S4 Y4
  generalize w4.alloc (.cells #[.int .u16 s0, .int .u16 s1, .int .i64 i2, .slice a4 n4 d4] 35) = w5 at *
  generalize w4.heap.size = q1 at *
  obtain ⟨⟨c0, c1⟩, _⟩ := row2 S5.out.1
  go_upto_region 9 with (go_at_call 17; refine (RS.out _ (HU.out.on S5.out.2)).mono ?_; rintro e w6 ⟨v6, rfl, hY, hb⟩; have S6 := Lib.hid (S5.out.on hb); have Z6 := Lib.hid hY; have Y6 := Lib.hid (Y5.out.on hb); have G6 := Lib.hid (keepRow G5.out hb); obtain ⟨a6, n6, d6, rfl⟩ := hY.slice; clear hb hY S5 Y5 G5 c0 c1)
  have S7 := Lib.hid (S6.out.on (below_alloc w6 (.cells #[.int .u16 s0, .int .u16 s1, .int .i64 i2, .slice a6 n6 d6] 42)))
  have Y7 := Lib.hid (Y6.out.on (below_alloc w6 (.cells #[.int .u16 s0, .int .u16 s1, .int .i64 i2, .slice a6 n6 d6] 42)))
  have Z7 := Lib.hid (Z6.out.on (below_alloc w6 (.cells #[.int .u16 s0, .int .u16 s1, .int .i64 i2, .slice a6 n6 d6] 42)))
  have G7 := Lib.hid (keepRow G6.out (below_alloc w6 (.cells #[.int .u16 s0, .int .u16 s1, .int .i64 i2, .slice a6 n6 d6] 42)))
  have K7 := Lib.hid (row_new w6 (.cells #[.int .u16 s0, .int .u16 s1, .int .i64 i2, .slice a6 n6 d6] 42) rfl)
  clear S6 Y6 Z6 G6
  generalize w6.alloc (.cells #[.int .u16 s0, .int .u16 s1, .int .i64 i2, .slice a6 n6 d6] 42) = w7 at *
  generalize w6.heap.size = q2 at *
  obtain ⟨⟨x0, x1, x2, x3⟩, _⟩ := row4 G7.out
  obtain ⟨⟨y0, y1, y2, y3⟩, _⟩ := row4 K7.out
  have cy := conv_bytes Y7.out.bytes
  have cz := conv_bytes Z7.out.bytes
  go_wp2
  go_ret
  exact ⟨rfl, S7.out.2⟩
set_option maxHeartbeats 1000000 in
theorem blockTurns_any (v : Value) (l : List UInt8) (kind : Nat) (u : Value) (body : List UInt8) (b : Bool) (hk : kind < 4294967296) (w : World) (hB : Byt w v l) (hU : Byt w u body) :
    Calls Try.prog 5 #[v, .agg #[.int .u32 kind, u], .bool b] w fun e w' => e = .returned (.bool true) ∧ Below w.heap.size w w' := by
  by_cases hl : l.length ≤ 300
  · by_cases hl2 : body.length ≤ 300
    · exact blockTurns_small v l kind u body b hk w hB hU hl hl2
    · obtain ⟨ad, c, rfl, hc, _⟩ := hB.open
      obtain ⟨ad2, c2, rfl, hc2, _⟩ := hU.open
      have g : decide ((300 : Int) < (l.length : Nat)) = false := by simp; omega
      have g2 : decide ((300 : Int) < (body.length : Nat)) = true := by simp; omega
      have S0 := Lib.hid (KSt.new w (.cells #[.int .u32 kind, .slice ad2 body.length c2] 32 (0, 0)))
      clear hl hl2 hB hU hc hc2
      generalize l.length = n at *
      generalize body.length = n2 at *
      go_enter Try.func5, Try.ntmps5
      go_upto_region 1 with fail
      generalize hw0 : w.alloc (.cells _ 32 (0, 0)) = w0 at *
      clear hw0
      go_upto_region 3 with (go_at_call 7; refine (t_known9 _).mono ?_; rintro e w1 ⟨rfl, hb⟩; have S1 := Lib.hid (S0.out.on hb); clear hb S0)
      obtain ⟨⟨c0, c1⟩, _⟩ := row2 S1.out.1
      go_wp2
      go_ret
      exact ⟨rfl, S1.out.2⟩
  · obtain ⟨ad, c, rfl, hc, _⟩ := hB.open
    obtain ⟨ad2, c2, rfl, hc2, _⟩ := hU.open
    have g : decide ((300 : Int) < (l.length : Nat)) = true := by simp; omega
    have S0 := Lib.hid (KSt.new w (.cells #[.int .u32 kind, .slice ad2 body.length c2] 32 (0, 0)))
    clear hl hB hU hc hc2
    generalize l.length = n at *
    generalize body.length = n2 at *
    go_enter Try.func5, Try.ntmps5
    go_upto_region 1 with fail
    generalize hw0 : w.alloc (.cells _ 32 (0, 0)) = w0 at *
    clear hw0
    go_upto_region 3 with (go_at_call 7; refine (t_known9 _).mono ?_; rintro e w1 ⟨rfl, hb⟩; have S1 := Lib.hid (S0.out.on hb); clear hb S0)
    go_wp2
    go_ret
    exact ⟨rfl, S1.out.2⟩
end Go.Proofs.Ytjdnekkbmanmdaa
