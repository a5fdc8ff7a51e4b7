/-
  PROVED HERE (the walk): the statement BlockHeads: a section's head is told by Turn as it was made, and tells what it was made of, its options with noughts behind; of the other end it tells ErrMagic.
-/
import Derived.Test.YtjdnekkbmanmdaaBKnown9
import Derived.Test.YtjdnekkbmanmdaaBBody9
import Derived.Test.YtjdnekkbmanmdaaQuiet
namespace Go.Proofs.Ytjdnekkbmanmdaa
open Go.RowKit Go.Sort
set_option maxRecDepth 100000
/-- What stays: the head that came in, the block. -/
def HdSt (w wr : World) (q : Nat) (o1 o2 : Obj) : Prop := Below w.heap.size w wr ∧ wr.heap[w.heap.size]? = some o1 ∧ wr.heap[q]? = some o2
theorem HdSt.on {w wr w2 : World} {q : Nat} {o1 o2 : Obj} (h : HdSt w wr q o1 o2) (hb : Below wr.heap.size wr w2) : HdSt w w2 q o1 o2 := ⟨h.1.trans (hb.mono h.1.size), keepRow h.2.1 hb, keepRow h.2.2 hb⟩
set_option maxHeartbeats 4000000 in
theorem blockHeads_small (major minor : Nat) (len : Int) (v : Value) (opts : List UInt8) (b : Bool) (h1 : major < 65536) (h2 : minor < 65536) (hn : -9223372036854775808 ≤ len ∧ len ≤ 9223372036854775807) (w : World) (hB : Byt w v opts) (hl : opts.length ≤ 300) :
    Calls Try.prog 6 #[.agg #[.int .u16 major, .int .u16 minor, .int .i64 len, v], .bool b] w fun e w' => e = .returned (.bool true) ∧ Below w.heap.size w w' := by
  have HB := Lib.hid hB
  have hL : IntKind.u64.wrap len = ((len % 18446744073709551616).toNat : Int) := by rw [IntKind.wrap_u64]; omega
  have hI : IntKind.i64.wrap ((len % 18446744073709551616).toNat : Int) = len := by rw [IntKind.wrap_i64]; omega
  have hlong : (len % 18446744073709551616).toNat < 18446744073709551616 := by omega
  generalize (len % 18446744073709551616).toNat = long at *
  have TB := Lib.hid (fun w hB => t_block major minor len long v opts b h1 h2 hlong hL (by omega) w hB)
  have pz := padZ_four opts
  have bl : (bodyB major minor long opts b).length ≤ 900 := by rw [bodyB_length]; omega
  have b4 : (bodyB major minor long opts b).length % 4 = 0 := by rw [bodyB_length]; omega
  have TF := Lib.hid (fun v w hB => t_frame 168627466 v (bodyB major minor long opts b) b (by omega) bl w hB)
  have fe : frameE (bodyB major minor long opts b) = 0 := if_pos b4
  have fr : frameR 168627466 (bodyB major minor long opts b) b = frameB 168627466 (bodyB major minor long opts b) b := if_pos b4
  unfold FrOut at TF
  rw [fe, fr] at TF
  have fl : (frameB 168627466 (bodyB major minor long opts b) b).length ≤ 140737488355328 := by rw [frame_length]; omega
  have TT := Lib.hid (fun v w hB => t_turnB v (frameB 168627466 (bodyB major minor long opts b) b) w hB fl)
  have tf := turn_frame major minor long opts b []
  rw [List.append_nil] at tf
  rw [tf] at TT
  have TN := Lib.hid (fun v w hB => t_sec 168627466 v (bodyB major minor long opts b) (!b) (by omega) bl w hB)
  rw [sec_other] at TN
  have TS := Lib.hid (fun v w hB => t_sec 168627466 v (bodyB major minor long opts b) b (by omega) bl w hB)
  rw [sec_body _ _ _ _ _ h1 h2 hlong] at TS
  obtain ⟨⟨⟨s0, s1, s2, s3⟩, s4⟩, hs⟩ : ∃ z, z = (if major ≠ 1 then (((0, 0, 0, []), 125) : (Nat × Nat × Nat × List UInt8) × Nat) else ((major, minor, long, padZ opts), 0)) := ⟨_, rfl⟩
  rw [← hs] at TS
  have HS := Lib.hid (show (major ≠ 1 ∧ s4 = 125) ∨ (major = 1 ∧ s0 = 1 ∧ s1 = minor ∧ IntKind.i64.wrap (s2 : Int) = len ∧ s3 = padZ opts ∧ s4 = 0) by
    by_cases hm : major = 1
    · right
      rw [if_neg (by simp [hm])] at hs
      simp only [Prod.mk.injEq] at hs
      obtain ⟨⟨rfl, rfl, rfl, rfl⟩, rfl⟩ := hs
      exact ⟨hm, hm, rfl, hI, rfl, rfl⟩
    · left
      rw [if_pos hm] at hs
      simp only [Prod.mk.injEq] at hs
      exact ⟨hm, hs.2⟩)
  clear hs
  unfold turnV at TT
  unfold SecOut secV at TN TS
  have z0 : IntKind.i64.wrap ((0 : Nat) : Int) = 0 := by rw [IntKind.wrap_i64]; rfl
  simp only at TN TS TT
  rw [z0] at TN
  clear z0
  generalize IntKind.i64.wrap (s2 : Int) = i2 at *
  unfold BlkOut at TB
  have PT := Lib.hid (padZ_take opts)
  have PZ := Lib.hid (padZ_zero opts)
  have PL := Lib.hid (show (padZ opts).length % 4 = 0 ∧ opts.length ≤ (padZ opts).length ∧ (padZ opts).length < opts.length + 4 from pz)
  generalize frameB 168627466 (bodyB major minor long opts b) b = fb at *
  generalize bodyB major minor long opts b = bo at *
  generalize padZ opts = po at *
  obtain ⟨ad, c, rfl, hc, _⟩ := hB.open
  have g : decide ((300 : Int) < (opts.length : Nat)) = false := by simp; omega
  obtain ⟨o1, ho1⟩ : ∃ o, o = Obj.cells #[.int .u16 major, .int .u16 minor, .int .i64 len, .slice ad opts.length c] 35 (0, 0) := ⟨_, rfl⟩
  have S0 := Lib.hid (KSt.new w o1)
  clear hL hlong hB bl b4 fe fr fl tf pz hI
  go_enter Try.func6, Try.ntmps6
  go_upto_region 1 with fail
  rw [← ho1]
  generalize w.alloc o1 = w0 at *
  rw [ho1] at S0
  clear ho1
  go_upto_region 3 with (go_at_call 7; refine (t_known9 _).mono ?_; rintro e w1 ⟨rfl, hb⟩; have S1 := Lib.hid (S0.out.on hb); clear hb S0)
  obtain ⟨⟨e0, e1, e2, e3⟩, _⟩ := row4 S1.out.1
  go_upto_region 6 with (go_at_call 12; refine (TB.out _ (HB.out.on S1.out.2)).mono ?_; rintro e w2 ⟨v2, rfl, hY, hb⟩; have S2 := Lib.hid (S1.out.on hb); have Y2 := Lib.hid hY; obtain ⟨a2, n2, d2, rfl⟩ := hY.slice; clear hb hY S1 e0 e1 e2 e3)
  have S3 := Lib.hid (show HdSt w (w2.alloc (.cells #[.int .u32 168627466, .slice a2 n2 d2] 32)) w2.heap.size _ _ from ⟨(S2.out.on (below_alloc w2 (.cells #[.int .u32 168627466, .slice a2 n2 d2] 32))).2, (S2.out.on (below_alloc w2 (.cells #[.int .u32 168627466, .slice a2 n2 d2] 32))).1, row_new w2 (.cells #[.int .u32 168627466, .slice a2 n2 d2] 32) rfl⟩)
  have Y3 := Lib.hid (Y2.out.on (below_alloc w2 (.cells #[.int .u32 168627466, .slice a2 n2 d2] 32)))
  clear S2 Y2
  generalize w2.alloc (.cells #[.int .u32 168627466, .slice a2 n2 d2] 32) = w3 at *
  generalize w2.heap.size = q at *
  obtain ⟨⟨c0, c1⟩, _⟩ := row2 S3.out.2.2
  go_upto_region 7 with (go_at_call 10; refine (TF.out _ _ Y3.out).mono ?_; rintro e w4 ⟨v4, rfl, hY, hb⟩; have S4 := Lib.hid (S3.out.on hb); have Y4 := Lib.hid (Y3.out.on hb); have Z4 := Lib.hid hY; obtain ⟨a4, n4, d4, rfl⟩ := hY.slice; clear hb hY S3 Y3 c0 c1)
  go_upto_region 8 with (go_at_call 14; refine (TT.out _ _ Z4.out).mono ?_; rintro e w5 ⟨rfl, hb⟩; have S5 := Lib.hid (S4.out.on hb); have Y5 := Lib.hid (Y4.out.on hb); clear hb S4 Y4 Z4)
  obtain ⟨⟨c0, c1⟩, _⟩ := row2 S5.out.2.2
  go_upto_region 11 with (go_at_call 16; refine (TN.out _ _ Y5.out).mono ?_; rintro e w6 ⟨v6, rfl, hY, hb⟩; have S6 := Lib.hid (S5.out.on hb); have Y6 := Lib.hid (Y5.out.on hb); obtain ⟨a6, n6, d6, rfl⟩ := hY.slice; clear hb hY S5 Y5 c0 c1)
  -- from here on: tools/gen9h.py
  have S7 := Lib.hid (S6.out.on (below_alloc w6 (.cells #[.int .u16 0, .int .u16 0, .int .i64 0, .slice a6 n6 d6] 35)))
  have Y7 := Lib.hid (Y6.out.on (below_alloc w6 (.cells #[.int .u16 0, .int .u16 0, .int .i64 0, .slice a6 n6 d6] 35)))
  clear S6 Y6
  generalize w6.alloc (.cells #[.int .u16 0, .int .u16 0, .int .i64 0, .slice a6 n6 d6] 35) = w7 at *
  obtain ⟨⟨c0, c1⟩, _⟩ := row2 S7.out.2.2
  go_upto_region 14 with (go_at_call 16; refine (TS.out _ _ Y7.out).mono ?_; rintro e w8 ⟨v8, rfl, hY, hb⟩; have S8 := Lib.hid (S7.out.on hb); have Y8 := Lib.hid hY; obtain ⟨a8, c8, rfl, hc8, _⟩ := hY.open; clear hb hY S7 Y7 c0 c1)
  have S9 := Lib.hid (S8.out.on (below_alloc w8 (.cells #[.int .u16 s0, .int .u16 s1, .int .i64 i2, .slice a8 s3.length c8] 35)))
  have Y9 := Lib.hid (Y8.out.on (below_alloc w8 (.cells #[.int .u16 s0, .int .u16 s1, .int .i64 i2, .slice a8 s3.length c8] 35)))
  have K9 := Lib.hid (row_new w8 (.cells #[.int .u16 s0, .int .u16 s1, .int .i64 i2, .slice a8 s3.length c8] 35) rfl)
  clear S8 Y8
  generalize w8.alloc (.cells #[.int .u16 s0, .int .u16 s1, .int .i64 i2, .slice a8 s3.length c8] 35) = w9 at *
  generalize w8.heap.size = r at *
  obtain ⟨⟨e0, e1, e2, e3⟩, _⟩ := row4 S9.out.2.1
  obtain ⟨⟨k0, k1, k2, k3⟩, _⟩ := row4 K9.out
  rcases HS.out with ⟨hm, rfl⟩ | ⟨hm, rfl, rfl, rfl, rfl, rfl⟩
  · have g1 : ((major : Int) == 1) = false := by simp; omega
    go_wp2
    go_ret
    exact ⟨rfl, S9.out.1⟩
  have hm1 : ((major : Int) == 1) = true := by simp; omega
  have pl := PL.out
  have p1 : (s3.length < opts.length) = False := by simp; omega
  have p2 : ((opts.length : Int) + 4 ≤ (s3.length : Nat)) = False := by simp; omega
  go_upto_region 18 with fail
  clear p1 p2
  have CV := Lib.hid (show ∀ W', Byt W' (.slice a8 opts.length c8) opts → (convert 22 9 (.slice a8 opts.length c8)).run Try.prog W' = .ok (.string ⟨opts.toArray⟩) W' from fun W' h => conv_bytes h.bytes)
  have CW := Lib.hid (show ∀ W', Byt W' (.slice ad opts.length c) opts → (convert 22 9 (.slice ad opts.length c)).run Try.prog W' = .ok (.string ⟨opts.toArray⟩) W' from fun W' h => conv_bytes h.bytes)
  have YU := Lib.hid (show Byt w9 (.slice a8 opts.length c8) opts by
    obtain ⟨a', c', e', _, hA'⟩ := Y9.out.open
    cases e'
    have := hA'.upto opts.length
    rw [PT.out] at this
    exact this.byt rfl (by omega))
  have BU := Lib.hid (HB.out.on S9.out.1)
  go_wp2
  go_loop [14] (fun i => ∃ k : Nat, opts.length ≤ k ∧ k ≤ s3.length ∧ i = .int .i64 k) (fun i => s3.length - (intOf i).toNat)
  case atStart => exact ⟨opts.length, Nat.le_refl _, by omega, rfl⟩
  case round =>
    obtain ⟨k, hk0, hk, rfl⟩ := hrel
    by_cases hlt : k < s3.length
    · obtain ⟨a', c', e', _, hA'⟩ := Y9.out.open
      cases e'
      rcases hA' with h0 | ⟨g', o', rfl, hg', hcell⟩
      · rw [h0] at hlt; exact absurd hlt (by simp)
      have cc := hcell k hlt
      have z := PZ.out k hk0 hlt
      rw [List.getElem?_eq_getElem hlt] at z
      rw [Option.some.inj z] at cc
      have cc : w9.cell? ⟨g', o' + k, none⟩ = some (.int .u8 0) := cc
      clear hcell z
      go_wp2
      go_round
      case rel => exact ⟨k + 1, by omega, by omega, by go_num⟩
      case measure => simp [intOf]; omega
    · obtain rfl : k = s3.length := by omega
      go_upto_region 23 with fail
      have hoc : opts.length ≤ c8 := by omega
      refine wp_region_held_drew (S := fun W' => (W'.cell? ⟨w.heap.size, 3, none⟩ = some (.slice ad opts.length c) ∧ W'.cell? ⟨r, 3, none⟩ = some (.slice a8 s3.length c8)) ∧ Byt W' (.slice a8 opts.length c8) opts ∧ Byt W' (.slice ad opts.length c) opts) (by kernel_rfl) ⟨⟨e3, k3⟩, YU.out.on (Below.refl _ _).drew, BU.out.on (Below.refl _ _).drew⟩ (fun hHeld => ?_)
      refine wpAnyH_take (i := 0) (v := .pointer (some ⟨r, 3, none⟩)) rfl (by kernel_rfl) (by kernel_rfl) (by kernel_rfl) (fun _ _ _ h => h) (Or.inl ⟨by rfl, ?_⟩) (by assumption) ?_
      · intro W' hS; go_simp
      refine castP (d := 122) rfl (by simp only [List.set_cons_succ, List.set_cons_zero]; exact rfl) ?_
      refine wpAnyH_take (i := 1) (v := .slice a8 s3.length c8) rfl (by kernel_rfl) (by kernel_rfl) (by kernel_rfl) (fun _ _ _ h => h) (Or.inl ⟨by rfl, ?_⟩) (by assumption) ?_
      · intro W' hS; obtain ⟨⟨x0, x1⟩, _⟩ := hS; go_simp
      refine castP (d := 123) rfl (by simp only [List.set_cons_succ, List.set_cons_zero]; exact rfl) ?_
      refine wpAnyH_take (i := 2) (v := .pointer (some ⟨w.heap.size, 3, none⟩)) rfl (by kernel_rfl) (by kernel_rfl) (by kernel_rfl) (fun _ _ _ h => h) (Or.inl ⟨by rfl, ?_⟩) (by assumption) ?_
      · intro W' hS; go_simp
      refine castP (d := 124) rfl (by simp only [List.set_cons_succ, List.set_cons_zero]; exact rfl) ?_
      refine wpAnyH_take (i := 3) (v := .slice ad opts.length c) rfl (by kernel_rfl) (by kernel_rfl) (by kernel_rfl) (fun _ _ _ h => h) (Or.inl ⟨by rfl, ?_⟩) (by assumption) ?_
      · intro W' hS; obtain ⟨⟨x0, x1⟩, _⟩ := hS; go_simp
      refine castP (d := 125) rfl (by simp only [List.set_cons_succ, List.set_cons_zero]; exact rfl) ?_
      refine wpAnyH_take (i := 4) (v := .int .i64 opts.length) rfl (by kernel_rfl) (by kernel_rfl) (by kernel_rfl) (fun _ _ _ h => h) (Or.inl ⟨by rfl, ?_⟩) (by assumption) ?_
      · intro W' hS; go_simp
      refine castP (d := 126) rfl (by simp only [List.set_cons_succ, List.set_cons_zero]; exact rfl) ?_
      refine wpAnyH_take (i := 5) (v := .slice a8 opts.length c8) rfl (by kernel_rfl) (by kernel_rfl) (by kernel_rfl) (fun _ _ _ h => h) (Or.inl ⟨by rfl, ?_⟩) (by assumption) ?_
      · intro W' hS; go_simp
      refine castP (d := 127) rfl (by simp only [List.set_cons_succ, List.set_cons_zero]; exact rfl) ?_
      refine wpAnyH_take (i := 6) (v := .string ⟨opts.toArray⟩) rfl (by kernel_rfl) (by kernel_rfl) (by kernel_rfl) (fun _ _ _ h => h) (Or.inl ⟨by rfl, ?_⟩) (by assumption) ?_
      · intro W' hS; have cv := CV.out W' hS.2.1; go_simp
      refine castP (d := 128) rfl (by simp only [List.set_cons_succ, List.set_cons_zero]; exact rfl) ?_
      refine wpAnyH_take (i := 7) (v := .pointer (some ⟨w.heap.size, 3, none⟩)) rfl (by kernel_rfl) (by kernel_rfl) (by kernel_rfl) (fun _ _ _ h => h) (Or.inl ⟨by rfl, ?_⟩) (by assumption) ?_
      · intro W' hS; go_simp
      refine castP (d := 129) rfl (by simp only [List.set_cons_succ, List.set_cons_zero]; exact rfl) ?_
      refine wpAnyH_take (i := 8) (v := .slice ad opts.length c) rfl (by kernel_rfl) (by kernel_rfl) (by kernel_rfl) (fun _ _ _ h => h) (Or.inl ⟨by rfl, ?_⟩) (by assumption) ?_
      · intro W' hS; obtain ⟨⟨x0, x1⟩, _⟩ := hS; go_simp
      refine castP (d := 130) rfl (by simp only [List.set_cons_succ, List.set_cons_zero]; exact rfl) ?_
      refine wpAnyH_take (i := 9) (v := .string ⟨opts.toArray⟩) rfl (by kernel_rfl) (by kernel_rfl) (by kernel_rfl) (fun _ _ _ h => h) (Or.inl ⟨by rfl, ?_⟩) (by assumption) ?_
      · intro W' hS; have cv := CW.out W' hS.2.2; go_simp
      refine castP (d := 131) rfl (by simp only [List.set_cons_succ, List.set_cons_zero]; exact rfl) ?_
      refine wpAnyH_take (i := 10) (v := .bool true) rfl (by kernel_rfl) (by kernel_rfl) (by kernel_rfl) (fun _ _ _ h => h) (Or.inl ⟨by rfl, ?_⟩) (by assumption) ?_
      · intro W' hS; go_simp
      refine castP (d := 132) rfl (by simp only [List.set_cons_succ, List.set_cons_zero]; exact rfl) ?_
      refine wpAnyH_take (i := 11) (v := .bool true) rfl (by kernel_rfl) (by kernel_rfl) (by kernel_rfl) (fun _ _ _ h => h) (Or.inl ⟨by rfl, ?_⟩) (by assumption) ?_
      · intro W' hS; go_simp
      refine castP (d := 4) rfl (by simp only [List.set_cons_succ, List.set_cons_zero]; exact rfl) ?_
      refine wpAnyH_done (by kernel_rfl) ?_ _
      go_wp2_with fail
      go_ret
      exact ⟨rfl, S9.out.1.drew⟩
set_option maxHeartbeats 1000000 in
theorem blockHeads_any (major minor : Nat) (len : Int) (v : Value) (opts : List UInt8) (b : Bool) (h1 : major < 65536) (h2 : minor < 65536) (hn : -9223372036854775808 ≤ len ∧ len ≤ 9223372036854775807) (w : World) (hB : Byt w v opts) :
    Calls Try.prog 6 #[.agg #[.int .u16 major, .int .u16 minor, .int .i64 len, v], .bool b] w fun e w' => e = .returned (.bool true) ∧ Below w.heap.size w w' := by
  by_cases hl : opts.length ≤ 300
  · exact blockHeads_small major minor len v opts b h1 h2 hn w hB hl
  · obtain ⟨ad, c, rfl, hc, _⟩ := hB.open
    have g : decide ((300 : Int) < (opts.length : Nat)) = true := by simp; omega
    obtain ⟨o1, ho1⟩ : ∃ o, o = Obj.cells #[.int .u16 major, .int .u16 minor, .int .i64 len, .slice ad opts.length c] 35 (0, 0) := ⟨_, rfl⟩
    have S0 := Lib.hid (KSt.new w o1)
    clear hl hB hc
    generalize opts.length = n at *
    go_enter Try.func6, Try.ntmps6
    go_upto_region 1 with fail
    rw [← ho1]
    generalize w.alloc o1 = w0 at *
    rw [ho1] at S0
    clear ho1
    go_upto_region 3 with (go_at_call 7; refine (t_known9 _).mono ?_; rintro e w1 ⟨rfl, hb⟩; have S1 := Lib.hid (S0.out.on hb); clear hb S0)
    obtain ⟨⟨e0, e1, e2, e3⟩, _⟩ := row4 S1.out.1
    go_wp2
    go_ret
    exact ⟨rfl, S1.out.2⟩
end Go.Proofs.Ytjdnekkbmanmdaa
