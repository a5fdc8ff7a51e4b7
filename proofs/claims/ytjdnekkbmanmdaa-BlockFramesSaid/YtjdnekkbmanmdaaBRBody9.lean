/-
  The document's Body of a section's head (horologeref09).
-/
import Derived.Test.YtjdnekkbmanmdaaBBody9
namespace Go.Proofs.Ytjdnekkbmanmdaa
open Go.RowKit Go.Sort
set_option maxRecDepth 8000
set_option maxHeartbeats 4000000 in
theorem r_body9 (major minor : Nat) (len : Int) (long : Nat) (v : Value) (opts : List UInt8) (b : Bool) (h1 : major < 65536) (h2 : minor < 65536) (h3 : long < 18446744073709551616) (hL : IntKind.u64.wrap len = (long : Int)) (hl : opts.length ≤ 900) (w : World) (hB : Byt w v opts) :
    Calls Try.prog 13 #[.agg #[.int .u16 major, .int .u16 minor, .int .i64 len, v], .bool b] w (BytOut w (bodyB major minor long opts b)) := by
  obtain ⟨ad, c, rfl, hc, hA⟩ := hB.open
  have P1 := Lib.hid (fun w => r_putG 439041101 b 4 (by omega) (by omega) w)
  have P2 := Lib.hid (fun w => r_putG major b 2 (by omega) (by omega) w)
  have P3 := Lib.hid (fun w => r_putG minor b 2 (by omega) (by omega) w)
  have P4 := Lib.hid (fun w => r_putG long b 8 (by omega) h3 w)
  have L1 : (ord b (lowB 439041101 4)).length = 4 := four_length _ _
  have L2 : (ord b (lowB major 2)).length = 2 := by rw [ord_length, low_length]
  have L3 : (ord b (lowB minor 2)).length = 2 := by rw [ord_length, low_length]
  have L4 : (ord b (lowB long 8)).length = 8 := by rw [ord_length, low_length]
  have E := Lib.hid (show bodyB major minor long opts b = (ord b (lowB 439041101 4) ++ ord b (lowB major 2) ++ ord b (lowB minor 2) ++ ord b (lowB long 8) ++ opts) ++ List.replicate ((4 - opts.length % 4) % 4) 0 by
    unfold bodyB padZ
    simp only [List.append_assoc])
  rw [E.out]
  clear E
  generalize ord b (lowB 439041101 4) = q1 at *
  generalize ord b (lowB major 2) = q2 at *
  generalize ord b (lowB minor 2) = q3 at *
  generalize ord b (lowB long 8) = q4 at *
  have wa : IntKind.u64.wrap (major : Int) = (major : Int) := wrap_small major (by omega)
  have wi : IntKind.u64.wrap (minor : Int) = (minor : Int) := wrap_small minor (by omega)
  have HA := Lib.hid hA
  have S0 := Lib.hid (KSt.new w (.cells #[.int .u16 major, .int .u16 minor, .int .i64 len, .slice ad opts.length c] 42 (0, 0)))
  clear hB hA
  generalize hn : opts.length = n at *
  have HN := Lib.hid hn
  clear hn
  go_enter Try.func13, Try.ntmps13
  go_upto_region 1 with fail
  generalize hw0 : w.alloc (.cells _ 42 (0, 0)) = w0 at *
  clear hw0
  go_upto_region 2 with (go_at_call 22; refine (P1.out _).mono ?_; rintro e w1 ⟨g, rfl, hR, hg, hb⟩; have S1 := Lib.hid (S0.out.on hb); have O1 := Lib.hid (hR.own hb hg L1.symm (by omega)); clear hb hR)
  obtain ⟨⟨c0, c1, c2, c3⟩, _⟩ := row4 S1.out.1
  go_wp2_with fail
  refine (P2.out _).mono ?_
  rintro e m2 ⟨g2, rfl, hR, _, hb⟩
  have Q2 := Lib.hid (O1.out.on hb)
  have R2 := Lib.hid hR
  clear hb hR O1 S1 c0 c1 c2 c3
  go_wp2_with (at_builtin; refine wp_append_bytes rfl (.tmp 8) (.tmp 13) rfl w0 m2 _ _ rfl Q2.out (some ⟨g2, 0, none⟩) _ 2 2 L2.symm rfl R2.out.bytA (by simp [L1, L2]) ?_)
  intro v2 w2 hO
  have O2 := Lib.hid hO
  have S2 := Lib.hid (S0.out.on hO.below)
  obtain ⟨a2, n2, d2, rfl⟩ := hO.slice
  clear hO Q2 R2
  obtain ⟨⟨c0, c1, c2, c3⟩, _⟩ := row4 S2.out.1
  go_wp2_with fail
  refine (P3.out _).mono ?_
  rintro e m3 ⟨g3, rfl, hR, _, hb⟩
  have Q3 := Lib.hid (O2.out.on hb)
  have R3 := Lib.hid hR
  clear hb hR O2 S2 c0 c1 c2 c3
  go_wp2_with (at_builtin; refine wp_append_bytes rfl (.tmp 15) (.tmp 20) rfl w0 m3 _ _ rfl Q3.out (some ⟨g3, 0, none⟩) _ 2 2 L3.symm rfl R3.out.bytA (by simp [L1, L2, L3]) ?_)
  intro v3 w3 hO
  have O3 := Lib.hid hO
  have S3 := Lib.hid (S0.out.on hO.below)
  obtain ⟨a3, n3, d3, rfl⟩ := hO.slice
  clear hO Q3 R3
  obtain ⟨⟨c0, c1, c2, c3⟩, _⟩ := row4 S3.out.1
  go_wp2_with fail
  refine (P4.out _).mono ?_
  rintro e m4 ⟨g4, rfl, hR, _, hb⟩
  have Q4 := Lib.hid (O3.out.on hb)
  have R4 := Lib.hid hR
  clear hb hR O3 S3 c0 c1 c2 c3
  go_wp2_with (at_builtin; refine wp_append_bytes rfl (.tmp 22) (.tmp 27) rfl w0 m4 _ _ rfl Q4.out (some ⟨g4, 0, none⟩) _ 8 8 L4.symm rfl R4.out.bytA (by simp [L1, L2, L3, L4]) ?_)
  intro v4 w4 hO
  have O4 := Lib.hid hO
  have S4 := Lib.hid (S0.out.on hO.below)
  obtain ⟨a4, n4, d4, rfl⟩ := hO.slice
  clear hO Q4 R4
  obtain ⟨⟨c0, c1, c2, c3⟩, _⟩ := row4 S4.out.1
  go_wp2_with (at_builtin; refine wp_append_bytes rfl (.tmp 29) (.tmp 31) rfl w0 w4 _ _ rfl O4.out ad opts n c HN.out.symm rfl (HA.out.on S4.out.2) (by have := HN.out; simp [L1, L2, L3, L4]; omega) ?_)
  intro v5 w5 hO
  have O5 := Lib.hid (show OwnB w0 w5 (q1 ++ q2 ++ q3 ++ q4 ++ opts) v5 by simpa using hO)
  have LL := Lib.hid (show (q1 ++ q2 ++ q3 ++ q4 ++ opts).length = 16 + n by simp [L1, L2, L3, L4, HN.out]; omega)
  have SB := Lib.hid S0.out.2
  clear hO O4 S4 S0 c0 c1 c2 c3 P1 P2 P3 P4 L1 L2 L3 L4 HN HA
  generalize q1 ++ q2 ++ q3 ++ q4 ++ opts = L at *
  go_wp2
  go_loopw [5] (fun s wr => ∃ j : Nat, j ≤ (4 - n % 4) % 4 ∧ Hid (OwnB w0 wr (L ++ List.replicate j 0) s)) (fun s _ => match s with | .slice _ m _ => 16 + n + 4 - m | _ => 0)
  case atStart => exact ⟨0, by omega, (show OwnB w0 w5 (L ++ List.replicate 0 0) v5 by simpa using O5.out)⟩
  case round =>
    obtain ⟨j, hj, R⟩ := hrel
    have LJ := Lib.hid (show (L ++ List.replicate j (0 : UInt8)).length = 16 + n + j by simp [LL.out])
    obtain ⟨a, c, rfl, hc, _⟩ := R.out.byt.open
    by_cases hlt : j < (4 - n % 4) % 4
    · have NX := Lib.hid (show L ++ List.replicate j (0 : UInt8) ++ [0] = L ++ List.replicate (j + 1) 0 by rw [List.append_assoc, ← List.replicate_succ'])
      have LB := Lib.hid (show (L ++ List.replicate j (0 : UInt8)).length ≤ 3000000 by rw [LJ.out]; omega)
      generalize L ++ List.replicate j (0 : UInt8) = K at *
      generalize hm : K.length = m at *
      have HM := Lib.hid hm
      clear hm
      have g : (((m : Int) % 4 == 0) : Bool) = false := by have := LJ.out; simp; omega
      go_wp2_with (at_builtin; refine wp_append_u8 rfl (.tmp 37) (.tmp 38) rfl w0 _ _ _ rfl R.out (.int .u8 0) 0 rfl rfl (by have := LB.out; have := HM.out; omega) ?_)
      intro v' w' O'
      obtain ⟨a', c', e', _, _⟩ := O'.byt.open
      have O2 := Lib.hid (show OwnB w0 w' (L ++ List.replicate (j + 1) 0) v' by rw [← NX.out]; exact O')
      have ML := Lib.hid (show (K ++ [(0 : UInt8)]).length = 16 + n + (j + 1) by have := LJ.out; have := HM.out; simp; omega)
      subst e'
      clear O' R
      generalize (K ++ [(0 : UInt8)]).length = m' at *
      go_wp2
      go_roundw
      case rel => exact ⟨j + 1, by omega, O2.out⟩
      case measure => have := LJ.out; have := ML.out; simp; omega
    · obtain rfl : j = (4 - n % 4) % 4 := by omega
      generalize hm : (L ++ List.replicate ((4 - n % 4) % 4) (0 : UInt8)).length = m at *
      have g : (((m : Int) % 4 == 0) : Bool) = true := by have := LJ.out; simp; omega
      have HM := Lib.hid hm
      clear hm
      go_wp2
      go_ret
      exact ⟨_, rfl, R.out.byt, SB.out.trans (R.out.below.mono SB.out.size)⟩
end Go.Proofs.Ytjdnekkbmanmdaa
