/-
  bytes.Clone, bytes.Equal, bytes.HasPrefix, slices.Grow, slices.Concat of bytes.
-/
import Derived.Test.YtjdnekkbmanmdaaDoorZeros
import Derived.Test.YtjdnekkbmanmdaaDoorConvB
import Derived.Test.YtjdnekkbmanmdaaDoorKeep
import Derived.Test.YtjdnekkbmanmdaaDoorOctE
namespace Go.Proofs.YtjdnekkbmanmdaaDoor
open Go.RowKit Go.Sort
set_option maxRecDepth 8000
set_option maxHeartbeats 1000000 in
theorem t_clone9 (v : Value) (l : List UInt8) (hl : l.length ≤ 1000000) (w : World) (hB : Byt w v l) : Calls Tryd.prog 15 #[v] w (AppOut w l) := by
  obtain ⟨a, c, rfl, _, hA⟩ := hB.open
  cases a with
  | none =>
    have q0 : l = [] := by
      rcases hA with h | ⟨_, _, e, _⟩
      · exact h
      · cases e
    subst q0
    have O := Lib.hid (show OwnB w w [] (.slice none 0 0) from Own.nil w _)
    have eq := fun w => Lib.run_eql_slice_nil (P := Tryd.prog) w 23 5 none 0 c 0 0 Tryd.underlying23
    clear hB hA
    go_enter Tryd.func15, Tryd.ntmps15
    go_wp2
    go_ret
    exact ⟨_, rfl, O.out⟩
  | some ad =>
    have O := Lib.hid (ownB_empty w)
    have HA := Lib.hid (hA.on (below_alloc w (.cells #[] 5)))
    have HL := Lib.hid (show ([] : List UInt8).length + l.length ≤ 3000000 by simp; omega)
    have eq := fun w => Lib.run_eql_slice_nil (P := Tryd.prog) w 23 5 (some ad) l.length c 0 0 Tryd.underlying23
    clear hB hA
    go_enter Tryd.func15, Tryd.ntmps15
    go_wp2_with (at_builtin; refine wp_append_bytes rfl (.tmp 5) (.tmp 6) rfl w _ [] _ rfl O.out (some ad) l l.length c rfl rfl HA.out HL.out ?_)
    intro v' w' O'
    have O' := Lib.hid O'
    clear O
    go_wp2
    go_ret
    exact ⟨_, rfl, by simpa using O'.out⟩
theorem Byt.bytes' {w : World} {v : Value} {l : List UInt8} (h : Byt w v l) : Bytes w v l := h.bytes
set_option maxHeartbeats 1000000 in
theorem t_equal9 (v u : Value) (p q : List UInt8) (w : World) (hv : Byt w v p) (hu : Byt w u q) : Calls Tryd.prog 28 #[v, u] w fun e w' => e = .returned (.bool (p == q)) ∧ w = w' := by
  have cv := conv_bytes hv.bytes
  have cu := conv_bytes hu.bytes
  obtain ⟨a, n, c, rfl⟩ := hv.slice
  obtain ⟨a2, n2, c2, rfl⟩ := hu.slice
  clear hv hu
  go_enter Tryd.func28, Tryd.ntmps28
  go_wp2
  go_ret
  exact ⟨rfl, rfl⟩
set_option maxHeartbeats 1000000 in
theorem t_prefix9 (v u : Value) (p q : List UInt8) (hpq : q.length ≤ p.length) (w : World) (hv : Byt w v p) (hu : Byt w u q) : Calls Tryd.prog 19 #[v, u] w fun e w' => e = .returned (.bool (p.take q.length == q)) ∧ w = w' := by
  have EQ := Lib.hid (fun v p' hv => t_equal9 v u p' q w hv hu)
  obtain ⟨a, c, rfl, hc, hA⟩ := hv.open
  obtain ⟨a2, c2, rfl, hc2, _⟩ := hu.open
  have HC := Lib.hid (hA.upto q.length)
  have HL := Lib.hid (show q.length = (p.take q.length).length ∧ q.length ≤ c from ⟨by rw [List.length_take]; omega, by omega⟩)
  clear hv hu hA
  generalize p.take q.length = r at *
  have g1 : decide (q.length ≤ p.length) = true := by simp; omega
  generalize hn : q.length = n at *
  generalize hm : p.length = m at *
  have g2 : ¬ m < n := by omega
  clear hn hm
  go_enter Tryd.func19, Tryd.ntmps19
  go_wp2_with (go_at_call 28; refine (EQ.out _ r (HC.out.byt HL.out.1 HL.out.2)).mono ?_; rintro e w1 ⟨rfl, rfl⟩)
  go_ret
  exact ⟨rfl, rfl⟩
/-- All of a row of the call's own cut off, its room kept. -/
theorem OwnB.cut0 {W w : World} {L : List UInt8} {v : Value} (h : OwnB W w L v) (h0 : 0 < L.length) : ∃ g c, v = .slice (some ⟨g, 0, none⟩) L.length c ∧ OwnB W w [] (.slice (some ⟨g, 0, none⟩) 0 c) := by
  obtain ⟨⟨h1, ⟨rfl, hn⟩ | ⟨g, cap, cur, rfl, hbg, hg, hnc, hcm, hcs, htake⟩⟩, h2⟩ := h
  · rw [cellsOf_length] at hn; omega
  · exact ⟨g, cap, by rw [cellsOf_length], ⟨⟨by simp [cellsOf], Or.inr ⟨g, cap, cur, by simp [cellsOf], hbg, hg, Nat.zero_le _, hcm, hcs, by simp [cellsOf]⟩⟩, h2⟩⟩
set_option maxHeartbeats 1000000 in
theorem t_grow9 (k : Nat) (hk : k ≤ 1000) (w : World) : Calls Tryd.prog 22 #[.slice none 0 0, .int .i64 k] w (AppOut w []) := by
  have O := Lib.hid (show OwnB w w [] (.slice none 0 0) from Own.nil w _)
  by_cases h0 : k = 0
  · subst h0
    go_enter Tryd.func22, Tryd.ntmps22
    go_wp2
    go_ret
    exact ⟨_, rfl, O.out⟩
  · have g1 : decide ((k : Int) < 0) = false := by simp
    have g2 : decide (0 < k) = true := by simp; omega
    have g3 : decide ((0 : Int) < k) = true := by simp; omega
    have KH := Lib.hid (show 0 < k ∧ k ≤ 1000 by omega)
    have hp : 0 < k := by omega
    clear h0
    go_enter Tryd.func22, Tryd.ntmps22
    go_wp2_with (at_builtin; refine wp_append_zeros rfl (.tmp 20) (.tmp 21) rfl w _ [] _ rfl O.out k rfl KH.out.1 KH.out.2 (by simp) ?_)
    intro v' w' O'
    obtain ⟨g, c, rfl, hO⟩ := OwnB.cut0 O' (by simp; omega)
    have O2 := Lib.hid hO
    clear O O' hO
    simp only [List.length_replicate]
    go_wp2
    go_ret
    exact ⟨_, rfl, O2.out⟩
theorem flat_all {ls : List (List UInt8)} {k : Nat} (h : ls.length ≤ k) : (ls.take k).flatten = ls.flatten := by rw [List.take_of_length_le h]
set_option maxHeartbeats 2000000 in
theorem t_concat9 (v : Value) (ls : List (List UInt8)) (hl : ls.length ≤ 1000) (hz : ls.flatten.length ≤ 1000) (w : World) (h : Byts w v ls) : Calls Tryd.prog 11 #[v] w (AppOut w ls.flatten) := by
  obtain ⟨a, c, e, _⟩ := id h
  subst e
  have H := Lib.hid h
  have TG := Lib.hid (fun k hk w => t_grow9 k hk w)
  clear h
  go_enter Tryd.func11, Tryd.ntmps11
  go_wp2
  go_loop [3, 11] (fun s i => ∃ k : Nat, k ≤ ls.length ∧ i = .int .i64 k ∧ s = .int .i64 ((ls.take k).flatten.length : Nat)) (fun _ i => ls.length - (intOf i).toNat)
  case atStart => exact ⟨0, by omega, rfl, rfl⟩
  case round =>
    obtain ⟨k, hk, rfl, rfl⟩ := hrel
    by_cases hlt : k < ls.length
    · obtain ⟨b, o, a', c', rfl, hb, c0, hc', hA⟩ := H.out.get hlt
      have fl := flat_le ls k hlt
      have FT := Lib.hid (show (ls.take (k + 1)).flatten.length = (ls.take k).flatten.length + ls[k].length by rw [flat_take ls k hlt, List.length_append])
      clear hA
      generalize ls[k].length = q at *
      generalize (ls.take k).flatten.length = m at *
      generalize ls.flatten.length = t at *
      go_wp2
      go_round
      case rel => exact ⟨k + 1, by omega, by go_num, by rw [FT.out]; go_num⟩
      case measure => simp [intOf]; omega
    · have E := Lib.hid (show (ls.take k).flatten.length = ls.flatten.length by rw [flat_all (by omega)])
      rw [E.out]
      clear E
      have tz : ls.flatten.length ≤ 1000 := hz
      generalize hT : ls.flatten.length = T at *
      have HT := Lib.hid hT
      clear hT
      go_wp2_with (go_at_call 22; refine (TG.out T tz _).mono ?_; rintro e w1 ⟨v1, rfl, hO⟩)
      have O0 := Lib.hid hO
      clear hO TG
      go_loopw [6, 27] (fun s i wr => ∃ k : Nat, k ≤ ls.length ∧ i = .int .i64 k ∧ Hid (OwnB w wr (ls.take k).flatten s)) (fun _ i _ => ls.length - (intOf i).toNat)
      case atStart => exact ⟨0, by omega, rfl, O0⟩
      case round =>
        clear O0
        obtain ⟨k, hk, rfl, R⟩ := hrel
        by_cases hlt : k < ls.length
        · obtain ⟨b, o, a', c', rfl, hb, c0, hc', hA⟩ := (H.out.on R.out.below).get hlt
          have fl := flat_le ls k hlt
          have FT := Lib.hid (flat_take ls k hlt)
          have FL := Lib.hid (show (ls.take k).flatten.length + ls[k].length ≤ 3000000 by have := HT.out; omega)
          have HA := Lib.hid hA
          clear hA fl
          generalize ls[k] = q at *
          generalize (ls.take k).flatten = pre at *
          go_wp2_with (at_builtin; refine wp_append_bytes rfl (.tmp 31) (.tmp 32) rfl w _ _ _ rfl R.out a' q q.length c' rfl rfl HA.out FL.out ?_)
          intro v' w' O'
          have O' := Lib.hid O'
          go_wp2
          go_roundw
          case rel => exact ⟨k + 1, by omega, by go_num, by rw [FT.out]; exact O'⟩
          case measure => simp [intOf]; omega
        · have E := Lib.hid (show (ls.take k).flatten = ls.flatten by rw [flat_all (by omega)])
          rw [E.out] at R
          go_wp2
          go_ret
          exact ⟨_, rfl, R.out⟩
end Go.Proofs.YtjdnekkbmanmdaaDoor
