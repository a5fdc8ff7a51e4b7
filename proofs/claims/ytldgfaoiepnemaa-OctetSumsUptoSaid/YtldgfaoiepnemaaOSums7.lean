/-
  PROVED HERE (the walk): the statement OctetSums: the checksum of any parts is the document's of all their bytes.
-/
import Derived.Test.YtldgfaoiepnemaaOKnown7
import Derived.Test.YtldgfaoiepnemaaORef7
import Derived.Test.YtldgfaoiepnemaaOctC

namespace Go.Proofs.Ytldgfaoiepnemaa
open Go.RowKit Go.Sort
set_option maxRecDepth 100000
theorem ownB_nil (w : World) : OwnB w w [] (.slice none 0 0) := Own.nil w _
set_option maxHeartbeats 4000000 in
theorem octetSums_any (v : Value) (ls : List (List UInt8)) (hl : ls.length ≤ 1048576) (hz : ls.flatten.length ≤ 1048576) (w : World) (h : Byts w v ls) :
    Calls Try.prog 5 #[v] w fun e w' => e = .returned (.bool true) ∧ Below w.heap.size w w' := by
  obtain ⟨a, c, rfl, _⟩ := id h
  have H := Lib.hid h
  have TS := Lib.hid (fun w h => t_sum (.slice a ls.length c) ls (by omega) (by omega) w h)
  clear h
  obtain ⟨n, hn⟩ : ∃ n, n = ls.length := ⟨_, rfl⟩
  have HN := Lib.hid hn
  rw [← hn] at hl H TS ⊢
  clear hn
  go_enter Try.func5, Try.ntmps5
  go_upto_region 1 with fail
  go_upto_region 4 with (go_at_call 7; refine (t_known _).mono ?_; rintro e w1 ⟨rfl, hb⟩)
  have H1 := Lib.hid (H.out.on hb)
  have B1 := Lib.hid hb
  have O1 := Lib.hid (ownB_nil w1)
  clear H hb
  go_wp2
  go_loopw [3, 10] (fun v i wr => ∃ k : Nat, k ≤ n ∧ i = .int .i64 k ∧ Hid (OwnB w1 wr (ls.take k).flatten v)) (fun _ i _ => n - (intOf i).toNat)
  case atStart => exact ⟨0, by omega, rfl, O1⟩
  case round =>
    clear O1
    obtain ⟨k, hk, rfl, O⟩ := hrel
    by_cases hlt : k < n
    · have hlt' : k < ls.length := by have := HN.out; omega
      obtain ⟨g, o, a', c', ha, hg, c0, _, hA⟩ := (H1.out.on O.out.below).get hlt'
      subst ha
      have fl := flat_le ls k hlt'
      have FT := Lib.hid (flat_take ls k hlt')
      have HA := Lib.hid hA
      have FL := Lib.hid (show (ls.take k).flatten.length + ls[k].length ≤ 3000000 by omega)
      clear hA fl
      generalize ls[k] = q at *
      generalize (ls.take k).flatten = pre at *
      go_wp2_with (at_builtin; refine wp_append_bytes rfl (.tmp 14) (.tmp 15) rfl w1 wr pre _ rfl O.out a' q q.length c' rfl rfl HA.out FL.out ?_)
      intro v' w3 O3
      have O3 := Lib.hid O3
      clear O
      go_wp2
      go_roundw
      case rel => exact ⟨k + 1, by omega, by go_num, by rw [FT.out]; exact O3⟩
      case measure => simp [intOf]; omega
    · have E := Lib.hid (show ls.take k = ls by rw [List.take_of_length_le (by have := HN.out; omega)])
      rw [E.out] at O
      have Y := Lib.hid O.out.byt
      obtain ⟨a', c', rfl, _, _⟩ := Y.out.open
      have RS := Lib.hid (r_sum _ _ (by omega) wr Y.out.bytes)
      have BB := Lib.hid (B1.out.trans (O.out.below.mono B1.out.size))
      have TS' := Lib.hid (TS.out wr (H1.out.on O.out.below))
      generalize csum ls.flatten = s at *
      generalize ls.flatten.length = m at *
      clear E
      by_cases h3 : 3000 < m
      · have h3' : decide ((3000 : Int) < (m : Nat)) = true := by simp; omega
        clear h3
        go_wp2
        go_ret
        exact ⟨rfl, BB.out⟩
      · have h3' : decide ((3000 : Int) < (m : Nat)) = false := by simp; omega
        clear h3
        go_wp2_with fail
        refine TS'.out.mono ?_
        rintro e w4 ⟨rfl, rfl⟩
        go_wp2_with fail
        refine RS.out.mono ?_
        rintro e w4 ⟨rfl, rfl⟩
        go_wp2
        go_ret
        exact ⟨rfl, BB.out⟩
end Go.Proofs.Ytldgfaoiepnemaa
