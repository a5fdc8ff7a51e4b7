/-
  The document's bytes of a text: Unhex (horologeref04).
-/
import Derived.Test.YtednmodeoofbgaaDoorUnhex
import Derived.Laws.OwnMore
namespace Go.Proofs.YtednmodeoofbgaaDoor
open Go.RowKit Go.Sort
set_option maxRecDepth 8000
/-- What lies in the row when i letters have been read. -/
def part (s : List UInt8) (i : Nat) : List UInt8 := (List.range ((i + 1) / 2)).map fun j => UInt8.ofNat (16 * dAt s (2 * j) + if 2 * j + 1 < i then dAt s (2 * j + 1) else 0)
theorem part_length (s : List UInt8) (i : Nat) : (part s i).length = (i + 1) / 2 := by simp [part]
theorem part_get (s : List UInt8) (i j : Nat) (h : j < (part s i).length) : (part s i)[j] = UInt8.ofNat (16 * dAt s (2 * j) + if 2 * j + 1 < i then dAt s (2 * j + 1) else 0) := by simp [part]
theorem part_even (s : List UInt8) (i : Nat) (h : i % 2 = 0) : part s (i + 1) = part s i ++ [UInt8.ofNat (16 * dAt s i)] := by
  apply List.ext_getElem
  · rw [List.length_append, part_length, part_length]; simp; omega
  · intro j h1 h2
    rw [part_length] at h1
    by_cases hj : j < (part s i).length
    · rw [List.getElem_append_left hj, part_get, part_get]
      rw [part_length] at hj
      by_cases e : 2 * j + 1 < i
      · rw [if_pos e, if_pos (by omega)]
      · omega
    · rw [part_length] at hj
      rw [List.getElem_append_right (by rw [part_length]; omega), part_get, if_neg (by omega), show 2 * j = i by omega]
      simp
theorem part_odd (s : List UInt8) (i : Nat) (h : i % 2 = 1) : part s (i + 1) = (part s i).set ((i + 1) / 2 - 1) (UInt8.ofNat (16 * dAt s (i - 1) + dAt s i)) := by
  apply List.ext_getElem
  · rw [List.length_set, part_length, part_length]; omega
  · intro j h1 h2
    rw [part_length] at h1
    rw [part_get, List.getElem_set]
    by_cases e : (i + 1) / 2 - 1 = j
    · rw [if_pos e, if_pos (by omega), show 2 * j = i - 1 by omega, show i - 1 + 1 = i by omega]
    · rw [if_neg e, part_get, if_pos (by omega), if_pos (by omega)]
theorem part_end (s : List UInt8) (h : s.length % 2 = 0) : part s s.length = outL s := by
  apply List.ext_getElem
  · rw [part_length, outL_length]; omega
  · intro j h1 h2
    rw [part_get]
    rw [part_length] at h1
    simp only [outL, List.getElem_map, List.getElem_range]
    rw [if_pos (by omega)]
theorem part_last (s : List UInt8) (i : Nat) (h : i % 2 = 1) : (part s i)[(i + 1) / 2 - 1]? = some (UInt8.ofNat (16 * dAt s (i - 1))) := by
  have hl : (i + 1) / 2 - 1 < (part s i).length := by rw [part_length]; omega
  rw [List.getElem?_eq_getElem hl, part_get, if_neg (by omega), show 2 * ((i + 1) / 2 - 1) = i - 1 by omega]
  simp
theorem row_shape {w wr : World} {l : List UInt8} {v : Value} (h : RHex w wr l v) (hl : 0 < l.length) : ∃ g cap, v = .slice (some ⟨g, 0, none⟩) l.length cap ∧ w.heap.size ≤ g := by
  obtain ⟨⟨_, ⟨_, e⟩ | ⟨g, cap, cur, e, hb, _⟩⟩, _⟩ := h
  · omega
  · exact ⟨g, cap, e, hb⟩
/-WALK-/
theorem unhexO_bad {s : ByteArray} {i : Nat} (h : i < s.size) (hd : digB ((s[i]).toNat : Int) = false) : unhexO s.data.toList = none := okH_bad (byte_mem s i h) hd
set_option maxHeartbeats 1000000 in
theorem r_unhex (s : ByteArray) (hs : s.size ≤ 4000) (w : World) :
    Calls Tryd.prog 25 #[.string s] w fun e w' => (∃ v, e = .returned v ∧ UnhexOut w' s.data.toList v) ∧ Below w.heap.size w w' := by
  by_cases he : s.size % 2 = 0
  · have e1 : (s.size : Int) % 2 = 0 := by omega
    go_enter Tryd.func25, Tryd.ntmps25
    go_wp2
    have HE := Lib.hid he
    clear e1 he
    go_loopw [4, 5] (fun v iv wr => ∃ i : Nat, i ≤ s.size ∧ iv = .int .i64 i ∧ (∀ c ∈ s.data.toList.take i, digB (c.toNat : Int) = true) ∧ Hid (RHex w wr (part s.data.toList i) v)) (fun _ iv _ => s.size - (intOf iv).toNat)
    case atStart => exact ⟨0, Nat.zero_le _, rfl, (by intro c hc; simp at hc), World.ownsRow_nil _ _ _ _, Below.refl _ _⟩
    case round =>
      obtain ⟨i, hi, rfl, hd, R⟩ := hrel
      by_cases hlt : i < s.size
      · have L1 := Lib.hid (show (part s.data.toList i).length ≤ 4000 by rw [part_length]; omega)
        have LP := Lib.hid (part_length s.data.toList i)
        by_cases hc1 : 97 ≤ (s[i]).toNat ∧ (s[i]).toNat ≤ 102
        · have n1 : ¬ ((s[i]).toNat : Int) ≤ 57 := by omega
          have n2 : (48 : Int) ≤ ((s[i]).toNat : Nat) := by omega
          have dv : dAt s.data.toList i = (s[i]).toNat - 87 := by
            unfold dAt
            rw [getD_get _ _ (by rw [len_list]; exact hlt), show s.data.toList[i]'(by rw [len_list]; exact hlt) = s[i] from rfl]
            unfold digV
            rw [if_pos (by omega)]; omega
          have hd2 : ∀ c ∈ s.data.toList.take (i + 1), digB (c.toNat : Int) = true := by
            intro c hc
            rw [take_byte s i hlt] at hc
            rcases List.mem_append.1 hc with hc | hc
            · exact hd c hc
            · obtain rfl := List.mem_singleton.1 hc; unfold digB; simp; omega
          have HD := Lib.hid hd2
          have DV := Lib.hid dv
          clear hd hd2 dv
          have g1 : (97 : Int) ≤ ((s[i]).toNat : Nat) := by omega
          have g2 : (((s[i]).toNat : Nat) : Int) ≤ 102 := by omega
          clear hc1
          rcases Nat.mod_two_eq_zero_or_one i with ev | od
          · have ev' : ((i : Nat) : Int) % 2 = 0 := by omega
            have PE := Lib.hid (part_even s.data.toList i ev)
            have HY := Lib.hid (show Value.int .u8 (16 * (((s[i]).toNat : Int) - 87)) = .int .u8 ((UInt8.ofNat (16 * dAt s.data.toList i)).toNat) by
              rw [DV.out, UInt8.toNat_ofNat']; congr 1; omega)
            clear ev
            generalize UInt8.ofNat (16 * dAt s.data.toList i) = y at *
            go_wp2_with (at_builtin; refine wp_append_byte rfl _ _ rfl w _ _ _ rfl R.out _ _ HY.out rfl (by have := L1.out; omega) ?_)
            intro v' w2 R2
            have R2 := Lib.hid R2
            clear R
            go_wp2
            go_roundw
            case rel => exact ⟨i + 1, by omega, by go_num, HD.out, by rw [PE.out]; exact R2⟩
            case measure => simp [intOf]; omega
          · have od' : ((i : Nat) : Int) % 2 = 1 := by omega
            have PO := Lib.hid (part_odd s.data.toList i od)
            have PL := Lib.hid (part_last s.data.toList i od)
            obtain ⟨g, cap, hv, hg⟩ := row_shape R.out (by have := LP.out; omega)
            subst hv
            have ln : (part s.data.toList i).length = (i + 1) / 2 := part_length _ _
            have c1 := (R.out.1.cellAt ((i + 1) / 2 - 1) (by rw [ln]; omega))
            have f1 := R.out.1.frozenAt ((i + 1) / 2 - 1)
            have ex : (cellsOf (part s.data.toList i))[(i + 1) / 2 - 1]? = some (.int .u8 ((16 * dAt s.data.toList (i - 1) : Nat) : Int)) := by
              unfold cellsOf
              rw [List.getElem?_map, PL.out]
              have := dAt_bd s.data.toList (i - 1)
              simp only [Option.map_some]
              rw [UInt8.toNat_ofNat', Nat.mod_eq_of_lt (by omega)]
            rw [ex] at c1
            have dp := dAt_bd s.data.toList (i - 1)
            have D1 := Lib.hid (show dAt s.data.toList (i - 1) < 16 from dp)
            generalize dAt s.data.toList (i - 1) = dp' at *
            obtain ⟨n, hn⟩ : ∃ n, n = (i + 1) / 2 - 1 := ⟨_, rfl⟩
            rw [← hn] at c1 f1 PO
            have hlen : (part s.data.toList i).length = n + 1 := by omega
            have R0 := R
            have hin : i + 1 = 2 * n + 2 := by omega
            have HI := Lib.hid hin
            have nb : n < 4000 := by omega
            rw [hlen]
            clear hn ex R ln od hin
            go_wp2
            have R2 := Lib.hid (show RHex w (wr.setCell ⟨g, n, none⟩ (.int .u8 (16 * (dp' : Int) + (((s[i]).toNat : Int) - 87)))) (part s.data.toList (i + 1)) (.slice (some ⟨g, 0, none⟩) (n + 1) cap) from by
              obtain ⟨a, b⟩ := R0.out
              rw [hlen] at a
              have st := (a.stored n (.int .u8 (16 * (dp' : Int) + (((s[i]).toNat : Int) - 87)))).1
              refine ⟨?_, b.setCell hg _⟩
              have e : cellsOf (part s.data.toList (i + 1)) = (cellsOf (part s.data.toList i)).set n (.int .u8 (16 * (dp' : Int) + (((s[i]).toNat : Int) - 87))) := by
                rw [PO.out]
                unfold cellsOf
                rw [List.map_set]
                congr 2
                have := D1.out
                rw [UInt8.toNat_ofNat', DV.out]
                omega
              rw [e, part_length, show (i + 1 + 1) / 2 = n + 1 by have := HI.out; omega]
              exact st)
            go_roundw
            case rel => exact ⟨i + 1, by omega, by go_num, HD.out, R2⟩
            case measure => simp [intOf]; omega
        · by_cases hc2 : 48 ≤ (s[i]).toNat ∧ (s[i]).toNat ≤ 57
          · have n1 : ¬ (97 : Int) ≤ ((s[i]).toNat : Nat) := by omega
            have dv : dAt s.data.toList i = (s[i]).toNat - 48 := by
              unfold dAt
              rw [getD_get _ _ (by rw [len_list]; exact hlt), show s.data.toList[i]'(by rw [len_list]; exact hlt) = s[i] from rfl]
              unfold digV
              rw [if_neg (by omega), if_pos (by omega)]; omega
            have hd2 : ∀ c ∈ s.data.toList.take (i + 1), digB (c.toNat : Int) = true := by
              intro c hc
              rw [take_byte s i hlt] at hc
              rcases List.mem_append.1 hc with hc | hc
              · exact hd c hc
              · obtain rfl := List.mem_singleton.1 hc; unfold digB; simp; omega
            have HD := Lib.hid hd2
            have DV := Lib.hid dv
            clear hd hd2 dv
            have g1 : (48 : Int) ≤ ((s[i]).toNat : Nat) := by omega
            have g2 : (((s[i]).toNat : Nat) : Int) ≤ 57 := by omega
            clear hc1 hc2
            rcases Nat.mod_two_eq_zero_or_one i with ev | od
            · have ev' : ((i : Nat) : Int) % 2 = 0 := by omega
              have PE := Lib.hid (part_even s.data.toList i ev)
              have HY := Lib.hid (show Value.int .u8 (16 * (((s[i]).toNat : Int) - 48)) = .int .u8 ((UInt8.ofNat (16 * dAt s.data.toList i)).toNat) by
                rw [DV.out, UInt8.toNat_ofNat']; congr 1; omega)
              clear ev
              generalize UInt8.ofNat (16 * dAt s.data.toList i) = y at *
              go_wp2_with (at_builtin; refine wp_append_byte rfl _ _ rfl w _ _ _ rfl R.out _ _ HY.out rfl (by have := L1.out; omega) ?_)
              intro v' w2 R2
              have R2 := Lib.hid R2
              clear R
              go_wp2
              go_roundw
              case rel => exact ⟨i + 1, by omega, by go_num, HD.out, by rw [PE.out]; exact R2⟩
              case measure => simp [intOf]; omega
            · have od' : ((i : Nat) : Int) % 2 = 1 := by omega
              have PO := Lib.hid (part_odd s.data.toList i od)
              have PL := Lib.hid (part_last s.data.toList i od)
              obtain ⟨g, cap, hv, hg⟩ := row_shape R.out (by have := LP.out; omega)
              subst hv
              have ln : (part s.data.toList i).length = (i + 1) / 2 := part_length _ _
              have c1 := (R.out.1.cellAt ((i + 1) / 2 - 1) (by rw [ln]; omega))
              have f1 := R.out.1.frozenAt ((i + 1) / 2 - 1)
              have ex : (cellsOf (part s.data.toList i))[(i + 1) / 2 - 1]? = some (.int .u8 ((16 * dAt s.data.toList (i - 1) : Nat) : Int)) := by
                unfold cellsOf
                rw [List.getElem?_map, PL.out]
                have := dAt_bd s.data.toList (i - 1)
                simp only [Option.map_some]
                rw [UInt8.toNat_ofNat', Nat.mod_eq_of_lt (by omega)]
              rw [ex] at c1
              have dp := dAt_bd s.data.toList (i - 1)
              have D1 := Lib.hid (show dAt s.data.toList (i - 1) < 16 from dp)
              generalize dAt s.data.toList (i - 1) = dp' at *
              obtain ⟨n, hn⟩ : ∃ n, n = (i + 1) / 2 - 1 := ⟨_, rfl⟩
              rw [← hn] at c1 f1 PO
              have hlen : (part s.data.toList i).length = n + 1 := by omega
              have R0 := R
              have hin : i + 1 = 2 * n + 2 := by omega
              have HI := Lib.hid hin
              have nb : n < 4000 := by omega
              rw [hlen]
              clear hn ex R ln od hin
              go_wp2
              have R2 := Lib.hid (show RHex w (wr.setCell ⟨g, n, none⟩ (.int .u8 (16 * (dp' : Int) + (((s[i]).toNat : Int) - 48)))) (part s.data.toList (i + 1)) (.slice (some ⟨g, 0, none⟩) (n + 1) cap) from by
                obtain ⟨a, b⟩ := R0.out
                rw [hlen] at a
                have st := (a.stored n (.int .u8 (16 * (dp' : Int) + (((s[i]).toNat : Int) - 48)))).1
                refine ⟨?_, b.setCell hg _⟩
                have e : cellsOf (part s.data.toList (i + 1)) = (cellsOf (part s.data.toList i)).set n (.int .u8 (16 * (dp' : Int) + (((s[i]).toNat : Int) - 48))) := by
                  rw [PO.out]
                  unfold cellsOf
                  rw [List.map_set]
                  congr 2
                  have := D1.out
                  rw [UInt8.toNat_ofNat', DV.out]
                  omega
                rw [e, part_length, show (i + 1 + 1) / 2 = n + 1 by have := HI.out; omega]
                exact st)
              go_roundw
              case rel => exact ⟨i + 1, by omega, by go_num, HD.out, R2⟩
              case measure => simp [intOf]; omega
          · have N := Lib.hid (unhexO_bad hlt (by unfold digB; simp; omega))
            have b1 : ((s[i]).toNat : Int) < 48 ∨ (57 < ((s[i]).toNat : Int) ∧ ((s[i]).toNat : Int) < 97) ∨ 102 < ((s[i]).toNat : Int) := by omega
            clear hc1 hc2
            rcases b1 with h | ⟨h, h'⟩ | h
            all_goals
              go_wp2
              exact bodyPost_ret (v := .tuple #[.slice none 0 0, .bool false]) (by simp [results, Tryd.results25, go_sem]) rfl ⟨⟨_, rfl, UnhexOut.no N.out⟩, R.out.2⟩
      · obtain rfl : i = s.size := by omega
        have O := Lib.hid (okH_all (s := s.data.toList) (by rw [len_list]; exact HE.out) (by rw [List.take_of_length_le (by rw [len_list]; omega)] at hd; exact hd))
        have E := Lib.hid (part_end s.data.toList (by rw [len_list]; exact HE.out))
        rw [len_list] at E
        have Y := Lib.hid (Bytes.of_owns R.out.1)
        rw [E.out] at Y
        clear hd
        go_wp2
        refine bodyPost_ret (v := .tuple #[_, .bool true]) (by simp [results, Tryd.results25, go_sem]; rfl) rfl ⟨⟨_, rfl, _, by rw [O.out]; rfl, by rw [O.out]; exact Y.out⟩, R.out.2⟩
  · have N := Lib.hid (okH_odd (s := s.data.toList) (by rw [len_list]; exact he))
    have e1 : (s.size : Int) % 2 = 1 := by omega
    go_enter Tryd.func25, Tryd.ntmps25
    go_wp2
    exact bodyPost_ret (v := .tuple #[.slice none 0 0, .bool false]) (by simp [results, Tryd.results25, go_sem]) rfl ⟨⟨_, rfl, UnhexOut.no N.out⟩, Below.refl _ _⟩
end Go.Proofs.YtednmodeoofbgaaDoor
