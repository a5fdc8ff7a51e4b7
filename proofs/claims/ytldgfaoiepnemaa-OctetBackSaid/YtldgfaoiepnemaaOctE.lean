/-
  Package octet's Pad, Sum.
-/
import Derived.Test.YtldgfaoiepnemaaOctA
namespace Go.Proofs.Ytldgfaoiepnemaa
open Go.RowKit Go.Sort
set_option maxRecDepth 8000
set_option maxHeartbeats 1000000 in
theorem t_pad (n : Int) (hn : -9223372036854775808 ≤ n ∧ n ≤ 9223372036854775807) (w : World) : Calls Try.prog 14 #[.int .i64 n] w fun e w' => e = .returned (.int .i64 (padV n)) ∧ w = w' := by
  by_cases h : n < 0
  · have E := Lib.hid (show padV n = 0 from if_pos h)
    rw [E.out]
    go_enter Try.func14, Try.ntmps14
    go_wp2
    go_ret
    exact ⟨rfl, rfl⟩
  · have E := Lib.hid (show padV n = (4 - n % 4) % 4 from if_neg h)
    rw [E.out]
    have h0 : 0 ≤ n := by omega
    go_enter Try.func14, Try.ntmps14
    go_wp2
    go_ret
    exact ⟨rfl, rfl⟩
/-- A slice of slices that hold these bytes. -/
def Byts (w : World) (v : Value) (ls : List (List UInt8)) : Prop :=
  ∃ a c, v = .slice a ls.length c ∧ (ls = [] ∨ ∃ b o, a = some ⟨b, o, none⟩ ∧ b < w.heap.size ∧ ∀ j (h : j < ls.length), ∃ u, w.cell? ⟨b, o + j, none⟩ = some u ∧ Byt w u ls[j])
theorem Byts.on {w w' : World} {v : Value} {ls : List (List UInt8)} (h : Byts w v ls) (hb : Below w.heap.size w w') : Byts w' v ls := by
  obtain ⟨a, c, e, h⟩ := h
  refine ⟨a, c, e, h.imp id ?_⟩
  rintro ⟨b, o, ea, hl, hc⟩
  refine ⟨b, o, ea, Nat.lt_of_lt_of_le hl hb.size, fun j hj => ?_⟩
  obtain ⟨u, h1, h2⟩ := hc j hj
  exact ⟨u, (hb.cell (by exact hl)).trans h1, h2.on hb⟩
theorem Byts.get {w : World} {a : Option Addr} {n c : Nat} {ls : List (List UInt8)} (h : Byts w (.slice a n c) ls) {k : Nat} (hk : k < ls.length) :
    ∃ b o a' c', a = some ⟨b, o, none⟩ ∧ b < w.heap.size ∧ w.cell? ⟨b, o + k, none⟩ = some (.slice a' ls[k].length c') ∧ ls[k].length ≤ c' ∧ BytA w a' ls[k] := by
  obtain ⟨_, _, e, h⟩ := h
  cases e
  rcases h with rfl | ⟨b, o, ea, hb, hc⟩
  · simp at hk
  · obtain ⟨u, c0, hu⟩ := hc k hk
    obtain ⟨a', c', rfl, h1, h2⟩ := hu.open
    exact ⟨b, o, a', c', ea, hb, c0, h1, h2⟩
theorem Byts.new1 (w : World) {v : Value} {l : List UInt8} (h : Byt w v l) : Byts (w.alloc (.cells #[v] 22)) (.slice (some ⟨w.heap.size, 0, none⟩) 1 1) [l] := by
  refine ⟨_, 1, rfl, Or.inr ⟨_, 0, rfl, by simp, fun j hj => ?_⟩⟩
  obtain rfl : j = 0 := by simp at hj; exact hj
  exact ⟨v, World.cell?_alloc_at _ _ _ _ rfl, h.on (below_alloc _ _)⟩
theorem Byts.new2 (w : World) {v1 v2 : Value} {l1 l2 : List UInt8} (h1 : Byt w v1 l1) (h2 : Byt w v2 l2) : Byts (w.alloc (.cells #[v1, v2] 22)) (.slice (some ⟨w.heap.size, 0, none⟩) 2 2) [l1, l2] := by
  refine ⟨_, 2, rfl, Or.inr ⟨_, 0, rfl, by simp, fun j hj => ?_⟩⟩
  match j, hj with
  | 0, _ => exact ⟨v1, World.cell?_alloc_at _ _ _ _ rfl, h1.on (below_alloc _ _)⟩
  | 1, _ => exact ⟨v2, World.cell?_alloc_at _ _ _ _ rfl, h2.on (below_alloc _ _)⟩
  | j + 2, hj => simp at hj; omega
/-- A slice of numbers of kind k. -/
def Nums (k : IntKind) (w : World) (v : Value) (zs : List Int) : Prop :=
  ∃ a c, v = .slice a zs.length c ∧ (zs = [] ∨ ∃ b o, a = some ⟨b, o, none⟩ ∧ b < w.heap.size ∧ ∀ j (h : j < zs.length), w.cell? ⟨b, o + j, none⟩ = some (.int k zs[j]))
theorem Nums.on {k : IntKind} {w w' : World} {v : Value} {zs : List Int} (h : Nums k w v zs) (hb : Below w.heap.size w w') : Nums k w' v zs := by
  obtain ⟨a, c, e, h⟩ := h
  refine ⟨a, c, e, h.imp id ?_⟩
  rintro ⟨b, o, ea, hl, hc⟩
  exact ⟨b, o, ea, Nat.lt_of_lt_of_le hl hb.size, fun j hj => (hb.cell (by exact hl)).trans (hc j hj)⟩
theorem Nums.get {k : IntKind} {w : World} {a : Option Addr} {n c : Nat} {zs : List Int} (h : Nums k w (.slice a n c) zs) {j : Nat} (hj : j < zs.length) : ∃ b o, a = some ⟨b, o, none⟩ ∧ w.cell? ⟨b, o + j, none⟩ = some (.int k zs[j]) := by
  obtain ⟨_, _, e, h⟩ := h
  cases e
  rcases h with rfl | ⟨b, o, ea, hb, hc⟩
  · simp at hj
  · exact ⟨b, o, ea, hc j hj⟩
theorem flat_take (ls : List (List UInt8)) (k : Nat) (h : k < ls.length) : (ls.take (k + 1)).flatten = (ls.take k).flatten ++ ls[k] := by
  rw [List.take_succ_eq_append_getElem h, List.flatten_append]; simp
theorem flat_le (ls : List (List UInt8)) (k : Nat) (h : k < ls.length) : (ls.take k).flatten.length + ls[k].length ≤ ls.flatten.length := by
  have := flat_take ls k h
  have e : ls.flatten = (ls.take (k + 1)).flatten ++ (ls.drop (k + 1)).flatten := by rw [← List.flatten_append, List.take_append_drop]
  rw [e, this, List.length_append, List.length_append]; omega
theorem and_mask (s : Nat) (h : s < 18446744073709551616) : bits .and .u64 (s : Int) 65535 = ((s % 65536 : Nat) : Int) := by
  rw [← and_low16]; exact u64_and_nat s 65535 h (by omega)
theorem not16 (y : Nat) (h : y ≤ 65535) : bits .xor .u16 IntKind.u16.max (y : Int) = ((65535 - y : Nat) : Int) := by
  rw [← xor16 y h]; exact u16_xor_nat 65535 y (by omega) (by omega)
set_option maxHeartbeats 2000000 in
theorem t_sum (v : Value) (ls : List (List UInt8)) (hl : ls.length ≤ 140737488355328) (hz : ls.flatten.length ≤ 2000000) (w : World) (h : Byts w v ls) :
    Calls Try.prog 17 #[v] w fun e w' => e = .returned (.int .u16 (csum ls.flatten)) ∧ w = w' := by
  obtain ⟨a, c, rfl, h⟩ := h
  have H := Lib.hid h
  clear h
  go_enter Try.func17, Try.ntmps17
  go_wp2
  go_loop [3, 4, 12] (fun s p i => ∃ k : Nat, k ≤ ls.length ∧ i = .int .i64 k ∧ s = .int .u64 (ws true (ls.take k).flatten : Nat) ∧ p = .bool (par true (ls.take k).flatten)) (fun _ _ i => ls.length - (intOf i).toNat)
  case atStart => exact ⟨0, by omega, rfl, rfl, rfl⟩
  case round =>
    obtain ⟨k, hk, rfl, rfl, rfl⟩ := hrel
    by_cases hlt : k < ls.length
    · rcases H.out with h0 | ⟨g, o, rfl, hg, hcell⟩
      · rw [h0] at hlt; exact absurd hlt (by simp)
      obtain ⟨u, c0, hu⟩ := hcell k hlt
      obtain ⟨a', c', rfl, _, hA⟩ := hu.open
      have fl := flat_le ls k hlt
      have FT := Lib.hid (flat_take ls k hlt)
      have HA := Lib.hid hA
      clear hA hcell hu
      generalize ls[k] = q at *
      generalize (ls.take k).flatten = pre at *
      go_wp2
      go_loop [3, 4, 18] (fun s p i => ∃ m : Nat, m ≤ q.length ∧ i = .int .i64 m ∧ s = .int .u64 (ws true (pre ++ q.take m) : Nat) ∧ p = .bool (par true (pre ++ q.take m))) (fun _ _ i => q.length - (intOf i).toNat)
      case atStart => exact ⟨0, by omega, rfl, by simp, by simp⟩
      case round =>
        obtain ⟨m, hm, rfl, rfl, rfl⟩ := hrel
        by_cases hlt2 : m < q.length
        · rcases HA.out with h0 | ⟨g', o', rfl, hg', hcell⟩
          · rw [h0] at hlt2; exact absurd hlt2 (by simp)
          have c1 := hcell m hlt2
          have hn : (q[m]).toNat < 256 := (q[m]).toNat_lt
          have hs : ws true (pre ++ q.take m) ≤ 130560000000 := by
            have := ws_le true (pre ++ q.take m)
            rw [List.length_append, List.length_take] at this
            omega
          have W1 := Lib.hid (show ws true (pre ++ q.take (m + 1)) = ws true (pre ++ q.take m) + (if par true (pre ++ q.take m) then 256 * (q[m]).toNat else (q[m]).toNat) by
            rw [List.take_succ_eq_append_getElem hlt2, ← List.append_assoc, ws_snoc])
          have P1 := Lib.hid (show par true (pre ++ q.take (m + 1)) = !par true (pre ++ q.take m) by
            rw [List.take_succ_eq_append_getElem hlt2, ← List.append_assoc, par_snoc])
          clear hcell c0
          generalize (q[m]).toNat = d at *
          generalize ws true (pre ++ q.take m) = s at *
          generalize par true (pre ++ q.take m) = b at *
          cases b
          · go_wp2
            go_round
            case rel => exact ⟨m + 1, by omega, by go_num, by rw [W1.out]; simp, by rw [P1.out]; rfl⟩
            case measure => simp [intOf]; omega
          · go_wp2
            go_round
            case rel => exact ⟨m + 1, by omega, by go_num, by rw [W1.out]; simp; omega, by rw [P1.out]; rfl⟩
            case measure => simp [intOf]; omega
        · have E := Lib.hid (show pre ++ q.take m = pre ++ q by rw [List.take_of_length_le (by omega)])
          rw [E.out, ← FT.out]
          clear c0
          go_wp2
          go_round
          case rel => exact ⟨k + 1, by omega, by go_num, rfl, rfl⟩
          case measure => simp [intOf]; omega
    · have E := Lib.hid (show ls.take k = ls by rw [List.take_of_length_le (by omega)])
      rw [E.out]
      have hs : ws true ls.flatten ≤ 130560000000 := by have := ws_le true ls.flatten; omega
      have C := Lib.hid (show csum ls.flatten = 65535 - fold16 (ws true ls.flatten) from rfl)
      generalize ws true ls.flatten = s at *
      go_wp2
      go_loop [3] (fun x => ∃ y : Nat, y ≤ 130560000000 ∧ x = .int .u64 (y : Nat) ∧ Hid (fold16 y = fold16 s)) (fun x => (intOf x).toNat)
      case atStart => exact ⟨s, hs, rfl, rfl⟩
      case round =>
        obtain ⟨y, hy, rfl, F⟩ := hrel
        by_cases h16 : 65535 < y
        · have M := Lib.hid (show IntKind.u64.wrap ((y : Int) / 65536 + bits .and .u64 (y : Int) 65535) = ((y / 65536 + y % 65536 : Nat) : Int) by
            rw [and_mask y (by omega), IntKind.wrap_u64]; omega)
          have FS := Lib.hid (fold16_step y)
          go_wp2
          rw [M.out]
          go_round
          case rel => exact ⟨y / 65536 + y % 65536, by omega, rfl, (FS.out.trans F.out)⟩
          case measure => simp [intOf]; omega
        · have FY := Lib.hid (fold16_small y (by omega))
          have e : csum ls.flatten = 65535 - y := by rw [C.out, ← F.out, FY.out]
          have E2 := Lib.hid e
          clear e C F FY
          have X := Lib.hid (not16 y (by omega))
          have hb : y ≤ 65535 := by omega
          go_wp2
          go_ret
          rw [E2.out]
          exact ⟨congrArg (fun x => Ending.returned (.int .u16 x)) X.out, rfl⟩
end Go.Proofs.Ytldgfaoiepnemaa
