/-
  strconv.FormatUint at base 16: the digits of a group.
-/
import Derived.Test.YthghanidabmfgaaGreatDoorStd5
import Derived.Laws.Bits64b
namespace Go.Proofs.YthghanidabmfgaaGreatDoor
open Go.RowKit Go.Sort
set_option maxRecDepth 8000
theorem tz64 (w : World) (h : Four16 w) : Calls Tryz.prog 131 #[.int .u64 16] w fun e w' => e = .returned (.int .i64 4) ∧ w' = w := by
  have c := h
  unfold Four16 at c
  have e : IntKind.u64.wrap (bits BinOp.and IntKind.u64 16 (IntKind.u64.wrap (-16)) * 285870213051353865) / 288230376151711744 = 15 := by decide +kernel
  go_enter Tryz.func131, Tryz.ntmps131
  go_wp2
  go_ret
  exact ⟨rfl, rfl⟩
theorem tz (w : World) (h : Four16 w) : Calls Tryz.prog 113 #[.int .u64 16] w fun e w' => e = .returned (.int .i64 4) ∧ w' = w := by
  go_enter Tryz.func113, Tryz.ntmps113
  go_wp2_with (go_at_call 131; refine (tz64 _ h).mono ?_; rintro e w1 ⟨rfl, rfl⟩)
  go_ret
  exact ⟨rfl, rfl⟩
theorem pow16 (w : World) : Calls Tryz.prog 112 #[.int .i64 16] w fun e w' => e = .returned (.bool true) ∧ w' = w := by
  go_enter Tryz.func112, Tryz.ntmps112
  have e : (bits BinOp.and IntKind.i64 16 15 == 0) = true := by decide +kernel
  go_wp2
  go_ret
  exact ⟨rfl, rfl⟩
theorem Four16.on {w w' : World} (h : Four16 w) (hb : Below w.heap.size w w') : Four16 w' := (hb.cell (block_lt_of_cell h)).trans h
theorem letters_fin : ∀ m : Fin 16, (⟨#[48, 49, 50, 51, 52, 53, 54, 55, 56, 57, 97, 98, 99, 100, 101, 102, 103, 104, 105, 106, 107, 108, 109, 110, 111, 112, 113, 114, 115, 116, 117, 118, 119, 120, 121, 122]⟩ : ByteArray)[m.val]'(Nat.lt_trans m.isLt (by decide)) = hxd m.val := by decide +kernel
theorem letters_at (m : Nat) (h : m < 16) (h' : m < 36) : (⟨#[48, 49, 50, 51, 52, 53, 54, 55, 56, 57, 97, 98, 99, 100, 101, 102, 103, 104, 105, 106, 107, 108, 109, 110, 111, 112, 113, 114, 115, 116, 117, 118, 119, 120, 121, 122]⟩ : ByteArray)[m]'h' = hxd m := letters_fin ⟨m, h⟩
theorem and15 (m : Nat) (h : m < 65536) : bits BinOp.and IntKind.u64 (m : Int) 15 = ((m % 16 : Nat) : Int) := by
  rw [show (15 : Int) = ((15 : Nat) : Int) from rfl, bits_and_u64_nat m 15 (by omega) (by omega)]
  rw [show m &&& 15 = m % 16 from Nat.and_two_pow_sub_one_eq_mod m 4]
/-- The digits so far, at the row's end; j + 1: where they begin. -/
def Digs (w wr : World) (g u m j : Nat) : Prop := ∃ (cs : Array Value) (T : List UInt8), Blk wr g 167 cs ∧ cs.size = 65 ∧ T.length = 64 - j ∧ hexs u = hexs m ++ T ∧ (∀ i (h : i < T.length), cs[j + 1 + i]? = some (.int .u8 (T[i].toNat : Int))) ∧ Below w.heap.size w wr ∧ m * 16 ^ (64 - j) ≤ u
theorem Digs.cell {w wr : World} {g u m j : Nat} (h : Digs w wr g u m j) (hj : j ≤ 64) : ∃ v, wr.cell? ⟨g, j, none⟩ = some v := by
  obtain ⟨cs, T, hB, hs, _⟩ := h
  exact ⟨_, hB.cell (Array.getElem?_eq_getElem (show j < cs.size by omega))⟩
theorem Digs.free {w wr : World} {g u m j : Nat} (h : Digs w wr g u m j) : wr.frozen? ⟨g, j, none⟩ = false := by
  obtain ⟨cs, T, hB, _⟩ := h
  exact hB.free j
theorem hexs_big {m : Nat} (h : 16 ≤ m) : hexs m = hexs (m / 16) ++ [hxd (m % 16)] := by rw [hexs, if_neg (by omega)]
theorem hexs_small {m : Nat} (h : m < 16) : hexs m = [hxd m] := by rw [hexs, if_pos h]
theorem digs_put {cs : Array Value} {T : List UInt8} {j : Nat} (c : UInt8) (hs : j < cs.size) (h : ∀ i (h : i < T.length), cs[j + 1 + i]? = some (.int .u8 (T[i].toNat : Int))) :
    ∀ i (h : i < (c :: T).length), (cs.setIfInBounds j (.int .u8 (c.toNat : Int)))[j + i]? = some (.int .u8 ((c :: T)[i].toNat : Int)) := by
  intro i hi
  cases i with
  | zero => simp [hs]
  | succ i =>
    rw [Array.getElem?_setIfInBounds_ne (by omega), show j + (i + 1) = j + 1 + i by omega, h i (by simpa using hi)]
    rfl
theorem Digs.put {w wr : World} {g u m j : Nat} (h : Digs w wr g u m (j + 1)) (hj : j + 1 ≤ 64) (h16 : 16 ≤ m) (hg : w.heap.size ≤ g) : Digs w (wr.setCell ⟨g, j + 1, none⟩ (.int .u8 ((hxd (m % 16)).toNat : Int))) g u (m / 16) j := by
  obtain ⟨cs, T, hB, hs, hl, he, hc, hb, hu⟩ := h
  refine ⟨_, hxd (m % 16) :: T, hB.put _ _, by simpa using hs, by simp [hl]; omega, by rw [he, hexs_big h16]; simp, digs_put _ (by omega) hc, hb.setCell hg _, ?_⟩
  rw [show 64 - j = (64 - (j + 1)) + 1 by omega, Nat.pow_succ]
  refine Nat.le_trans ?_ hu
  have : m / 16 * 16 ≤ m := Nat.div_mul_le_self m 16
  calc m / 16 * (16 ^ (64 - (j + 1)) * 16) = m / 16 * 16 * 16 ^ (64 - (j + 1)) := by rw [Nat.mul_comm (16 ^ _) 16, Nat.mul_assoc]
    _ ≤ m * 16 ^ (64 - (j + 1)) := Nat.mul_le_mul_right _ this
theorem Digs.done {w wr : World} {g u m j : Nat} (h : Digs w wr g u m j) (hj : j ≤ 64) (h16 : m < 16) (hg : w.heap.size ≤ g) :
    (hexs u).length = 65 - j ∧ (∀ i (h : i < (hexs u).length), (wr.setCell ⟨g, j, none⟩ (.int .u8 ((hxd m).toNat : Int))).cell? ⟨g, j + i, none⟩ = some (.int .u8 ((hexs u)[i].toNat : Int))) ∧ Below w.heap.size w (wr.setCell ⟨g, j, none⟩ (.int .u8 ((hxd m).toNat : Int))) := by
  obtain ⟨cs, T, hB, hs, hl, he, hc, hb, hu⟩ := h
  rw [hexs_small h16] at he
  rw [he]
  refine ⟨by simp [hl]; omega, fun i hi => (hB.put _ _).cell (digs_put (hxd m) (by omega) hc i (by simpa using hi)), hb.setCell hg _⟩
theorem Digs.room {w wr : World} {g u m j : Nat} (h : Digs w wr g u m j) (hu : u < 65536) (h16 : 16 ≤ m) (hj : 61 ≤ j ∧ j ≤ 64) : 62 ≤ j := by
  obtain ⟨_, _, _, _, _, _, _, _, h⟩ := h
  rcases Nat.lt_or_ge j 62 with c | c
  · obtain rfl : j = 61 := by omega
    simp at h; omega
  · exact c
set_option maxHeartbeats 1000000 in
theorem format16 (u : Nat) (hu : u < 65536) (w : World) (hw : Four16 w) :
    Calls Tryz.prog 87 #[.slice none 0 0, .int .u64 u, .int .i64 16, .bool false, .bool false] w fun e w' => e = .returned (.tuple #[.slice none 0 0, .string (str (hexs u))]) ∧ Below w.heap.size w w' := by
  have T := Lib.hid (fun w h => tz w h)
  have P := Lib.hid (fun w => pow16 w)
  have W := Lib.hid hw
  clear hw
  go_enter Tryz.func87, Tryz.ntmps87
  go_upto_region 10 with (first
    | (go_at_call 112; refine (P.out _).mono ?_; rintro e w1 ⟨rfl, rfl⟩)
    | (go_at_call 113; refine (T.out _ (W.out.on (below_alloc _ _))).mono ?_; rintro e w1 ⟨rfl, rfl⟩))
  have B0 : Hid (Digs w (w.alloc (.cells Tryz.zeroCells167 167)) w.heap.size u u 64) := Lib.hid ⟨_, [], Blk.new _ _ _ rfl, by kernel_rfl, rfl, by simp, by simp, below_alloc _ _, by simp⟩
  generalize w.alloc (.cells Tryz.zeroCells167 167) = w1 at *
  clear T P
  go_wp2
  go_loopw [1, 13] (fun v i wr => ∃ m j : Nat, v = .int .u64 m ∧ i = .int .i64 ((j : Int) + 1) ∧ m < 65536 ∧ 61 ≤ j ∧ j ≤ 64 ∧ Hid (Digs w wr w.heap.size u m j)) (fun v _ _ => (intOf v).toNat)
  case atStart => exact ⟨u, 64, rfl, rfl, hu, by omega, by omega, B0⟩
  case round =>
    clear B0
    obtain ⟨m, j, rfl, rfl, hm, h1, h2, D⟩ := hrel
    obtain ⟨v0, c0⟩ := D.out.cell h2
    have f0 := D.out.free
    by_cases h16 : 16 ≤ m
    · have hj := D.out.room hu h16 ⟨h1, h2⟩
      obtain ⟨d, ed⟩ : ∃ d, d = m % 16 := ⟨_, rfl⟩
      have BA := and15 m hm
      rw [← ed] at BA
      have n1 : d < 16 := by omega
      obtain ⟨i, rfl⟩ : ∃ i, j = i + 1 := ⟨j - 1, by omega⟩
      have DP := Lib.hid (ed ▸ D.out.put (by omega) h16 (Nat.le_refl _))
      have H16 := Lib.hid h16
      clear ed D
      go_wp2
      rw [letters_at d n1]
      refine ⟨⟨m / 16, i, by go_num, by go_num, by omega, by omega, by omega, DP⟩, ?_⟩
      have := H16.out
      simp [intOf]; omega
    · have n1 : m < 16 := by omega
      have DD := D.out.done h2 n1 (Nat.le_refl _)
      obtain ⟨e1, e2, e3⟩ := DD
      have B := Lib.hid e3
      have hal : Tryz.prog.arrayLen 167 = 65 := by simp [Program.arrayLen, Tryz.underlying167]
      have hsl : ∀ W, (Instr.sliceAt 167 (.pointer (some ⟨w.heap.size, 0, none⟩)) (some (.int .i64 (j : Int))) none none).run Tryz.prog W = .ok (.slice (some ⟨w.heap.size, j, none⟩) (65 - j) (65 - j)) W := fun W => by
        rw [run_sliceAt_array_l W 167 ⟨w.heap.size, 0, none⟩ (by simp [Program.arrayLen, Program.elem, Tryz.underlying167]) .i64 (j : Int) (by omega) (by rw [hal]; omega)]
        have : ¬ 65 = j := by omega
        go_simp
      rw [← letters_at m n1 (by omega)] at e2 e3
      have cv := run_convert_bytes_back (P := Tryz.prog) _ 33 9 5 ⟨w.heap.size, j, none⟩ (65 - j) (hexs u) Tryz.underlying33 Tryz.underlying5 Tryz.underlying9 (fun i hi => by rw [Lib.add_plain]; exact e2 i hi)
      rw [e1] at cv
      rw [← letters_at m n1 (by omega)] at B
      clear e1 e2 e3 D hal
      go_wp2
      exact bodyPost_ret (v := .tuple #[.slice none 0 0, .string ⟨(hexs u).toArray⟩]) (by simp [results, Tryz.results87, go_sem]) rfl ⟨rfl, B.out⟩
theorem x_format16 (u : Nat) (hu : u < 65536) : Tells 47 #[.int .u64 u, .int .i64 16] (.string (str (hexs u))) := fun w hw => by
  have F := Lib.hid (fun w hw => format16 u hu w hw)
  have W := Lib.hid hw.2.2.2.2
  have I : Hid (∀ w, Four16 w → Calls Tryz.prog 65 #[.int .u64 u, .int .i64 16] w fun e w' => e = .returned (.string (str (hexs u))) ∧ Below w.heap.size w w') := Lib.hid (fun w hw => by
    have W := Lib.hid hw
    generalize str (hexs u) = s at *
    clear hw
    go_enter Tryz.func65, Tryz.ntmps65
    go_wp2_with (go_at_call 87; refine (F.out _ W.out).mono ?_; rintro e w1 ⟨rfl, hb⟩)
    go_ret
    exact ⟨rfl, hb⟩)
  generalize str (hexs u) = s at *
  clear hw F
  go_enter Tryz.func47, Tryz.ntmps47
  go_wp2_with (go_at_call 65; refine (I.out _ W.out).mono ?_; rintro e w1 ⟨rfl, hb⟩)
  go_ret
  exact ⟨rfl, hb⟩
end Go.Proofs.YthghanidabmfgaaGreatDoor
