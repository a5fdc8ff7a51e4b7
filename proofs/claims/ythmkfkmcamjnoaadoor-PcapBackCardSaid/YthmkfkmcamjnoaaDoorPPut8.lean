/-
  Package pcap: Put.
-/
import Derived.Test.YthmkfkmcamjnoaaDoorPBytes8
namespace Go.Proofs.YthmkfkmcamjnoaaDoor
open Go.RowKit Go.Sort
set_option maxRecDepth 8000
theorem putS_take (a : Bool) (y0 y1 y2 y3 : Nat) : (putS a y0 y1 y2 y3).take 0 = [] ∧ (putS a y0 y1 y2 y3).take 4 = (putS a y0 y1 y2 y3).take 0 ++ ord a (lowB y0 4) ∧ (putS a y0 y1 y2 y3).take 8 = (putS a y0 y1 y2 y3).take 4 ++ ord a (lowB y1 4) ∧ (putS a y0 y1 y2 y3).take 12 = (putS a y0 y1 y2 y3).take 8 ++ ord a (lowB y2 4) ∧ (putS a y0 y1 y2 y3).take 16 = (putS a y0 y1 y2 y3).take 12 ++ ord a (lowB y3 4) ∧ (putS a y0 y1 y2 y3).take 16 = putS a y0 y1 y2 y3 := by
  have l0 : (ord a (lowB y0 4)).length = 4 := by rw [ord_length, low_length]
  have l1 : (ord a (lowB y1 4)).length = 4 := by rw [ord_length, low_length]
  have l2 : (ord a (lowB y2 4)).length = 4 := by rw [ord_length, low_length]
  have l3 : (ord a (lowB y3 4)).length = 4 := by rw [ord_length, low_length]
  unfold putS
  generalize ord a (lowB y0 4) = A at *
  generalize ord a (lowB y1 4) = B at *
  generalize ord a (lowB y2 4) = C at *
  generalize ord a (lowB y3 4) = D at *
  have e4 : (A ++ B ++ C ++ D).take 4 = A := by rw [List.append_assoc, List.append_assoc, ← l0, List.take_left]
  have e8 : (A ++ B ++ C ++ D).take 8 = A ++ B := by rw [List.append_assoc (A ++ B), show 8 = (A ++ B).length by simp [l0, l1], List.take_left]
  have e12 : (A ++ B ++ C ++ D).take 12 = A ++ B ++ C := by rw [show 12 = (A ++ B ++ C).length by simp [l0, l1, l2], List.take_left]
  have e16 : (A ++ B ++ C ++ D).take 16 = A ++ B ++ C ++ D := List.take_of_length_le (by simp [l0, l1, l2, l3])
  rw [e4, e8, e12, e16]
  simp
set_option maxHeartbeats 4000000 in
theorem t_putF (a b : Bool) (k s : Nat) (y0 y1 y2 y3 : Nat) (h0 : y0 < 4294967296) (h1 : y1 < 4294967296) (h2 : y2 < 4294967296) (h3 : y3 < 4294967296) (w : World) :
    Calls Tryd.prog 17 #[(.agg #[.bool a, .bool b, .int .u16 k, .int .u32 s]), (.agg #[.int .u32 y0, .int .u32 y1, .int .u32 y2, .int .u32 y3])] w (BytOut w (putS a y0 y1 y2 y3)) := by
  obtain ⟨T0, T1, T2, T3, T4, T5⟩ := putS_take a y0 y1 y2 y3
  have hL : (putS a y0 y1 y2 y3).length = 16 := putS_length _ _ _ _ _
  generalize putS a y0 y1 y2 y3 = l at *
  have RW := Lib.hid (fun w => t_row a b k s none 0 0 w)
  have P0 := Lib.hid (fun v w hB => put_next a v _ _ y0 4 (by omega) (by omega) (by simp) T1 y0 4 rfl rfl w hB)
  have P1 := Lib.hid (fun v w hB => put_next a v _ _ y1 4 (by omega) (by omega) (by simp; omega) T2 y1 4 rfl rfl w hB)
  have P2 := Lib.hid (fun v w hB => put_next a v _ _ y2 4 (by omega) (by omega) (by simp; omega) T3 y2 4 rfl rfl w hB)
  have P3 := Lib.hid (fun v w hB => put_next a v _ _ y3 4 (by omega) (by omega) (by simp; omega) T4 y3 4 rfl rfl w hB)
  rw [T0] at P0
  rw [T5] at P3
  have N0 := Lib.hid (show l.take 0 = [] from T0)
  have N16 := Lib.hid (show l.take 16 = l from T5)
  clear T0 T1 T2 T3 T4 T5 hL
  have i0 : ∀ w, (Instr.index 46 (.agg #[.int .u32 y0, .int .u32 y1, .int .u32 y2, .int .u32 y3]) (.int .i64 0)).run Tryd.prog w = .ok (.int .u32 y0) w := fun _ => by kernel_rfl
  have i1 : ∀ w, (Instr.index 46 (.agg #[.int .u32 y0, .int .u32 y1, .int .u32 y2, .int .u32 y3]) (.int .i64 1)).run Tryd.prog w = .ok (.int .u32 y1) w := fun _ => by kernel_rfl
  have i2 : ∀ w, (Instr.index 46 (.agg #[.int .u32 y0, .int .u32 y1, .int .u32 y2, .int .u32 y3]) (.int .i64 2)).run Tryd.prog w = .ok (.int .u32 y2) w := fun _ => by kernel_rfl
  have i3 : ∀ w, (Instr.index 46 (.agg #[.int .u32 y0, .int .u32 y1, .int .u32 y2, .int .u32 y3]) (.int .i64 3)).run Tryd.prog w = .ok (.int .u32 y3) w := fun _ => by kernel_rfl
  have w0 : IntKind.u64.wrap (y0 : Int) = (y0 : Int) := wrap_small y0 (by omega)
  have w1 : IntKind.u64.wrap (y1 : Int) = (y1 : Int) := wrap_small y1 (by omega)
  have w2 : IntKind.u64.wrap (y2 : Int) = (y2 : Int) := wrap_small y2 (by omega)
  have w3 : IntKind.u64.wrap (y3 : Int) = (y3 : Int) := wrap_small y3 (by omega)
  clear h0 h1 h2 h3
  go_enter Tryd.func17, Tryd.ntmps17
  go_upto_region 1 with fail
  have F0 := Lib.hid (keepRow (row_new w (.cells #[.bool a, .bool b, .int .u16 k, .int .u32 s] 26) rfl) (below_alloc _ (.cells #[.int .u32 y0, .int .u32 y1, .int .u32 y2, .int .u32 y3] 43)))
  have H0 := Lib.hid (row_new (w.alloc (.cells #[.bool a, .bool b, .int .u16 k, .int .u32 s] 26)) (.cells #[.int .u32 y0, .int .u32 y1, .int .u32 y2, .int .u32 y3] 43) (b := w.heap.size + 1) (by simp))
  have B0 := Lib.hid ((below_alloc w (.cells #[.bool a, .bool b, .int .u16 k, .int .u32 s] 26)).trans ((below_alloc _ (.cells #[.int .u32 y0, .int .u32 y1, .int .u32 y2, .int .u32 y3] 43)).mono (by simp)))
  generalize (w.alloc (.cells #[.bool a, .bool b, .int .u16 k, .int .u32 s] 26)).alloc (.cells #[.int .u32 y0, .int .u32 y1, .int .u32 y2, .int .u32 y3] 43) = u0 at *
  obtain ⟨⟨c0, c1, c2, c3⟩, _⟩ := row4 F0.out
  go_wp2_with fail
  refine (RW.out _).mono ?_
  rintro e u1 ⟨rfl, hb⟩
  have H1 := Lib.hid (keepRow H0.out hb)
  have B1 := Lib.hid (B0.out.trans (hb.mono B0.out.size))
  clear F0 H0 B0 hb c0 c1 c2 c3
  go_upto_region 2 with fail
  have H2 := Lib.hid (keepRow H1.out (below_alloc u1 (.cells #[.slice none 0 0, .bool a] 64)))
  have B2 := Lib.hid (B1.out.trans ((below_alloc u1 (.cells #[.slice none 0 0, .bool a] 64)).mono B1.out.size))
  have G2 := Lib.hid (row_new u1 (.cells #[.slice none 0 0, .bool a] 64) rfl)
  have QP := Lib.hid (show w.heap.size ≤ u1.heap.size from B1.out.size)
  clear H1 B1
  generalize u1.alloc (.cells #[.slice none 0 0, .bool a] 64) = u2 at *
  generalize u1.heap.size = q at *
  obtain ⟨⟨c0, c1, c2, c3⟩, _⟩ := row4 H2.out
  go_wp2
  clear c0 c1 c2 c3 H2
  go_loopw [7, 19] (fun _ i wr => ∃ j : Nat, j ≤ 4 ∧ i = .int .i64 j ∧ Hid (Below w.heap.size w wr ∧ ∃ aa n c, wr.heap[q]? = some (.cells #[.slice aa n c, .bool a] 64 (0, 0)) ∧ Byt wr (.slice aa n c) (l.take (4 * j)))) (fun _ i _ => 4 - (intOf i).toNat)
  case atStart => exact ⟨0, by omega, rfl, Lib.hid ⟨B2.out, none, 0, 0, G2.out, by rw [Nat.mul_zero, N0.out]; exact byt_nil _⟩⟩
  case round =>
    obtain ⟨j, hj, rfl, N⟩ := hrel
    clear B2 G2
    obtain ⟨B3, aa, n, c, G3', Y3'⟩ := N.out
    have B3 := Lib.hid B3
    have G3 := Lib.hid G3'
    have Y3 := Lib.hid Y3'
    clear N G3' Y3'
    have c0 := cell_of_row _ q 0 _ _ _ G3.out
    have c1 := cell_of_row _ q 1 _ _ _ G3.out
    rcases (show j = 0 ∨ j = 1 ∨ j = 2 ∨ j = 3 ∨ j = 4 by omega) with rfl | rfl | rfl | rfl | rfl
    · rw [Nat.mul_zero, N0.out] at Y3
      go_wp2_with fail
      refine (P0.out _ _ Y3.out).mono ?_
      rintro e u4 ⟨v4, rfl, hY, hb⟩
      have B4 := Lib.hid (B3.out.trans (hb.mono B3.out.size))
      have G4 := Lib.hid (keepRow G3.out hb)
      have Y4 := Lib.hid hY
      obtain ⟨a4, n4, d4, rfl⟩ := hY.slice
      clear hb B3 hY Y3 G3 c0 c1
      have c0 := cell_of_row _ q 0 _ _ _ G4.out
      have c1 := cell_of_row _ q 1 _ _ _ G4.out
      have f0 := frozen_of_row _ q 0 _ _ G4.out
      have f1 := frozen_of_row _ q 1 _ _ G4.out
      go_wp2
      go_roundw
      case rel => exact ⟨1, by omega, rfl, Lib.hid ⟨below_two B4.out QP.out _ _, a4, n4, d4, two_row G4.out _ _, Y4.out.stored G4.out _ _⟩⟩
      case measure => simp [intOf]
    · rw [show 4 * 1 = 4 from rfl] at Y3
      go_wp2_with fail
      refine (P1.out _ _ Y3.out).mono ?_
      rintro e u4 ⟨v4, rfl, hY, hb⟩
      have B4 := Lib.hid (B3.out.trans (hb.mono B3.out.size))
      have G4 := Lib.hid (keepRow G3.out hb)
      have Y4 := Lib.hid hY
      obtain ⟨a4, n4, d4, rfl⟩ := hY.slice
      clear hb B3 hY Y3 G3 c0 c1
      have c0 := cell_of_row _ q 0 _ _ _ G4.out
      have c1 := cell_of_row _ q 1 _ _ _ G4.out
      have f0 := frozen_of_row _ q 0 _ _ G4.out
      have f1 := frozen_of_row _ q 1 _ _ G4.out
      go_wp2
      go_roundw
      case rel => exact ⟨2, by omega, rfl, Lib.hid ⟨below_two B4.out QP.out _ _, a4, n4, d4, two_row G4.out _ _, Y4.out.stored G4.out _ _⟩⟩
      case measure => simp [intOf]
    · rw [show 4 * 2 = 8 from rfl] at Y3
      go_wp2_with fail
      refine (P2.out _ _ Y3.out).mono ?_
      rintro e u4 ⟨v4, rfl, hY, hb⟩
      have B4 := Lib.hid (B3.out.trans (hb.mono B3.out.size))
      have G4 := Lib.hid (keepRow G3.out hb)
      have Y4 := Lib.hid hY
      obtain ⟨a4, n4, d4, rfl⟩ := hY.slice
      clear hb B3 hY Y3 G3 c0 c1
      have c0 := cell_of_row _ q 0 _ _ _ G4.out
      have c1 := cell_of_row _ q 1 _ _ _ G4.out
      have f0 := frozen_of_row _ q 0 _ _ G4.out
      have f1 := frozen_of_row _ q 1 _ _ G4.out
      go_wp2
      go_roundw
      case rel => exact ⟨3, by omega, rfl, Lib.hid ⟨below_two B4.out QP.out _ _, a4, n4, d4, two_row G4.out _ _, Y4.out.stored G4.out _ _⟩⟩
      case measure => simp [intOf]
    · rw [show 4 * 3 = 12 from rfl] at Y3
      go_wp2_with fail
      refine (P3.out _ _ Y3.out).mono ?_
      rintro e u4 ⟨v4, rfl, hY, hb⟩
      have B4 := Lib.hid (B3.out.trans (hb.mono B3.out.size))
      have G4 := Lib.hid (keepRow G3.out hb)
      have Y4 := Lib.hid hY
      obtain ⟨a4, n4, d4, rfl⟩ := hY.slice
      clear hb B3 hY Y3 G3 c0 c1
      have c0 := cell_of_row _ q 0 _ _ _ G4.out
      have c1 := cell_of_row _ q 1 _ _ _ G4.out
      have f0 := frozen_of_row _ q 0 _ _ G4.out
      have f1 := frozen_of_row _ q 1 _ _ G4.out
      go_wp2
      go_roundw
      case rel => exact ⟨4, by omega, rfl, Lib.hid ⟨below_two B4.out QP.out _ _, a4, n4, d4, two_row G4.out _ _, by rw [show 4 * 4 = 16 from rfl, N16.out]; exact Y4.out.stored G4.out _ _⟩⟩
      case measure => simp [intOf]
    · rw [show 4 * 4 = 16 from rfl, N16.out] at Y3
      go_wp2
      go_ret
      exact ⟨_, rfl, Y3.out, B3.out⟩
end Go.Proofs.YthmkfkmcamjnoaaDoor
