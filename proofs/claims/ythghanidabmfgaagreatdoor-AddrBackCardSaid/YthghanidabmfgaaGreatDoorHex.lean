/-
  Hex: the text of bytes.
-/
import Derived.Test.YthghanidabmfgaaGreatDoorHexL
import Derived.Lib.OthersKept
namespace Go.Proofs.YthghanidabmfgaaGreatDoor
open Go.RowKit Go.Sort
set_option maxRecDepth 8000
/-- A slice that holds these bytes. -/
def Bytes (w : World) (v : Value) (l : List UInt8) : Prop :=
  ∃ a c, v = .slice a l.length c ∧ (l = [] ∨ ∃ b o, a = some ⟨b, o, none⟩ ∧ b < w.heap.size ∧ ∀ j (h : j < l.length), w.cell? ⟨b, o + j, none⟩ = some (.int .u8 (l[j]).toNat))
theorem Bytes.on {w w' : World} {v : Value} {l : List UInt8} (h : Bytes w v l) (hb : Below w.heap.size w w') : Bytes w' v l := by
  obtain ⟨a, c, e, h⟩ := h
  refine ⟨a, c, e, h.imp id ?_⟩
  rintro ⟨b, o, ea, hl, hc⟩
  exact ⟨b, o, ea, Nat.lt_of_lt_of_le hl hb.size, fun j hj => (hb.cell (by exact hl)).trans (hc j hj)⟩
theorem take_list (l : List UInt8) (k : Nat) (h : k < l.length) : l.take (k + 1) = l.take k ++ [l[k]] := List.take_succ_eq_append_getElem h
theorem digits_fin : ∀ m : Fin 16, (⟨#[48, 49, 50, 51, 52, 53, 54, 55, 56, 57, 97, 98, 99, 100, 101, 102]⟩ : ByteArray)[m.val] = hexD m.val := by decide +kernel
theorem digits_at (m : Nat) (h : m < 16) : (⟨#[48, 49, 50, 51, 52, 53, 54, 55, 56, 57, 97, 98, 99, 100, 101, 102]⟩ : ByteArray)[m]'(by exact h) = hexD m := digits_fin ⟨m, h⟩
set_option maxHeartbeats 1000000 in
theorem t_hex (l : List UInt8) (hl : l.length ≤ 1000) (v : Value) (w : World) (hB : Bytes w v l) :
    Calls Tryz.prog 68 #[v] w fun e w' => e = .returned (.string ⟨(hexL l).toArray⟩) ∧ Below w.heap.size w w' := by
  obtain ⟨a, c, rfl, hc⟩ := hB
  have HC := Lib.hid hc
  clear hc
  go_enter Tryz.func68, Tryz.ntmps68
  go_upto_region 2 with fail
  go_upto_region 3 with (go_at_call 38; refine (Tryz.Builder_Grow_fresh w.heap.size w.heap.size (2 * l.length) _ (Nat.le_refl _) (row_new _ _ rfl) (by simp) (by omega)).mono ?_; rintro e w1 ⟨rfl, h1, b1⟩)
  have I1 := Lib.hid (Lib.IsBuilderF.of (Or.inr h1))
  have S1 := Lib.hid ((below_alloc w _).trans b1)
  clear h1 b1
  go_wp2
  go_loopw [12] (fun i wr => ∃ k : Nat, k ≤ l.length ∧ i = .int .i64 k ∧ Hid (Lib.IsBuilderF 80 5 w.heap.size w.heap.size (Lib.byteCells (hexL (l.take k))) wr) ∧ Hid (Below w.heap.size w wr)) (fun i _ => l.length - (intOf i).toNat)
  case atStart => exact ⟨0, by omega, rfl, I1, S1⟩
  case round =>
    clear I1 S1
    obtain ⟨k, hk, rfl, I, S⟩ := hrel
    by_cases hlt : k < l.length
    · rcases HC.out with h0 | ⟨b, o, rfl, hb, hc⟩
      · rw [h0] at hlt; exact absurd hlt (by simp)
      have c1 := (S.out.cell (p := ⟨b, o + k, none⟩) (by exact hb)).trans (hc k hlt)
      have hn : (l[k]).toNat < 256 := (l[k]).toNat_lt
      have hlen : (hexL (l.take k)).length = 2 * k := by rw [hexL_length, List.length_take]; omega
      generalize hcc : (l[k]).toNat = n at *
      clear hc
      have L1 := Lib.hid hlen
      have n1 : n / 16 < 16 := by omega
      have n2 : n % 16 < 16 := by omega
      go_wp2_with fail
      refine (Tryz.Builder_WriteByte_k w.heap.size w.heap.size _ _ _ I.out (by rw [Lib.byteCells_length]; have := L1.out; omega) S.out.size).mono ?_
      rintro e w2 ⟨rfl, h2, b2, -⟩
      have I2 : Hid (Lib.IsBuilderF 80 5 w.heap.size w.heap.size (Lib.byteCells (hexL (l.take k) ++ [hexD (n / 16)])) w2) := Lib.hid (by
        rw [digits_at (n / 16) n1] at h2
        rw [Lib.byteCells_append]; exact Or.inr h2)
      have S2 := Lib.hid (S.out.trans (b2.mono (Nat.le_refl _)))
      clear h2 b2 I S c1
      go_wp2_with fail
      refine (Tryz.Builder_WriteByte_k w.heap.size w.heap.size _ _ _ I2.out (by rw [Lib.byteCells_length, List.length_append]; have := L1.out; simp; omega) S2.out.size).mono ?_
      rintro e w3 ⟨rfl, h3, b3, -⟩
      have I3 : Hid (Lib.IsBuilderF 80 5 w.heap.size w.heap.size (Lib.byteCells (hexL (l.take k) ++ [hexD (n / 16)] ++ [hexD (n % 16)])) w3) := Lib.hid (by
        rw [digits_at (n % 16) n2] at h3
        rw [Lib.byteCells_append]; exact Or.inr h3)
      have S3 := Lib.hid (S2.out.trans (b3.mono (Nat.le_refl _)))
      clear h3 b3 I2 S2
      have E := Lib.hid (show hexL (l.take (k + 1)) = hexL (l.take k) ++ [hexD (n / 16)] ++ [hexD (n % 16)] by rw [take_list l k hlt, hexL_append, hcc])
      go_wp2
      go_roundw
      case rel => exact ⟨k + 1, by omega, by go_num, by rw [E.out]; exact I3, S3⟩
      case measure => simp [intOf]; omega
    · have E := Lib.hid (show hexL (l.take k) = hexL l by rw [List.take_of_length_le (by omega)])
      rw [E.out] at I
      go_wp2_with fail
      refine (Tryz.Builder_String_any_k w.heap.size w.heap.size _ _ I.out S.out.size).mono ?_
      rintro e w2 ⟨rfl, -, b2, -⟩
      go_wp2
      go_ret
      exact ⟨rfl, S.out.trans (b2.mono (Nat.le_refl _))⟩
end Go.Proofs.YthghanidabmfgaaGreatDoor
