/-
  Which words a note may have.
-/
import Derived.Test.YtjdnekkbmanmdaaDoorByteStr
namespace Go.Proofs.YtjdnekkbmanmdaaDoor
open Go.RowKit Go.Sort
set_option maxRecDepth 8000
/-- A small letter, a figure, a dash. -/
def okR (r : Nat) : Bool := 97 ≤ r && r ≤ 122 || 48 ≤ r && r ≤ 57 || r == 45
def okB (c : UInt8) : Bool := okR c.toNat
def mayW (l : List UInt8) : Bool := !l.isEmpty && decide (l.length ≤ 32) && l.all okB
theorem okR_high {r : Nat} (h : 128 ≤ r) : okR r = false := by unfold okR; simp; omega
theorem okR_cases (r : Nat) : (okR r = true ∧ (97 ≤ r ∧ r ≤ 122 ∨ 48 ≤ r ∧ r ≤ 57 ∨ r = 45)) ∨ (okR r = false ∧ (r < 45 ∨ 45 < r ∧ r < 48 ∨ 57 < r ∧ r < 97 ∨ 122 < r)) := by
  unfold okR
  by_cases h : (97 ≤ r ∧ r ≤ 122 ∨ 48 ≤ r ∧ r ≤ 57 ∨ r = 45)
  · exact Or.inl ⟨by simp; omega, h⟩
  · exact Or.inr ⟨by simp; omega, by omega⟩
def MayI (w wr : World) (s : ByteArray) (pos : Nat) : Prop := wr.heap[w.heap.size]? = some (.stringIter s pos) ∧ Below w.heap.size w wr
theorem MayI.next {w wr : World} {s : ByteArray} {pos : Nat} (h : MayI w wr s pos) (q : Nat) : MayI w (wr.iterAt w.heap.size s q) s q :=
  ⟨Lib.iterAt_heap wr _ s pos q h.1, Lib.below_iterAt h.2 (Nat.le_refl _) s q⟩
set_option maxHeartbeats 2000000 in
theorem t_may (s : ByteArray) (w : World) : Calls Tryd.prog 31 #[.string s] w fun e w' => e = .returned (.bool (mayW s.data.toList)) ∧ Below w.heap.size w w' := by
  obtain ⟨r, hr⟩ : ∃ r, r = mayW s.data.toList := ⟨_, rfl⟩
  rw [← hr]
  by_cases h0 : s.size = 0
  · have e : s.data.toList = [] := List.length_eq_zero_iff.1 (by rw [len_list]; exact h0)
    have k : (s.toList == []) = true := by rw [ByteArray.toList_eq, e]; rfl
    have R := Lib.hid (show r = false by rw [hr, e]; rfl)
    clear h0 e hr
    go_enter Tryd.func31, Tryd.ntmps31
    go_wp2
    go_ret
    exact ⟨by rw [R.out]; rfl, Below.refl _ _⟩
  have ne : s.data.toList ≠ [] := fun e => h0 (by rw [← len_list, e]; rfl)
  have k : (s.toList == []) = false := by rw [ByteArray.toList_eq]; simpa using ne
  by_cases h1 : 32 < s.size
  · have h1' : (32 : Int) < s.size := by omega
    have R := Lib.hid (show r = false by rw [hr, mayW, len_list]; simp; omega)
    clear h0 h1 ne hr
    go_enter Tryd.func31, Tryd.ntmps31
    go_wp2
    go_ret
    exact ⟨by rw [R.out]; rfl, Below.refl _ _⟩
  have h1' : ¬ (32 : Int) < s.size := by omega
  have R := Lib.hid (show r = s.data.toList.all okB by
    rw [hr, mayW, len_list]
    have : s.data.toList.isEmpty = false := by simpa using ne
    simp only [this, Bool.not_false, Bool.true_and]
    rw [decide_eq_true (by omega)]; simp)
  clear h0 h1 ne hr
  go_enter Tryd.func31, Tryd.ntmps31
  go_wp2
  go_loopw [] (fun wr => ∃ pos : Nat, MayI w wr s pos ∧ Hid (pos ≤ s.size ∧ (s.data.toList.take pos).all okB = true)) (fun wr => s.size - wr.iterPos w.heap.size)
  case atStart => exact ⟨0, ⟨row_new _ _ rfl, below_alloc _ _⟩, ⟨by omega, rfl⟩⟩
  case round =>
    obtain ⟨pos, hm, A⟩ := hrel
    have hit := hm.1
    have hb := hm.2
    by_cases hlt : pos < s.size
    · have hnx : ∀ ty, (Instr.next (.pointer (some ⟨w.heap.size, 0, none⟩)) true ty).run Tryd.prog wr = _ := fun ty => Lib.run_next_any_at wr w.heap.size s pos ty hit hlt
      have hdl := decode_le s pos
      obtain ⟨q, hq⟩ : ∃ q, q = pos + (Utf8.decode s pos).2 := ⟨_, rfl⟩
      obtain ⟨c, hc⟩ : ∃ c, c = (Utf8.decode s pos).1 := ⟨_, rfl⟩
      have M1 := Lib.hid (hm.next q)
      have C := Lib.hid (show (okR c = true → pos < q ∧ q ≤ s.size ∧ (s.data.toList.take q).all okB = true) ∧ (okR c = false → r = false) from by
        have bad : okB s[pos] = false → r = false := fun h => by
          rw [R.out, List.all_eq_false]
          exact ⟨s[pos], List.getElem_mem (by rw [len_list]; exact hlt), by simp [h]⟩
        by_cases ha : (s[pos]).toNat < 128
        · rw [decode_ascii s pos hlt ha] at hq hc
          refine ⟨fun h => ?_, fun h => bad (by rw [hc] at h; exact h)⟩
          rw [hc] at h
          rw [hq, take_byte s pos hlt, List.all_append, A.out.2]
          exact ⟨Nat.lt_succ_self _, hlt, by simp [okB, h]⟩
        · have d := decode_high s pos hlt (by omega)
          have h1 := okR_high (r := c) (by rw [hc]; exact d.1)
          have h2 := okR_high (r := (s[pos]).toNat) (by omega)
          exact ⟨fun h => (by rw [h1] at h; cases h), fun _ => bad h2⟩)
      rw [← hq, ← hc] at hnx
      rw [← hc] at hdl
      have H0 := Lib.hid hit
      have LT := Lib.hid hlt
      clear hit hm hb hq hc hlt
      rcases okR_cases c with ⟨hk, (h | h | h)⟩ | ⟨hk, (h | h | h | h)⟩
      · have b1 : (97 : Int) ≤ c := by omega
        have b2 : (c : Int) ≤ 122 := by omega
        have K := Lib.hid hk
        clear h hk
        go_wp2
        go_roundw
        case rel => exact ⟨q, M1.out, (C.out.1 K.out).2⟩
        case measure =>
          have := C.out.1 K.out
          simp only [World.iterPos, M1.out.1, H0.out]
          omega
      · have b1 : (c : Int) < 97 := by omega
        have b3 : (48 : Int) ≤ c := by omega
        have b4 : (c : Int) ≤ 57 := by omega
        have K := Lib.hid hk
        clear h hk
        go_wp2
        go_roundw
        case rel => exact ⟨q, M1.out, (C.out.1 K.out).2⟩
        case measure =>
          have := C.out.1 K.out
          simp only [World.iterPos, M1.out.1, H0.out]
          omega
      · have b1 : (c : Int) = 45 := by omega
        have K := Lib.hid hk
        clear h hk
        go_wp2
        go_roundw
        case rel => exact ⟨q, M1.out, (C.out.1 K.out).2⟩
        case measure =>
          have := C.out.1 K.out
          simp only [World.iterPos, M1.out.1, H0.out]
          omega
      · have b1 : (c : Int) < 45 := by omega
        have e5 : ((c : Int) == 45) = false := by simp; omega
        have e6 : ((c : Int) != 45) = true := by simp; omega
        have e7 : ¬ (c : Int) = 45 := by omega
        have K := Lib.hid (C.out.2 hk)
        clear h hk
        go_wp2
        go_ret
        exact ⟨by rw [K.out]; rfl, M1.out.2⟩
      · have b1 : (c : Int) < 48 := by omega
        have b2 : (45 : Int) < c := by omega
        have e5 : ((c : Int) == 45) = false := by simp; omega
        have e6 : ((c : Int) != 45) = true := by simp; omega
        have e7 : ¬ (c : Int) = 45 := by omega
        have K := Lib.hid (C.out.2 hk)
        clear h hk
        go_wp2
        go_ret
        exact ⟨by rw [K.out]; rfl, M1.out.2⟩
      · have b1 : (c : Int) < 97 := by omega
        have b2 : (57 : Int) < c := by omega
        have b3 : (48 : Int) ≤ c := by omega
        have b4 : ¬ (c : Int) ≤ 57 := by omega
        have e5 : ((c : Int) == 45) = false := by simp; omega
        have e6 : ((c : Int) != 45) = true := by simp; omega
        have e7 : ¬ (c : Int) = 45 := by omega
        have K := Lib.hid (C.out.2 hk)
        clear h hk
        go_wp2
        go_ret
        exact ⟨by rw [K.out]; rfl, M1.out.2⟩
      · have b1 : (122 : Int) < c := by omega
        have b2 : (97 : Int) ≤ c := by omega
        have b3 : (48 : Int) ≤ c := by omega
        have b4 : ¬ (c : Int) ≤ 57 := by omega
        have b5 : ¬ (c : Int) ≤ 122 := by omega
        have e5 : ((c : Int) == 45) = false := by simp; omega
        have e6 : ((c : Int) != 45) = true := by simp; omega
        have e7 : ¬ (c : Int) = 45 := by omega
        have K := Lib.hid (C.out.2 hk)
        clear h hk
        go_wp2
        go_ret
        exact ⟨by rw [K.out]; rfl, M1.out.2⟩
    · obtain rfl : pos = s.size := by have := A.out.1; omega
      have hnx : ∀ ty, (Instr.next (.pointer (some ⟨w.heap.size, 0, none⟩)) true ty).run Tryd.prog wr = _ := fun ty => Lib.run_next_end_at wr w.heap.size s s.size ty hit (Nat.lt_irrefl _)
      have K := Lib.hid (show r = true by rw [R.out, ← A.out.2, List.take_of_length_le (by rw [len_list]; exact Nat.le_refl _)])
      have HB := Lib.hid hb
      clear hm hit hb hlt
      go_wp2
      go_ret
      exact ⟨by rw [K.out]; rfl, HB.out⟩
end Go.Proofs.YtjdnekkbmanmdaaDoor
