/-
  Unhex: the bytes of a text.
-/
import Derived.Test.YtednmodeoofbgaaDoorRHex
namespace Go.Proofs.YtednmodeoofbgaaDoor
open Go.RowKit Go.Sort
set_option maxRecDepth 8000
/-- A row of n bytes in block g. -/
def RowAt (w : World) (g n : Nat) (f : Nat → Nat) : Prop := ∃ cur, w.heap[g]? = some (.cells cur 5 (0, 0)) ∧ cur.size = n ∧ ∀ j, j < n → cur[j]? = some (.int .u8 (f j : Nat))
theorem RowAt.lt {w : World} {g n : Nat} {f : Nat → Nat} (h : RowAt w g n f) : g < w.heap.size := by obtain ⟨_, h, _⟩ := h; exact (Array.getElem?_eq_some_iff.1 h).1
theorem RowAt.on {w w' : World} {g n : Nat} {f : Nat → Nat} (h : RowAt w g n f) (hb : Below w.heap.size w w') : RowAt w' g n f := by
  have hl := h.lt
  obtain ⟨cur, hc, r⟩ := h
  exact ⟨cur, (hb.block g hl).trans hc, r⟩
theorem RowAt.iter {w : World} {g n : Nat} {f : Nat → Nat} (h : RowAt w g n f) {p : Nat} (hp : g ≠ p) (s : ByteArray) (pos : Nat) : RowAt (w.iterAt p s pos) g n f := by
  obtain ⟨cur, hc, r⟩ := h
  exact ⟨cur, (Lib.iterAt_other w p g s pos hp).trans hc, r⟩
theorem RowAt.cell {w : World} {g n : Nat} {f : Nat → Nat} (h : RowAt w g n f) {j : Nat} (hj : j < n) : w.cell? ⟨g, j, none⟩ = some (.int .u8 (f j : Nat)) := by
  obtain ⟨cur, hc, _, r⟩ := h
  rw [cell_of_row w g j _ _ _ hc, r j hj]
theorem RowAt.free {w : World} {g n : Nat} {f : Nat → Nat} (h : RowAt w g n f) (j : Nat) : w.frozen? ⟨g, j, none⟩ = false := by
  obtain ⟨cur, hc, _⟩ := h
  exact frozen_of_row w g j _ _ hc
theorem RowAt.put {w : World} {g n : Nat} {f f' : Nat → Nat} (h : RowAt w g n f) {i : Nat} (hi : i < n) (v : Nat) (hv : f' i = v) (ho : ∀ j, j ≠ i → f' j = f j) : RowAt (w.setCell ⟨g, i, none⟩ (.int .u8 (v : Nat))) g n f' := by
  obtain ⟨cur, hc, hs, r⟩ := h
  refine ⟨_, heap_setCell_same w g i cur _ _ hc, by simpa using hs, fun j hj => ?_⟩
  rw [Array.getElem?_setIfInBounds]
  by_cases e : i = j
  · subst e; rw [if_pos rfl, if_pos (by omega), hv]
  · rw [if_neg e, r j hj, ho j (Ne.symm e)]
theorem RowAt.bytes {w : World} {g : Nat} {l : List UInt8} {f : Nat → Nat} (h : RowAt w g l.length f) (hf : ∀ j (hj : j < l.length), (l[j]).toNat = f j) (c : Nat) : Bytes w (.slice (some ⟨g, 0, none⟩) l.length c) l := by
  refine ⟨_, c, rfl, Or.inr ⟨g, 0, rfl, h.lt, fun j hj => ?_⟩⟩
  rw [Nat.zero_add, h.cell hj, hf j hj]
theorem RowAt.of_owns {w : World} {B g n : Nat} (h : w.ownsRow B 5 1 (.slice (some ⟨g, 0, none⟩) n n) n (List.replicate n (.int .u8 0))) : RowAt w g n (fun _ => 0) := by
  obtain ⟨_, ⟨e, _⟩ | ⟨g', cap, cur, e, _, hg, _, _, hs, ht⟩⟩ := h
  · cases e
  · simp at e
    obtain ⟨rfl, rfl⟩ := e
    refine ⟨cur, hg, by omega, fun j hj => ?_⟩
    have : (cur.toList.take (n * 1))[j]? = some (.int .u8 0) := by rw [ht]; simp [hj]
    rw [List.getElem?_take_of_lt (by omega)] at this
    simpa using this
/-- What the call answers. -/
def UnhexOut (w : World) (l : List UInt8) (v : Value) : Prop := ∃ u, v = .tuple #[u, .bool (unhexO l).isSome] ∧ Bytes w u ((unhexO l).getD [])
theorem UnhexOut.no {w : World} {l : List UInt8} (h : unhexO l = none) : UnhexOut w l (.tuple #[.slice none 0 0, .bool false]) := ⟨_, by rw [h]; rfl, by rw [h]; exact ⟨none, 0, rfl, Or.inl rfl⟩⟩
def Unh (w wr : World) (s : ByteArray) (p g at_ pos : Nat) : Prop :=
  wr.heap[p]? = some (.stringIter s at_) ∧ RowAt wr g (s.size / 2) (half s.data.toList pos) ∧ Below w.heap.size w wr
theorem Unh.on {w w1 w2 : World} {s : ByteArray} {p g at_ pos : Nat} (h : Unh w w1 s p g at_ pos) (hb : Below w1.heap.size w1 w2) : Unh w w2 s p g at_ pos :=
  ⟨(hb.block _ (Array.getElem?_eq_some_iff.1 h.1).1).trans h.1, h.2.1.on hb, h.2.2.trans (hb.mono h.2.2.size)⟩
theorem Unh.next {w wr : World} {s : ByteArray} {p g at_ pos : Nat} (h : Unh w wr s p g at_ pos) (hg : g < p) (hp : w.heap.size ≤ p) (q : Nat) : Unh w (wr.iterAt p s q) s p g q pos :=
  ⟨Lib.iterAt_heap wr _ s at_ q h.1, h.2.1.iter (by omega) s q, Lib.below_iterAt h.2.2 hp s q⟩
theorem bits_or_fin : ∀ x v : Fin 16, bits BinOp.or IntKind.u8 ((x.val : Int) * 16) (v.val : Int) = ((16 * x.val + v.val : Nat) : Int) := by decide +kernel
theorem bits_or (x v : Nat) (hx : x < 16) (hv : v < 16) : bits BinOp.or IntKind.u8 ((x : Int) * 16) (v : Int) = ((16 * x + v : Nat) : Int) := bits_or_fin ⟨x, hx⟩ ⟨v, hv⟩
set_option maxHeartbeats 1000000 in
theorem t_unhex (s : ByteArray) (hs : s.size ≤ 4000) (w : World) (hw : Env w) :
    Calls Tryd.prog 24 #[.string s] w fun e w' => (∃ v, e = .returned v ∧ UnhexOut w' s.data.toList v) ∧ Below w.heap.size w w' := by
  have G := Lib.hid hw
  obtain ⟨i0, hi, hz0, hz1, hz2⟩ := info_parts info_byte
  clear hw
  by_cases he : s.size % 2 = 0
  · have e1 : (s.size : Int) % 2 = 0 := by omega
    go_enter Tryd.func24, Tryd.ntmps24
    go_upto_region 3 with fail
    go_upto_region 4 with (refine wpList_make_full _ rfl _ _ 51 rfl w.heap.size 5 i0 (.int .u8 0) 1 Tryd.underlying51 hi hz0 hz1 .i64 .i64 _ _ (s.size / 2) rfl rfl (by omega) (by omega) (by rw [hz2]; omega) (by simp only [maxLen]; omega) (Nat.le_refl _) ?_; intro w1 hown hgrow)
    have R1 : Hid (RowAt w1 w.heap.size (s.size / 2) (fun _ => 0)) := Lib.hid (RowAt.of_owns (by
      have e : (madeCells (Value.int .u8 0).cells (s.size / 2 * 1)).toList = List.replicate (s.size / 2) (.int .u8 0) := by
        rw [Nat.mul_one]; exact toList_madeCells_one _ _
      rw [e] at hown; exact hown))
    have S1 := Lib.hid ((Below.refl w.heap.size w).grown hgrow (Nat.le_refl _) (fun k hk => by cases hk))
    clear hown hgrow hi hz0 hz1 hz2 i0
    have lt1 := R1.out.lt
    go_wp2
    have U0 : Hid (Unh w (w1.alloc (.stringIter s 0)) s w1.heap.size w.heap.size 0 0) := Lib.hid ⟨row_new _ _ rfl, by
      have : half s.data.toList 0 = fun _ => 0 := funext (half_zero _)
      rw [this]; exact R1.out.on (below_alloc _ _), S1.out.alloc S1.out.size _⟩
    generalize w1.heap.size = p at *
    generalize hg : w.heap.size = g at *
    go_loopw [] (fun wr => ∃ pos : Nat, Hid (Unh w wr s p g pos pos) ∧ pos ≤ s.size ∧ (∀ c ∈ s.data.toList.take pos, digB (c.toNat : Int) = true)) (fun wr => s.size - wr.iterPos p)
    case atStart => exact ⟨0, U0, Nat.zero_le _, by intro c hc; simp at hc⟩
    case round =>
      clear U0 R1 S1
      obtain ⟨pos, U, hp, hd⟩ := hrel
      have hit := U.out.1
      by_cases hlt : pos < s.size
      · have hd2 : digB (Utf8.decode s pos).1 = true ∨ digB (Utf8.decode s pos).1 = false := by cases digB (Utf8.decode s pos).1 <;> simp
        have hc : digB (Utf8.decode s pos).1 = true → (s[pos]).toNat < 128 := fun h => by
          rcases Nat.lt_or_ge (s[pos]).toNat 128 with g | g
          · exact g
          · rw [digB_high (decode_high s pos hlt g).1] at h; cases h
        have hdl := decode_le s pos
        have hnx : ∀ ty, (Instr.next (.pointer (some ⟨p, 0, none⟩)) true ty).run Tryd.prog wr = _ := fun ty => Lib.run_next_any_at wr p s pos ty hit hlt
        have H0 := Lib.hid hit
        have W1 := Lib.hid (U.out.next (by omega) (by omega) (pos + (Utf8.decode s pos).2))
        have HD := Lib.hid hd
        have ha : (s[pos]).toNat < 128 → Utf8.decode s pos = ((s[pos]).toNat, 1) := decode_ascii s pos hlt
        clear hit U hd
        go_upto_region 6 with fail
        clear hnx
        rcases hd2 with hd | hd
        · have h128 := hc hd
          have ha := ha h128
          rw [ha] at hd W1 ⊢
          have D := Lib.hid (t_digit ((s[pos]).toNat : Int) (by have := h128; omega))
          clear h128 hc hdl
          generalize wr.iterAt p s (pos + 1) = w1 at *
          have hv := digV_bd (c := ((s[pos]).toNat : Int))
          have HV := Lib.hid (show dAt s.data.toList pos = (digV ((s[pos]).toNat : Int)).toNat by unfold dAt; rw [getD_get _ _ (by rw [len_list]; exact hlt)]; rfl)
          have hdd := Lib.hid hd
          rw [hd] at D
          clear hd ha
          generalize digV ((s[pos]).toNat : Int) = v at *
          generalize hcc : ((s[pos]).toNat : Int) = c at *
          have HC := Lib.hid hcc
          clear hcc
          go_upto_region 8 with (go_at_call 41; refine (D.out _ (G.out.below W1.out.2.2)).mono ?_; rintro e w2 ⟨rfl, hb⟩; have W2 := Lib.hid (W1.out.on hb); clear hb W1 D)
          have hj : pos / 2 < s.size / 2 := by omega
          have c0 := W2.out.2.1.cell hj
          have f0 := W2.out.2.1.free (pos / 2)
          have HS := Lib.hid (half_step s.data.toList pos)
          obtain ⟨x, hx⟩ : ∃ x, x = half s.data.toList pos (pos / 2) := ⟨_, rfl⟩
          rw [← hx] at c0 HS
          have hx16 : x < 16 := HS.out.1
          clear hx
          have HB := Lib.hid (bits_or x v.toNat hx16 (by omega))
          have VN := Lib.hid (show ((v.toNat : Nat) : Int) = v by omega)
          go_wp2
          have HP := Lib.hid (show Unh w (w2.setCell ⟨g, pos / 2, none⟩ (.int .u8 (bits BinOp.or IntKind.u8 ((x : Int) * 16) v))) s p g (pos + 1) (pos + 1) from by
            have e := HB.out
            rw [VN.out] at e
            rw [e]
            exact ⟨(heap_setCell_other _ _ _ _ (by dsimp only; omega)).trans W2.out.1, W2.out.2.1.put hj _ (by rw [HS.out.2, HV.out]) (fun j hj => half_other _ hj), W2.out.2.2.setCell (by dsimp only; omega) _⟩)
          go_roundw
          case rel => exact ⟨pos + 1, HP, by omega, by
            intro c hc
            rw [take_byte s pos hlt] at hc
            rcases List.mem_append.1 hc with hc | hc
            · exact HD.out c hc
            · obtain rfl := List.mem_singleton.1 hc; rw [HC.out]; exact hdd.out⟩
          case measure =>
            simp only [World.iterPos, HP.out.1, H0.out]
            omega
        · have N := Lib.hid (okH_bad (s := s.data.toList) (c := s[pos]) (byte_mem s pos hlt) (by
            rcases Nat.lt_or_ge (s[pos]).toNat 128 with q | q
            · rw [ha q] at hd; exact hd
            · exact digB_high q))
          have D := Lib.hid (t_digit (Utf8.decode s pos).1 (by omega))
          generalize wr.iterAt p s (pos + (Utf8.decode s pos).2) = w1 at *
          generalize ((Utf8.decode s pos).1 : Int) = c at *
          rw [hd] at D
          clear hd ha hc hdl
          go_upto_region 8 with (go_at_call 41; refine (D.out _ (G.out.below W1.out.2.2)).mono ?_; rintro e w2 ⟨rfl, hb⟩; have W2 := Lib.hid (W1.out.on hb); clear hb W1 D)
          go_wp2
          exact bodyPost_ret (v := .tuple #[.slice none 0 0, .bool false]) (by simp [results, Tryd.results24, go_sem]) rfl ⟨⟨_, rfl, UnhexOut.no N.out⟩, hg ▸ W2.out.2.2⟩
      · obtain rfl : pos = s.size := by omega
        have hnx : ∀ ty, (Instr.next (.pointer (some ⟨p, 0, none⟩)) true ty).run Tryd.prog wr = _ := fun ty => Lib.run_next_end_at wr p s s.size ty hit hlt
        have O := Lib.hid (okH_all (s := s.data.toList) (by rw [len_list]; exact he) (by rw [List.take_of_length_le (by rw [len_list]; omega)] at hd; exact hd))
        have R := Lib.hid (show Bytes wr (.slice (some ⟨g, 0, none⟩) (s.size / 2) (s.size / 2)) (outL s.data.toList) from by
          have h := U.out.2.1
          have ol : (outL s.data.toList).length = s.size / 2 := by rw [outL_length, len_list]
          rw [← ol] at h ⊢
          refine h.bytes (fun j hj => ?_) _
          rw [half_end _ (by rw [len_list]; exact he) j hj, len_list])
        clear hd
        go_wp2
        exact bodyPost_ret (v := .tuple #[.slice (some ⟨g, 0, none⟩) (s.size / 2) (s.size / 2), .bool true]) (by simp [results, Tryd.results24, go_sem]) rfl ⟨⟨_, rfl, _, by rw [O.out]; rfl, by rw [O.out]; exact R.out⟩, hg ▸ U.out.2.2⟩
  · have N := Lib.hid (okH_odd (s := s.data.toList) (by rw [len_list]; exact he))
    have e1 : ¬ (s.size : Int) % 2 = 0 := by omega
    go_enter Tryd.func24, Tryd.ntmps24
    go_wp2
    exact bodyPost_ret (v := .tuple #[.slice none 0 0, .bool false]) (by simp [results, Tryd.results24, go_sem]) rfl ⟨⟨_, rfl, UnhexOut.no N.out⟩, Below.refl _ _⟩
end Go.Proofs.YtednmodeoofbgaaDoor
