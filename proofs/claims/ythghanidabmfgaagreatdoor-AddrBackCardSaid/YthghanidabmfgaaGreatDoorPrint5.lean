/-
  Printing: the four bytes of an IPv4 address; a row of groups.
-/
import Derived.Test.YthghanidabmfgaaGreatDoorGroups5
import Derived.Test.YthghanidabmfgaaGreatDoorNum16
namespace Go.Proofs.YthghanidabmfgaaGreatDoor
open Go.RowKit Go.Sort
set_option maxRecDepth 8000
theorem info_str : (Tryz.prog.info? 9).map (fun i => (i.zero, i.size, i.bytes)) = some (some (.string ⟨#[]⟩), 1, 16) := by kernel_rfl
/-- Texts in a row, the first k of them laid. -/
def uptoS (l : List ByteArray) (k n : Nat) : List Value := (l.take k).map .string ++ List.replicate (n - k) (.string ⟨#[]⟩)
theorem uptoS_zero (l : List ByteArray) (n : Nat) : uptoS l 0 n = List.replicate n (.string ⟨#[]⟩) := by simp [uptoS]
theorem uptoS_length {l : List ByteArray} {k n : Nat} (h : l.length = n) (hk : k ≤ n) : (uptoS l k n).length = n := by simp [uptoS]; omega
theorem uptoS_put {l : List ByteArray} {k n : Nat} {x : ByteArray} (h : l.length = n) (hx : l[k]? = some x) : (uptoS l k n).set k (.string x) = uptoS l (k + 1) n := by
  have hk : k < l.length := (List.getElem?_eq_some_iff.1 hx).1
  have e : l[k] = x := (List.getElem?_eq_some_iff.1 hx).2
  unfold uptoS
  rw [List.set_append_right _ _ (by simp; omega), List.length_map, List.length_take, Nat.min_eq_left (by omega), Nat.sub_self, show n - k = (n - (k + 1)) + 1 by omega, List.replicate_succ, List.set_cons_zero, List.take_succ_eq_append_getElem hk, e]
  simp
/-- .. in block g. -/
def Row (w wr : World) (g : Nat) (t : TypeId) (l : List ByteArray) (k : Nat) : Prop := Blk wr g t (uptoS l k l.length).toArray ∧ w.heap.size ≤ g ∧ Below w.heap.size w wr
theorem Row.on {w w1 w2 : World} {g : Nat} {t : TypeId} {l : List ByteArray} {k : Nat} (h : Row w w1 g t l k) (hb : Below w1.heap.size w1 w2) : Row w w2 g t l k := ⟨h.1.on hb, h.2.1, h.2.2.trans (hb.mono h.2.2.size)⟩
theorem Row.put {w wr : World} {g : Nat} {t : TypeId} {l : List ByteArray} {k : Nat} {x : ByteArray} (h : Row w wr g t l k) (hx : l[k]? = some x) : Row w (wr.setCell ⟨g, k, none⟩ (.string x)) g t l (k + 1) := by
  refine ⟨?_, h.2.1, h.2.2.setCell h.2.1 _⟩
  have := h.1.put k (.string x)
  rw [List.setIfInBounds_toArray, uptoS_put rfl hx] at this
  exact this
theorem Row.cell {w wr : World} {g : Nat} {t : TypeId} {l : List ByteArray} {k : Nat} (h : Row w wr g t l k) (hk : k < l.length) : ∃ z, wr.cell? ⟨g, k, none⟩ = some z :=
  ⟨_, h.1.cell (Array.getElem?_eq_getElem (by rw [List.size_toArray, uptoS_length rfl (by omega)]; exact hk))⟩
theorem Row.strs {w wr : World} {g : Nat} {t : TypeId} {l : List ByteArray} (h : Row w wr g t l l.length) (c : Nat) (hc : l.length ≤ c) : Strs wr (.slice (some ⟨g, 0, none⟩) l.length c) l :=
  ⟨g, 0, c, rfl, hc, h.1.lt, fun j x hj => by
    rw [Nat.zero_add]
    refine h.1.cell ?_
    simp [uptoS, hj]⟩
theorem strs_map {α : Type} (f : α → List UInt8) (l : List α) : (l.map fun a => str (f a)).map (·.data.toList) = l.map f := by
  rw [List.map_map]; exact List.map_congr_left fun a _ => str_list _
theorem join_bound (c : UInt8) (ws : List (List UInt8)) (m : Nat) (h : ∀ w ∈ ws, w.length ≤ m) : (joinC c ws).length ≤ (m + 1) * ws.length := by
  induction ws with
  | nil => simp [joinC]
  | cons a r ih =>
    have ha := h a List.mem_cons_self
    cases r with
    | nil => simp [joinC]; omega
    | cons b r =>
      have i := ih fun w m => h w (List.mem_cons_of_mem _ m)
      rw [joinC_cons _ _ (by simp), List.length_append, List.length_cons, List.length_cons, Nat.mul_succ]
      omega
theorem t_unsigned5 (n : Int) (h : 0 ≤ n ∧ n ≤ 18446744073709551615) : Tells 23 #[.int .u64 n] (.string (str (Lib.itoa n))) := (t_unsigned n h).tells
set_option maxHeartbeats 1000000 in
theorem t_print4 (b : List Int) (hl : b.length = 4) (hb : ∀ n ∈ b, Byte n) (w : World) (hw : Env5 w) : Calls Tryz.prog 22 #[.agg (u8C b)] w fun e w' => e = .returned (.string (str (t4 b))) ∧ Below w.heap.size w w' := by
  have HB := Lib.hid hb
  have G := Lib.hid hw
  have J : Hid (joinC 46 ((b.map fun n => str (Lib.itoa n)).map (·.data.toList)) = t4 b ∧ (t4 b).length ≤ 4000) := Lib.hid ⟨by rw [strs_map]; rfl, by
    have := join_bound 46 (b.map Lib.itoa) 4 fun w hw => by
      obtain ⟨n, hn, rfl⟩ := List.mem_map.1 hw
      have := hb n hn
      exact itoa_length n 3 (by unfold Byte at this; omega) (by decide)
    rw [List.length_map, hl] at this
    unfold t4; omega⟩
  obtain ⟨s, es⟩ : ∃ s, s = str (t4 b) := ⟨_, rfl⟩
  have ES := Lib.hid es
  rw [← es]
  clear es
  have B0 : Hid (Blk ((w.alloc (.cells (u8C b) 57)).alloc (.cells #[.string ⟨#[]⟩, .string ⟨#[]⟩, .string ⟨#[]⟩, .string ⟨#[]⟩] 95)) w.heap.size 57 (u8C b)) := Lib.hid ((Blk.new _ _ _ rfl).alloc _)
  have R0 : Hid (Row w ((w.alloc (.cells (u8C b) 57)).alloc (.cells #[.string ⟨#[]⟩, .string ⟨#[]⟩, .string ⟨#[]⟩, .string ⟨#[]⟩] 95)) (w.heap.size + 1) 95 (b.map fun n => str (Lib.itoa n)) 0) := Lib.hid ⟨by rw [uptoS_zero, List.length_map, hl]; exact Blk.new _ _ _ (by simp), by omega, by (repeat (first | (with_reducible exact Below.refl _ _) | (with_reducible assumption) | (with_reducible refine Below.drew ?_) | (with_reducible refine below_drewN ?_ _) | ((with_reducible refine Below.alloc ?_ ?_ _); rotate_left; (focus (first | (simp; done) | (simp; omega) | omega))) | ((with_reducible refine Below.setCell ?_ ?_ _); rotate_left; (focus (first | (simp; done) | (simp; omega) | omega))) | ((with_reducible refine Below.trans ?_ (Below.mono (by assumption) ?_)); rotate_left; (focus (first | (simp; done) | (simp; omega) | omega)))))⟩
  clear hb hw
  go_enter Tryz.func22, Tryz.ntmps22
  go_upto_region 2 with fail
  generalize (w.alloc (.cells (u8C b) 57)).alloc (.cells #[.string ⟨#[]⟩, .string ⟨#[]⟩, .string ⟨#[]⟩, .string ⟨#[]⟩] 95) = w1 at *
  have l0 := ld_4 hl B0.out
  go_wp2_with (refine wl_load rfl _ _ rfl _ rfl _ l0 ?_)
  clear l0 B0
  go_loopw [7] (fun i wr => ∃ k : Nat, k ≤ 4 ∧ i = .int .i64 k ∧ Hid (Row w wr (w.heap.size + 1) 95 (b.map fun n => str (Lib.itoa n)) k)) (fun i _ => 4 - (intOf i).toNat)
  case atStart => exact ⟨0, by omega, rfl, R0⟩
  case round =>
    clear R0
    obtain ⟨k, hk, rfl, R⟩ := hrel
    by_cases hlt : k < 4
    · have e1 : b[k]? = some (b[k]'(by omega)) := List.getElem?_eq_getElem _
      have y1 := HB.out _ (List.getElem_mem (show k < b.length by omega))
      generalize b[k]'(by omega) = n at *
      have X := idx4 hl e1
      have U := Lib.hid (t_unsigned5 n (by unfold Byte at y1; omega))
      have P := Lib.hid (fun wr (h : Row w wr (w.heap.size + 1) 95 (b.map fun n => str (Lib.itoa n)) k) => h.put (x := str (Lib.itoa n)) (by simp [e1]))
      have C := Lib.hid (fun wr (h : Row w wr (w.heap.size + 1) 95 (b.map fun n => str (Lib.itoa n)) k) => h.cell (by simp; omega))
      obtain ⟨y2, y3⟩ := y1
      generalize str (Lib.itoa n) = sn at *
      clear e1
      go_wp2_with (go_at_call 23; refine (U.out _ (G.out.below R.out.2.2)).mono ?_; rintro e w2 ⟨rfl, hb⟩; have R2 := Lib.hid (R.out.on hb); obtain ⟨z, c0⟩ := C.out _ R2.out; have f0 := R2.out.1.free k; clear hb R)
      go_roundw
      case rel => exact ⟨k + 1, by omega, by go_num, P.out _ R2.out⟩
      case measure => simp [intOf]; omega
    · obtain rfl : k = 4 := by omega
      have JN : Hid (Calls Tryz.prog 46 #[.slice (some ⟨w.heap.size + 1, 0, none⟩) 4 4, .string ⟨#[46]⟩] wr fun e w' => e = .returned (.string s) ∧ Below wr.heap.size wr w') := Lib.hid (by
        have e4 : (b.map fun n => str (Lib.itoa n)).length = 4 := by simp [hl]
        have S := Row.strs (c := 4) (by rw [e4]; exact R.out) (by rw [e4]; omega)
        rw [e4] at S
        have := c_join 46 wr S (by rw [J.out.1]; exact J.out.2) (by rw [e4]; omega)
        rw [J.out.1, ← ES.out] at this
        exact this)
      have B := Lib.hid R.out.2.2
      clear R
      go_wp2_with (go_at_call 46; refine JN.out.mono ?_; rintro e w2 ⟨rfl, hb⟩)
      go_ret
      exact ⟨rfl, B.out.trans (hb.mono B.out.size)⟩
/-- A slice that holds these groups. -/
def U16s (w : World) (v : Value) (gs : List Nat) : Prop := ∃ b o c, v = .slice (some ⟨b, o, none⟩) gs.length c ∧ b < w.heap.size ∧ ∀ (j n : Nat), gs[j]? = some n → w.cell? ⟨b, o + j, none⟩ = some (.int .u16 (n : Int))
theorem U16s.on {w w' : World} {v : Value} {gs : List Nat} (h : U16s w v gs) (hb : Below w.heap.size w w') : U16s w' v gs := by
  obtain ⟨b, o, c, e, hl, hx⟩ := h
  exact ⟨b, o, c, e, Nat.lt_of_lt_of_le hl hb.size, fun j x hj => (hb.cell (by exact hl)).trans (hx j x hj)⟩
def listS (gs : List Nat) : List ByteArray := gs.map fun n => str (hexs n)
theorem listS_length (gs : List Nat) : (listS gs).length = gs.length := by simp [listS]
theorem Row.of_owns {w wr : World} {g : Nat} {l : List ByteArray} (h : wr.ownsRow w.heap.size 9 1 (.slice (some ⟨g, 0, none⟩) l.length l.length) l.length (madeCells (Value.string ⟨#[]⟩).cells (l.length * 1)).toList) (hg : w.heap.size ≤ g) (hb : Below w.heap.size w wr) : Row w wr g 9 l 0 := by
  obtain ⟨_, ⟨e, _⟩ | ⟨g', cap, cur, e, _, hg', _, _, hs, ht⟩⟩ := h
  · cases e
  · simp at e
    obtain ⟨rfl, rfl⟩ := e
    refine ⟨?_, hg, hb⟩
    rw [uptoS_zero]
    have e2 : (madeCells (Value.string ⟨#[]⟩).cells (l.length * 1)).toList = List.replicate l.length (.string ⟨#[]⟩) := by
      rw [Nat.mul_one]; exact toList_madeCells_one _ _
    rw [e2, List.take_of_length_le (by simp at hs ⊢; omega)] at ht
    have : cur = (List.replicate l.length (Value.string ⟨#[]⟩)).toArray := by rw [← ht]
    rw [← this]; exact hg'
set_option maxHeartbeats 1000000 in
theorem t_list (gs : List Nat) (hg : ∀ n ∈ gs, n < 65536) (h8 : gs.length ≤ 8) (v : Value) (w : World) (hv : U16s w v gs) (hw : Env5 w) : Calls Tryz.prog 45 #[v] w fun e w' => e = .returned (.string (str (joinC 58 (gs.map hexs)))) ∧ Below w.heap.size w w' := by
  obtain ⟨b, o, c, rfl, hlt, hc⟩ := hv
  have HC := Lib.hid hc
  have HG := Lib.hid hg
  have G := Lib.hid hw
  have J : Hid (joinC 58 ((listS gs).map (·.data.toList)) = joinC 58 (gs.map hexs) ∧ (joinC 58 (gs.map hexs)).length ≤ 4000) := Lib.hid ⟨by unfold listS; rw [strs_map], by
    have := join_bound 58 (gs.map hexs) 4 fun w hw => by
      obtain ⟨n, hn, rfl⟩ := List.mem_map.1 hw
      exact hexs_length 4 n (by have := hg n hn; omega) (by decide)
    rw [List.length_map] at this
    omega⟩
  obtain ⟨i0, hi, hz0, hz1, hz2⟩ := info_parts info_str
  obtain ⟨s, es⟩ : ∃ s, s = str (joinC 58 (gs.map hexs)) := ⟨_, rfl⟩
  have ES := Lib.hid es
  rw [← es]
  clear hg hc hw es
  go_enter Tryz.func45, Tryz.ntmps45
  go_upto_region 1 with fail
  go_upto_region 2 with (refine wpList_make_full _ rfl _ _ 51 rfl w.heap.size 9 i0 (.string ⟨#[]⟩) 1 Tryz.underlying51 hi hz0 hz1 .i64 .i64 _ _ gs.length rfl rfl (by omega) (by omega) (by rw [hz2]; omega) (by simp only [maxLen]; omega) (Nat.le_refl _) ?_; intro w1 hown hgrow)
  have S1 := (Below.refl w.heap.size w).grown hgrow (Nat.le_refl _) (fun k hk => by cases hk)
  have R0 : Hid (Row w w1 w.heap.size 9 (listS gs) 0) := Lib.hid (Row.of_owns (by rw [listS_length]; exact hown) (Nat.le_refl _) S1)
  clear hown hgrow hi hz0 hz1 hz2 i0 S1
  go_wp2
  go_loopw [11] (fun i wr => ∃ k : Nat, k ≤ gs.length ∧ i = .int .i64 k ∧ Hid (Row w wr w.heap.size 9 (listS gs) k)) (fun i _ => gs.length - (intOf i).toNat)
  case atStart => exact ⟨0, by omega, rfl, R0⟩
  case round =>
    clear R0
    obtain ⟨k, hk, rfl, R⟩ := hrel
    by_cases hlt2 : k < gs.length
    · have e1 : gs[k]? = some (gs[k]'hlt2) := List.getElem?_eq_getElem _
      have y1 := HG.out _ (List.getElem_mem hlt2)
      have c1 := (R.out.2.2.cell (p := ⟨b, o + k, none⟩) (by exact hlt)).trans (HC.out k _ e1)
      generalize gs[k]'hlt2 = n at *
      have U := Lib.hid (x_format16 n y1)
      have P := Lib.hid (fun wr (h : Row w wr w.heap.size 9 (listS gs) k) => h.put (x := str (hexs n)) (by simp [listS, e1]))
      have C := Lib.hid (fun wr (h : Row w wr w.heap.size 9 (listS gs) k) => h.cell (by rw [listS_length]; exact hlt2))
      generalize str (hexs n) = sn at *
      clear e1
      go_wp2_with (go_at_call 47; refine (U.out _ (G.out.below R.out.2.2)).mono ?_; rintro e w2 ⟨rfl, hb⟩; have R2 := Lib.hid (R.out.on hb); obtain ⟨z, c0⟩ := C.out _ R2.out; have f0 := R2.out.1.free k; clear hb R c1)
      go_roundw
      case rel => exact ⟨k + 1, by omega, by go_num, P.out _ R2.out⟩
      case measure => simp [intOf]; omega
    · obtain rfl : k = gs.length := by omega
      have JN : Hid (Calls Tryz.prog 46 #[.slice (some ⟨w.heap.size, 0, none⟩) gs.length gs.length, .string ⟨#[58]⟩] wr fun e w' => e = .returned (.string s) ∧ Below wr.heap.size wr w') := Lib.hid (by
        have S := Row.strs (c := gs.length) (l := listS gs) (by rw [listS_length]; exact R.out) (by rw [listS_length]; omega)
        rw [listS_length] at S
        have := c_join 58 wr S (by rw [J.out.1]; exact J.out.2) (by rw [listS_length]; omega)
        rw [J.out.1, ← ES.out] at this
        exact this)
      have B := Lib.hid R.out.2.2
      clear R
      go_wp2_with (go_at_call 46; refine JN.out.mono ?_; rintro e w2 ⟨rfl, hb⟩)
      go_ret
      exact ⟨rfl, B.out.trans (hb.mono B.out.size)⟩
end Go.Proofs.YthghanidabmfgaaGreatDoor
