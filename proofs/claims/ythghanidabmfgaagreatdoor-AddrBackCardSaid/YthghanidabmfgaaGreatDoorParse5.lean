/-
  parse6: the groups of an IPv6 notation.
  Parse.
-/
import Derived.Test.YthghanidabmfgaaGreatDoorUnlist5
import Derived.Test.YthghanidabmfgaaGreatDoorUndot5
import Derived.Test.YthghanidabmfgaaGreatDoorPrint6
import Derived.Test.YthghanidabmfgaaGreatDoorLong5
namespace Go.Proofs.YthghanidabmfgaaGreatDoor
open Go.RowKit Go.Sort
set_option maxRecDepth 8000
/-- How the program puts it. -/
def six (F B : List UInt8) (gap : Bool) : Option (List Nat) := match unl F, unl B with
  | some x, some y => if (gap = true ∧ x.length + y.length ≤ 7) ∨ (gap = false ∧ x.length + y.length = 8) then some (fill8 x y) else none
  | _, _ => none
theorem und6_size (l : List UInt8) : (und6 l).length ≤ l.length + 9 := by
  unfold und6
  split
  · rename_i b hb
    obtain ⟨hl, _, _⟩ := p4_some hb
    have : (h8 b).length = 9 := by
      match b, hl with
      | [a, b, c, d], _ => rfl
    rw [List.length_append, this]
    unfold headW
    rw [List.length_take]; omega
  · omega
theorem six_cut (l : List UInt8) : ∃ (F B : List UInt8) (gap : Bool), cutV (und6 l) = .tuple #[.string (str F), .string (str B), .bool gap] ∧ F.length ≤ l.length + 9 ∧ B.length ≤ l.length + 9 ∧ q6 l = six F B gap := by
  have hz := und6_size l
  unfold cutV q6 six
  cases h : cut2 (und6 l) with
  | none =>
    refine ⟨und6 l, [], false, rfl, hz, by simp, ?_⟩
    dsimp only
    cases h2 : unl (und6 l) with
    | none => rfl
    | some gs =>
      rw [show unl [] = some [] from rfl]
      dsimp only
      by_cases c : gs.length = 8
      · rw [if_pos c, if_pos (Or.inr ⟨rfl, by simpa using c⟩)]
        unfold fill8; simp [c]
      · rw [if_neg c, if_neg (by simpa using c)]
  | some p =>
    obtain ⟨f, b⟩ := p
    obtain ⟨e, _⟩ := cut2_some h
    have := congrArg List.length e
    simp at this
    refine ⟨f, b, true, rfl, by omega, by omega, ?_⟩
    dsimp only
    cases unl f with
    | none => rfl
    | some x =>
      cases unl b with
      | none => rfl
      | some y =>
        dsimp only
        by_cases c : x.length + y.length ≤ 7
        · rw [if_pos c, if_pos (Or.inl ⟨rfl, c⟩)]
        · rw [if_neg c, if_neg (by simpa using c)]
theorem unl_len (l : List UInt8) : ((unl l).getD []).length ≤ l.length + 1 := by
  unfold unl
  split
  · simp
  · cases h : optAll hexO (words 58 l) with
    | none => simp
    | some g =>
      have := optAll_length h
      rw [words_count] at this
      have := List.count_le_length (a := (58 : UInt8)) (l := l)
      simp; omega
/-- What parse6 answers. -/
def p6V (l : List UInt8) : Value := .tuple #[.agg (u16C (nats ((q6 l).getD (List.replicate 8 0)))), .bool (q6 l).isSome]
theorem p6V_none {l : List UInt8} (h : q6 l = none) : p6V l = .tuple #[.agg (u16C n8), .bool false] := by unfold p6V; rw [h]; rfl
theorem p6V_some {l : List UInt8} {g : List Nat} (h : q6 l = some g) : p6V l = .tuple #[.agg (u16C (nats g)), .bool true] := by unfold p6V; rw [h]; rfl
theorem tells_undot (s : ByteArray) (hs : s.size ≤ 1000) : Tells 51 #[.string s] (.string (str (und6 s.data.toList))) := fun w hw => t_undot s hs w hw
theorem says_unlist (l : List UInt8) (hl : l.length ≤ 2000) (w : World) (hw : Env5 w) : Calls Tryz.prog 52 #[.string (str l)] w fun e w' => (∃ u, e = .returned (.tuple #[u, .bool (unl l).isSome]) ∧ U16o w' u ((unl l).getD [])) ∧ Below w.heap.size w w' := by
  have := t_unlist (str l) (by rw [str_size]; exact hl) w hw
  rw [str_list] at this
  exact this.mono fun e w' ⟨⟨v, he, u, hv, hu⟩, hb⟩ => ⟨⟨u, by rw [he, hv], hu⟩, hb⟩
theorem opt_some {α : Type} {o : Option (List α)} {x : List α} (h : o.isSome = true) (e : o.getD [] = x) : o = some x := by
  cases o with
  | none => cases h
  | some y => simp at e; rw [e]
theorem opt_none {α : Type} {o : Option α} (h : o.isSome = false) : o = none := by cases o with
  | none => rfl
  | some y => cases h
theorem six_left {F B : List UInt8} {gap : Bool} (h : (unl F).isSome = false) : six F B gap = none := by unfold six; rw [opt_none h]
theorem six_right {F B : List UInt8} {gap : Bool} (h : (unl B).isSome = false) : six F B gap = none := by unfold six; rw [opt_none h]; cases unl F <;> rfl
theorem six_both {F B : List UInt8} {gap : Bool} {x y : List Nat} (hx : unl F = some x) (hy : unl B = some y) : six F B gap = if (gap = true ∧ x.length + y.length ≤ 7) ∨ (gap = false ∧ x.length + y.length = 8) then some (fill8 x y) else none := by unfold six; rw [hx, hy]
theorem fill_splice {x y : List Nat} (h : x.length + y.length ≤ 8) : splice (splice (ints .u16 n8) 0 (cells16 x)) (8 - y.length) (cells16 y) = ints .u16 (nats (fill8 x y)) := by
  have ex : cells16 x = ints .u16 (nats x) := by simp [cells16, ints, nats]
  have ey : cells16 y = ints .u16 (nats y) := by simp [cells16, ints, nats]
  have l1 : (cells16 x).length = x.length := by simp [cells16]
  have l2 : (cells16 y).length = y.length := by simp [cells16]
  have ez : ints .u16 n8 = List.replicate 8 (.int .u16 0) := rfl
  unfold splice fill8
  rw [ez, List.take_zero, List.nil_append, Nat.zero_add, l1, l2, List.drop_replicate, List.take_append, l1, List.take_of_length_le (by omega), List.take_replicate,
    List.drop_of_length_le (by rw [List.length_append, l1, List.length_replicate]; omega), List.append_nil, show min (8 - y.length - x.length) (8 - x.length) = 8 - x.length - y.length by omega, ex, ey]
  simp [ints, nats]
theorem src16 {w : World} {a : Option Addr} {c : Nat} {gs : List Nat} (h : U16o w (.slice a gs.length c) gs) (hp : 0 < (cells16 gs).length) : ∃ ad, a = some ad ∧ ∀ j v, (cells16 gs)[j]? = some v → w.cell? (ad.add j) = some v := by
  obtain ⟨a', c', e, _, h⟩ := h
  simp only [Value.slice.injEq] at e
  obtain ⟨rfl, _, rfl⟩ := e
  rcases h with rfl | ⟨b, o, rfl, _, hx⟩
  · simp [cells16] at hp
  · refine ⟨_, rfl, fun j v hj => ?_⟩
    rw [Lib.add_plain]
    simp only [cells16, List.getElem?_map, Option.map_eq_some_iff] at hj
    obtain ⟨n, h1, rfl⟩ := hj
    exact hx j n h1
theorem cells16_one (gs : List Nat) : ∀ v ∈ cells16 gs, v.oneCell' = true := by
  intro v hv; obtain ⟨n, _, rfl⟩ := List.mem_map.1 hv; rfl
theorem cells16_length (gs : List Nat) : (cells16 gs).length = gs.length := by simp [cells16]
theorem cp16 {B g off : Nat} {w w0 : World} {t : TypeId} {cur : List Value} {dp a : Option Addr} {dLen dCap c : Nat} {gs : List Nat} (hg : Blk w g t cur.toArray) (hs : U16o w (.slice a gs.length c) gs) (hn : gs.length ≤ dLen) (hd : 0 < (cells16 gs).length → dp = some ⟨g, off, none⟩) (hfit : off + gs.length ≤ cur.length) (hb : Below B w0 w) (hBg : B ≤ g) :
    ∃ w', (Builtin.copy_ #[93, 93] 3 #[.slice dp dLen dCap, .slice a gs.length c]).run Tryz.prog w = .ok (.int .i64 (gs.length : Int)) w' ∧ Blk w' g t (splice cur off (cells16 gs)).toArray ∧ Below B w0 w' := by
  by_cases h0 : gs.length = 0
  · obtain rfl : gs = [] := List.eq_nil_of_length_eq_zero h0
    refine ⟨w, ?_, by simpa [splice, cells16] using hg, hb⟩
    exact run_copy_none (P := Tryz.prog) w 93 93 3 25 dp a dLen dCap 0 c Tryz.underlying93 (by kernel_rfl) (Nat.zero_min _)
  · have hp : 0 < (cells16 gs).length := by rw [cells16_length]; omega
    obtain rfl := hd hp
    obtain ⟨ad, rfl, hsrc⟩ := src16 hs hp
    refine ⟨_, (run_copy_row (P := Tryz.prog) w 93 93 3 25 g off dLen dCap ad gs.length c cur.toArray t (cells16 gs) Tryz.underlying93 (by kernel_rfl) hg (by rw [cells16_length]; exact (Nat.min_eq_left hn).symm) hsrc (by simpa [cells16_length] using hfit) (cells16_one gs)).trans (by rw [cells16_length]; rfl), ?_, below_setRow hb hBg _⟩
    have := hg.row (cur.toArray.toList.take off ++ cells16 gs ++ cur.toArray.toList.drop (off + (cells16 gs).length)).toArray
    simpa [splice, cells16_length] using this
set_option maxHeartbeats 2000000 in
theorem t_parse6 (s : ByteArray) (hs : s.size ≤ 1000) (w : World) (hw : Env5 w) : Calls Tryz.prog 28 #[.string s] w fun e w' => e = .returned (p6V s.data.toList) ∧ Below w.heap.size w w' := by
  have G := Lib.hid hw
  have UD := Lib.hid (tells_undot s hs)
  obtain ⟨F, B, gap, hc, hF, hB, hq⟩ := six_cut s.data.toList
  rw [len_list] at hF hB
  have CT := Lib.hid (fun w hw => by
    have := c_cut (str (und6 s.data.toList)) (by rw [str_size]; have := und6_size s.data.toList; rw [len_list] at this; omega) w hw
    rw [str_list, hc] at this
    exact this)
  have L1 := Lib.hid (fun w hw => says_unlist F (by omega) w hw)
  have L2 := Lib.hid (fun w hw => says_unlist B (by omega) w hw)
  have Q := Lib.hid hq
  have S0 := Lib.hid (below_alloc w (.cells #[.int .u16 0, .int .u16 0, .int .u16 0, .int .u16 0, .int .u16 0, .int .u16 0, .int .u16 0, .int .u16 0] 54))
  have R0 : Hid (Blk (w.alloc (.cells #[.int .u16 0, .int .u16 0, .int .u16 0, .int .u16 0, .int .u16 0, .int .u16 0, .int .u16 0, .int .u16 0] 54)) w.heap.size 54 (u16C n8)) := Lib.hid (Blk.new _ _ _ rfl)
  clear hw hc hq
  generalize str (und6 s.data.toList) = us at *
  generalize hsF : str F = sF at *
  generalize hsB : str B = sB at *
  clear hsF hsB
  go_enter Tryz.func28, Tryz.ntmps28
  go_upto_region 1 with fail
  generalize w.alloc (.cells #[.int .u16 0, .int .u16 0, .int .u16 0, .int .u16 0, .int .u16 0, .int .u16 0, .int .u16 0, .int .u16 0] 54) = w1 at *
  go_upto_region 2 with (first
    | (go_at_call 51; refine (UD.out _ (G.out.below S0.out)).mono ?_; rintro q w2 ⟨rfl, hb⟩; have R2 := Lib.hid (show Blk w2 w.heap.size 54 (u16C n8) ∧ Below w.heap.size w w2 from ⟨R0.out.on hb, S0.out.trans (hb.mono S0.out.size)⟩); clear hb)
    | (go_at_call 50; refine (CT.out _ (G.out.below R2.out.2)).mono ?_; rintro q w3 ⟨rfl, hb⟩; have R3 := Lib.hid (show Blk w3 w.heap.size 54 (u16C n8) ∧ Below w.heap.size w w3 from ⟨R2.out.1.on hb, R2.out.2.trans (hb.mono R2.out.2.size)⟩); clear hb))
  clear UD CT S0 R0 R2
  go_upto_region 3 with (go_at_call 52; refine (L1.out _ (G.out.below R3.out.2)).mono ?_; rintro q w4 ⟨⟨u1, rfl, hu⟩, hb⟩; have R4 := Lib.hid (show Blk w4 w.heap.size 54 (u16C n8) ∧ Below w.heap.size w w4 ∧ U16o w4 u1 _ from ⟨R3.out.1.on hb, R3.out.2.trans (hb.mono R3.out.2.size), hu⟩); clear hb hu)
  go_upto_region 4 with (go_at_call 52; refine (L2.out _ (G.out.below R4.out.2.1)).mono ?_; rintro q w5 ⟨⟨u2, rfl, hu⟩, hb⟩; have R5 := Lib.hid (show Blk w5 w.heap.size 54 (u16C n8) ∧ Below w.heap.size w w5 ∧ U16o w5 u1 _ ∧ U16o w5 u2 _ from ⟨R4.out.1.on hb, R4.out.2.1.trans (hb.mono R4.out.2.1.size), R4.out.2.2.on hb, hu⟩); clear hb hu)
  clear L1 L2 R3 R4
  obtain ⟨B5, S5, ⟨a1, c1, e1, hc1, h1⟩, ⟨a2, c2, e2, hc2, h2⟩⟩ := R5.out
  subst e1 e2
  have s2 := st_row 54 B5 (cells := #[.int .u16 0, .int .u16 0, .int .u16 0, .int .u16 0, .int .u16 0, .int .u16 0, .int .u16 0, .int .u16 0]) (by rw [inf8]; rfl) rfl (u16C_ok n8)
  have R := Lib.hid (B5.row (u16C n8))
  have S := Lib.hid (below_setRow S5 (Nat.le_refl _) (u16C n8))
  have SX := Lib.hid (fun h => (six_left (B := B) (gap := gap) h : six F B gap = none))
  have SY := Lib.hid (fun h => (six_right (F := F) (gap := gap) h : six F B gap = none))
  have SO := Lib.hid (fun (h1 : (unl F).isSome = true) (h2 : (unl B).isSome = true) => (six_both (gap := gap) (opt_some h1 rfl) (opt_some h2 rfl)))
  have U1 := Lib.hid (show U16o w5 (.slice a1 ((unl F).getD []).length c1) ((unl F).getD []) from ⟨a1, c1, rfl, hc1, h1⟩)
  have U2 := Lib.hid (show U16o w5 (.slice a2 ((unl B).getD []).length c2) ((unl B).getD []) from ⟨a2, c2, rfl, hc2, h2⟩)
  have S5 := Lib.hid S5
  have lx : ((unl F).getD []).length ≤ 1010 := by have := unl_len F; omega
  have ly : ((unl B).getD []).length ≤ 1010 := by have := unl_len B; omega
  clear hF hB
  generalize (unl F).getD [] = x at *
  generalize (unl B).getD [] = y at *
  generalize (unl F).isSome = okF at *
  generalize (unl B).isSome = okB at *
  clear B5 hc1 hc2 h1 h2
  cases okF
  · have N := Lib.hid (show q6 s.data.toList = none by rw [Q.out]; exact SX.out rfl)
    go_wp2_with (refine wl_store rfl _ _ _ rfl _ rfl (.agg #[.int .u16 0, .int .u16 0, .int .u16 0, .int .u16 0, .int .u16 0, .int .u16 0, .int .u16 0, .int .u16 0]) rfl _ s2 ?_)
    all_goals exact bodyPost_ret (res_pair (p := 2) (q := 3) rfl _ _ w.heap.size 54 (u16C n8) (.bool false) _ rfl rfl R.out Tryz.underlying54 rfl inf8) rfl ⟨by rw [p6V_none N.out], S.out⟩
  cases okB
  · have N := Lib.hid (show q6 s.data.toList = none by rw [Q.out]; exact SY.out rfl)
    go_wp2_with (refine wl_store rfl _ _ _ rfl _ rfl (.agg #[.int .u16 0, .int .u16 0, .int .u16 0, .int .u16 0, .int .u16 0, .int .u16 0, .int .u16 0, .int .u16 0]) rfl _ s2 ?_)
    all_goals exact bodyPost_ret (res_pair (p := 2) (q := 3) rfl _ _ w.heap.size 54 (u16C n8) (.bool false) _ rfl rfl R.out Tryz.underlying54 rfl inf8) rfl ⟨by rw [p6V_none N.out], S.out⟩
  have SO := Lib.hid (SO.out rfl rfl)
  cases gap
  · by_cases c : x.length + y.length = 8
    · have N := Lib.hid (show q6 s.data.toList = some (fill8 x y) by rw [Q.out, SO.out, if_pos (by simpa using c)])
      have c' : ((x.length : Int) + y.length == 8) = true := by simp; omega
      have xy : x.length + y.length ≤ 8 := by omega
      have a2 := slice_l w5.heap.size (8 - y.length) (by omega)
      rw [show ((8 - y.length : Nat) : Int) = 8 - (y.length : Int) by omega] at a2
      rw [show 8 - (8 - y.length) = y.length by omega] at a2
      have D := Lib.hid (show 0 < (cells16 y).length → some (if 8 = 8 - y.length then (⟨w5.heap.size, 0, none⟩ : Addr) else ⟨w5.heap.size, 8 - y.length, none⟩) = some ⟨w5.heap.size, 8 - y.length, none⟩ from fun h => by rw [cells16_length] at h; rw [if_neg (by omega)])
      generalize (if 8 = 8 - y.length then (⟨w5.heap.size, 0, none⟩ : Addr) else ⟨w5.heap.size, 8 - y.length, none⟩) = q at *
      have B6 : Hid (Blk (w5.alloc (.cells #[.int .u16 0, .int .u16 0, .int .u16 0, .int .u16 0, .int .u16 0, .int .u16 0, .int .u16 0, .int .u16 0] 54)) w5.heap.size 54 (u16C n8) ∧ Below w5.heap.size w5 (w5.alloc (.cells #[.int .u16 0, .int .u16 0, .int .u16 0, .int .u16 0, .int .u16 0, .int .u16 0, .int .u16 0, .int .u16 0] 54))) := Lib.hid ⟨Blk.new _ _ _ rfl, below_alloc _ _⟩
      have R5' := Lib.hid R5.out.1
      have FS := Lib.hid (fill_splice xy)
      have FL := Lib.hid (show (nats (fill8 x y)).length = 8 by unfold fill8; simp [nats]; omega)
      clear R S s2 R5 SX SY SO
      go_upto_region 9 with fail
      generalize w5.alloc (.cells #[.int .u16 0, .int .u16 0, .int .u16 0, .int .u16 0, .int .u16 0, .int .u16 0, .int .u16 0, .int .u16 0] 54) = w6 at *
      obtain ⟨w7, cp1, h7, b7⟩ := cp16 (dp := some ⟨w5.heap.size, 0, none⟩) (dLen := 8) (dCap := 8) (off := 0) B6.out.1 (U1.out.on B6.out.2) (by omega) (fun _ => rfl) (by simp [ints, n8]; omega) B6.out.2 (Nat.le_refl _)
      obtain ⟨w8, cp2, h8, b8⟩ := cp16 (dp := some q) (dLen := y.length) (dCap := y.length) (off := 8 - y.length) h7 (U2.out.on b7) (Nat.le_refl _) D.out (by rw [length_splice _ _ _ (by rw [cells16_length]; simp [ints, n8]; omega)]; simp [ints, n8]; omega) b7 (Nat.le_refl _)
      have h8 := Lib.hid h8
      have b8 := Lib.hid b8
      clear h7 b7
      have B8 := Lib.hid (show Blk w8 w5.heap.size 54 (u16C (nats (fill8 x y))) by have := h8.out; rw [FS.out] at this; exact this)
      have R8 := R5'.out.on b8.out
      have l2 := ld_8 FL.out B8.out
      have s2 := st_row 54 R8 (cells := u16C (nats (fill8 x y))) (by rw [inf8, u16C_size, FL.out]) (by rw [u16C_size, u16C_size, FL.out]; rfl) (u16C_ok _)
      have R := Lib.hid (R8.row (u16C (nats (fill8 x y))))
      have S := Lib.hid (below_setRow (S5.out.trans (b8.out.mono S5.out.size)) (Nat.le_refl _) (u16C (nats (fill8 x y))))
      have I := Lib.hid (show (Tryz.prog.info? 54).map (·.size) = some (u16C (nats (fill8 x y))).size by rw [inf8, u16C_size, FL.out])
      clear h8 b8 B8 R8 FS FL U1 U2
      generalize fill8 x y = z at *
      go_wp2_with (first | (refine wl_load rfl _ _ rfl _ rfl _ l2 ?_) | (refine wl_store rfl _ _ _ rfl _ rfl (.agg (u16C (nats z))) rfl _ s2 ?_))
      exact bodyPost_ret (res_pair (p := 2) (q := 3) rfl _ _ w.heap.size 54 (u16C (nats z)) (.bool true) _ rfl rfl R.out Tryz.underlying54 rfl I.out) rfl ⟨by rw [p6V_some N.out], S.out⟩
    · have N := Lib.hid (show q6 s.data.toList = none by rw [Q.out, SO.out, if_neg (by simpa using c)])
      have c' : ((x.length : Int) + y.length == 8) = false := by simp; omega
      clear c
      go_wp2_with (refine wl_store rfl _ _ _ rfl _ rfl (.agg #[.int .u16 0, .int .u16 0, .int .u16 0, .int .u16 0, .int .u16 0, .int .u16 0, .int .u16 0, .int .u16 0]) rfl _ s2 ?_)
      all_goals exact bodyPost_ret (res_pair (p := 2) (q := 3) rfl _ _ w.heap.size 54 (u16C n8) (.bool false) _ rfl rfl R.out Tryz.underlying54 rfl inf8) rfl ⟨by rw [p6V_none N.out], S.out⟩
  · by_cases c : x.length + y.length ≤ 7
    · have N := Lib.hid (show q6 s.data.toList = some (fill8 x y) by rw [Q.out, SO.out, if_pos (by simpa using c)])
      have c' : (x.length : Int) + y.length < 8 := by omega
      have xy : x.length + y.length ≤ 8 := by omega
      have a2 := slice_l w5.heap.size (8 - y.length) (by omega)
      rw [show ((8 - y.length : Nat) : Int) = 8 - (y.length : Int) by omega] at a2
      rw [show 8 - (8 - y.length) = y.length by omega] at a2
      have D := Lib.hid (show 0 < (cells16 y).length → some (if 8 = 8 - y.length then (⟨w5.heap.size, 0, none⟩ : Addr) else ⟨w5.heap.size, 8 - y.length, none⟩) = some ⟨w5.heap.size, 8 - y.length, none⟩ from fun h => by rw [cells16_length] at h; rw [if_neg (by omega)])
      generalize (if 8 = 8 - y.length then (⟨w5.heap.size, 0, none⟩ : Addr) else ⟨w5.heap.size, 8 - y.length, none⟩) = q at *
      have B6 : Hid (Blk (w5.alloc (.cells #[.int .u16 0, .int .u16 0, .int .u16 0, .int .u16 0, .int .u16 0, .int .u16 0, .int .u16 0, .int .u16 0] 54)) w5.heap.size 54 (u16C n8) ∧ Below w5.heap.size w5 (w5.alloc (.cells #[.int .u16 0, .int .u16 0, .int .u16 0, .int .u16 0, .int .u16 0, .int .u16 0, .int .u16 0, .int .u16 0] 54))) := Lib.hid ⟨Blk.new _ _ _ rfl, below_alloc _ _⟩
      have R5' := Lib.hid R5.out.1
      have FS := Lib.hid (fill_splice xy)
      have FL := Lib.hid (show (nats (fill8 x y)).length = 8 by unfold fill8; simp [nats]; omega)
      clear R S s2 R5 SX SY SO
      go_upto_region 9 with fail
      generalize w5.alloc (.cells #[.int .u16 0, .int .u16 0, .int .u16 0, .int .u16 0, .int .u16 0, .int .u16 0, .int .u16 0, .int .u16 0] 54) = w6 at *
      obtain ⟨w7, cp1, h7, b7⟩ := cp16 (dp := some ⟨w5.heap.size, 0, none⟩) (dLen := 8) (dCap := 8) (off := 0) B6.out.1 (U1.out.on B6.out.2) (by omega) (fun _ => rfl) (by simp [ints, n8]; omega) B6.out.2 (Nat.le_refl _)
      obtain ⟨w8, cp2, h8, b8⟩ := cp16 (dp := some q) (dLen := y.length) (dCap := y.length) (off := 8 - y.length) h7 (U2.out.on b7) (Nat.le_refl _) D.out (by rw [length_splice _ _ _ (by rw [cells16_length]; simp [ints, n8]; omega)]; simp [ints, n8]; omega) b7 (Nat.le_refl _)
      have h8 := Lib.hid h8
      have b8 := Lib.hid b8
      clear h7 b7
      have B8 := Lib.hid (show Blk w8 w5.heap.size 54 (u16C (nats (fill8 x y))) by have := h8.out; rw [FS.out] at this; exact this)
      have R8 := R5'.out.on b8.out
      have l2 := ld_8 FL.out B8.out
      have s2 := st_row 54 R8 (cells := u16C (nats (fill8 x y))) (by rw [inf8, u16C_size, FL.out]) (by rw [u16C_size, u16C_size, FL.out]; rfl) (u16C_ok _)
      have R := Lib.hid (R8.row (u16C (nats (fill8 x y))))
      have S := Lib.hid (below_setRow (S5.out.trans (b8.out.mono S5.out.size)) (Nat.le_refl _) (u16C (nats (fill8 x y))))
      have I := Lib.hid (show (Tryz.prog.info? 54).map (·.size) = some (u16C (nats (fill8 x y))).size by rw [inf8, u16C_size, FL.out])
      clear h8 b8 B8 R8 FS FL U1 U2
      generalize fill8 x y = z at *
      go_wp2_with (first | (refine wl_load rfl _ _ rfl _ rfl _ l2 ?_) | (refine wl_store rfl _ _ _ rfl _ rfl (.agg (u16C (nats z))) rfl _ s2 ?_))
      exact bodyPost_ret (res_pair (p := 2) (q := 3) rfl _ _ w.heap.size 54 (u16C (nats z)) (.bool true) _ rfl rfl R.out Tryz.underlying54 rfl I.out) rfl ⟨by rw [p6V_some N.out], S.out⟩
    · have N := Lib.hid (show q6 s.data.toList = none by rw [Q.out, SO.out, if_neg (by simpa using c)])
      have c' : ¬ ((x.length : Int) + y.length < 8) := by omega
      clear c
      go_wp2_with (refine wl_store rfl _ _ _ rfl _ rfl (.agg #[.int .u16 0, .int .u16 0, .int .u16 0, .int .u16 0, .int .u16 0, .int .u16 0, .int .u16 0, .int .u16 0]) rfl _ s2 ?_)
      all_goals exact bodyPost_ret (res_pair (p := 2) (q := 3) rfl _ _ w.heap.size 54 (u16C n8) (.bool false) _ rfl rfl R.out Tryz.underlying54 rfl inf8) rfl ⟨by rw [p6V_none N.out], S.out⟩
end Go.Proofs.YthghanidabmfgaaGreatDoor
namespace Go.Proofs.YthghanidabmfgaaGreatDoor
open Go.RowKit Go.Sort
set_option maxRecDepth 8000
/-- What Parse answers. -/
def paV (l : List UInt8) : Value := match parseA l with
  | some (v, b) => .tuple #[.agg (adC v b), .int .i64 0]
  | none => .tuple #[.agg (adC false n16), .int .i64 9]
theorem paV_none {l : List UInt8} (h : parseA l = none) : paV l = .tuple #[.agg (adC false n16), .int .i64 9] := by unfold paV; rw [h]
theorem paV_some {l : List UInt8} {v : Bool} {b : List Int} (h : parseA l = some (v, b)) : paV l = .tuple #[.agg (adC v b), .int .i64 0] := by unfold paV; rw [h]
theorem st_addr {w : World} {g : Nat} {t : TypeId} {old : Array Value} {v : Bool} {b : List Int} (h : Blk w g t old) (ho : old.size = 17) (hl : b.length = 16) : (Instr.storeAt 24 (.pointer (some ⟨g, 0, none⟩)) (.agg (adC v b))).run Tryz.prog w = .ok () (w.setRow g (adC v b)) :=
  st_row 24 h (by rw [infA, adC_size, hl]) (by rw [ho, adC_size, hl]) (adC_ok _ _)
section
variable {ops : Array Oper} {rest : List Oper} {o : Oper} {a : Act} {w : World} {Q : Exit → Act → World → Prop}
/-- A value is built of parts. -/
theorem wl_build (hw : Region.wanted o (yielded ops a.tmps) = true) (T : TypeId) (ps : Array (Nat × Operand)) (ho : o.op = .build T ps) (vs : List (Nat × Value)) (hv : ps.toList.map (fun p => (p.1, a.eval p.2)) = vs) (cells : Array Value) (hB : Tryz.prog.built T vs = some cells)
    (h : wpList Tryz.prog ops Q rest (a.put o.dst (.agg cells)) w) : wpList Tryz.prog ops Q (o :: rest) a w :=
  BigFrame.wpList_want hw fun _ hK => by
    have r := run_build (P := Tryz.prog) w T vs.toArray cells (by simpa using hB)
    have hv' : (ps.map fun (i, x) => (i, a.eval x)) = vs.toArray := by rw [← hv, ← Array.toList_inj]; simp
    unfold Oper.wp execOp
    simp only [ho, hv', Sem.run_bind, r, Result.andThen_ok, Sem.run_pure]
    exact hK _ _ h
end
theorem built_A (parts : List (Nat × Value)) : Tryz.prog.built 24 parts = Instr.fill (#[(0, 1), (1, 16)][·]?) #[.bool false, .int .u8 0, .int .u8 0, .int .u8 0, .int .u8 0, .int .u8 0, .int .u8 0, .int .u8 0, .int .u8 0, .int .u8 0, .int .u8 0, .int .u8 0, .int .u8 0, .int .u8 0, .int .u8 0, .int .u8 0, .int .u8 0] parts := by kernel_rfl
theorem built_E (parts : List (Nat × Value)) : Tryz.prog.built 32 parts = Instr.fill (#[(0, 17), (17, 1)][·]?) #[.bool false, .int .u8 0, .int .u8 0, .int .u8 0, .int .u8 0, .int .u8 0, .int .u8 0, .int .u8 0, .int .u8 0, .int .u8 0, .int .u8 0, .int .u8 0, .int .u8 0, .int .u8 0, .int .u8 0, .int .u8 0, .int .u8 0, .int .u16 0] parts := by kernel_rfl
theorem built_addr {v : Bool} {b : List Int} (hl : b.length = 16) : Tryz.prog.built 24 [(0, .bool v), (1, .agg (u8C b))] = some (adC v b) := by
  rw [built_A]
  obtain ⟨x0, b, rfl⟩ := List.exists_cons_of_length_eq_add_one hl
  rw [List.length_cons] at hl
  replace hl := Nat.succ.inj hl
  obtain ⟨x1, b, rfl⟩ := List.exists_cons_of_length_eq_add_one hl
  rw [List.length_cons] at hl
  replace hl := Nat.succ.inj hl
  obtain ⟨x2, b, rfl⟩ := List.exists_cons_of_length_eq_add_one hl
  rw [List.length_cons] at hl
  replace hl := Nat.succ.inj hl
  obtain ⟨x3, b, rfl⟩ := List.exists_cons_of_length_eq_add_one hl
  rw [List.length_cons] at hl
  replace hl := Nat.succ.inj hl
  obtain ⟨x4, b, rfl⟩ := List.exists_cons_of_length_eq_add_one hl
  rw [List.length_cons] at hl
  replace hl := Nat.succ.inj hl
  obtain ⟨x5, b, rfl⟩ := List.exists_cons_of_length_eq_add_one hl
  rw [List.length_cons] at hl
  replace hl := Nat.succ.inj hl
  obtain ⟨x6, b, rfl⟩ := List.exists_cons_of_length_eq_add_one hl
  rw [List.length_cons] at hl
  replace hl := Nat.succ.inj hl
  obtain ⟨x7, b, rfl⟩ := List.exists_cons_of_length_eq_add_one hl
  rw [List.length_cons] at hl
  replace hl := Nat.succ.inj hl
  obtain ⟨x8, b, rfl⟩ := List.exists_cons_of_length_eq_add_one hl
  rw [List.length_cons] at hl
  replace hl := Nat.succ.inj hl
  obtain ⟨x9, b, rfl⟩ := List.exists_cons_of_length_eq_add_one hl
  rw [List.length_cons] at hl
  replace hl := Nat.succ.inj hl
  obtain ⟨x10, b, rfl⟩ := List.exists_cons_of_length_eq_add_one hl
  rw [List.length_cons] at hl
  replace hl := Nat.succ.inj hl
  obtain ⟨x11, b, rfl⟩ := List.exists_cons_of_length_eq_add_one hl
  rw [List.length_cons] at hl
  replace hl := Nat.succ.inj hl
  obtain ⟨x12, b, rfl⟩ := List.exists_cons_of_length_eq_add_one hl
  rw [List.length_cons] at hl
  replace hl := Nat.succ.inj hl
  obtain ⟨x13, b, rfl⟩ := List.exists_cons_of_length_eq_add_one hl
  rw [List.length_cons] at hl
  replace hl := Nat.succ.inj hl
  obtain ⟨x14, b, rfl⟩ := List.exists_cons_of_length_eq_add_one hl
  rw [List.length_cons] at hl
  replace hl := Nat.succ.inj hl
  obtain ⟨x15, b, rfl⟩ := List.exists_cons_of_length_eq_add_one hl
  rw [List.length_cons] at hl
  replace hl := Nat.succ.inj hl
  obtain rfl := List.length_eq_zero_iff.1 hl
  change Instr.fill _ _ _ = some _
  kernel_rfl
theorem built_ends {v : Bool} {b : List Int} {p : Int} (hl : b.length = 16) : Tryz.prog.built 32 [(0, .agg (adC v b)), (1, .int .u16 p)] = some (enC v b p) := by
  rw [built_E]
  obtain ⟨x0, b, rfl⟩ := List.exists_cons_of_length_eq_add_one hl
  rw [List.length_cons] at hl
  replace hl := Nat.succ.inj hl
  obtain ⟨x1, b, rfl⟩ := List.exists_cons_of_length_eq_add_one hl
  rw [List.length_cons] at hl
  replace hl := Nat.succ.inj hl
  obtain ⟨x2, b, rfl⟩ := List.exists_cons_of_length_eq_add_one hl
  rw [List.length_cons] at hl
  replace hl := Nat.succ.inj hl
  obtain ⟨x3, b, rfl⟩ := List.exists_cons_of_length_eq_add_one hl
  rw [List.length_cons] at hl
  replace hl := Nat.succ.inj hl
  obtain ⟨x4, b, rfl⟩ := List.exists_cons_of_length_eq_add_one hl
  rw [List.length_cons] at hl
  replace hl := Nat.succ.inj hl
  obtain ⟨x5, b, rfl⟩ := List.exists_cons_of_length_eq_add_one hl
  rw [List.length_cons] at hl
  replace hl := Nat.succ.inj hl
  obtain ⟨x6, b, rfl⟩ := List.exists_cons_of_length_eq_add_one hl
  rw [List.length_cons] at hl
  replace hl := Nat.succ.inj hl
  obtain ⟨x7, b, rfl⟩ := List.exists_cons_of_length_eq_add_one hl
  rw [List.length_cons] at hl
  replace hl := Nat.succ.inj hl
  obtain ⟨x8, b, rfl⟩ := List.exists_cons_of_length_eq_add_one hl
  rw [List.length_cons] at hl
  replace hl := Nat.succ.inj hl
  obtain ⟨x9, b, rfl⟩ := List.exists_cons_of_length_eq_add_one hl
  rw [List.length_cons] at hl
  replace hl := Nat.succ.inj hl
  obtain ⟨x10, b, rfl⟩ := List.exists_cons_of_length_eq_add_one hl
  rw [List.length_cons] at hl
  replace hl := Nat.succ.inj hl
  obtain ⟨x11, b, rfl⟩ := List.exists_cons_of_length_eq_add_one hl
  rw [List.length_cons] at hl
  replace hl := Nat.succ.inj hl
  obtain ⟨x12, b, rfl⟩ := List.exists_cons_of_length_eq_add_one hl
  rw [List.length_cons] at hl
  replace hl := Nat.succ.inj hl
  obtain ⟨x13, b, rfl⟩ := List.exists_cons_of_length_eq_add_one hl
  rw [List.length_cons] at hl
  replace hl := Nat.succ.inj hl
  obtain ⟨x14, b, rfl⟩ := List.exists_cons_of_length_eq_add_one hl
  rw [List.length_cons] at hl
  replace hl := Nat.succ.inj hl
  obtain ⟨x15, b, rfl⟩ := List.exists_cons_of_length_eq_add_one hl
  rw [List.length_cons] at hl
  replace hl := Nat.succ.inj hl
  obtain rfl := List.length_eq_zero_iff.1 hl
  change Instr.fill _ _ _ = some _
  kernel_rfl
theorem st_newA {v : Bool} {b : List Int} (hl : b.length = 16) (W : World) : (Instr.storeAt 24 (.pointer (some ⟨W.heap.size, 0, none⟩)) (.agg (adC v b))).run Tryz.prog (W.alloc (.cells #[.bool false, .int .u8 0, .int .u8 0, .int .u8 0, .int .u8 0, .int .u8 0, .int .u8 0, .int .u8 0, .int .u8 0, .int .u8 0, .int .u8 0, .int .u8 0, .int .u8 0, .int .u8 0, .int .u8 0, .int .u8 0, .int .u8 0] 24)) = .ok () ((W.alloc (.cells #[.bool false, .int .u8 0, .int .u8 0, .int .u8 0, .int .u8 0, .int .u8 0, .int .u8 0, .int .u8 0, .int .u8 0, .int .u8 0, .int .u8 0, .int .u8 0, .int .u8 0, .int .u8 0, .int .u8 0, .int .u8 0, .int .u8 0] 24)).setRow W.heap.size (adC v b)) :=
  st_addr (Blk.new _ _ _ rfl) rfl hl
theorem st_new8 {b : List Int} (hl : b.length = 8) (W : World) : (Instr.storeAt 54 (.pointer (some ⟨W.heap.size, 0, none⟩)) (.agg (u16C b))).run Tryz.prog (W.alloc (.cells #[.int .u16 0, .int .u16 0, .int .u16 0, .int .u16 0, .int .u16 0, .int .u16 0, .int .u16 0, .int .u16 0] 54)) = .ok () ((W.alloc (.cells #[.int .u16 0, .int .u16 0, .int .u16 0, .int .u16 0, .int .u16 0, .int .u16 0, .int .u16 0, .int .u16 0] 54)).setRow W.heap.size (u16C b)) :=
  st_row 54 (Blk.new _ _ _ rfl) (by rw [inf8, u16C_size, hl]) (by rw [u16C_size, hl]; rfl) (u16C_ok _)
/-- A block that is new, with a row stored into it: what was there, and what is there. -/
theorem new_row {w W : World} (T : TypeId) (zs cs : Array Value) (h : Below w.heap.size w W) : Blk ((W.alloc (.cells zs T)).setRow W.heap.size cs) W.heap.size T cs ∧ Below w.heap.size w ((W.alloc (.cells zs T)).setRow W.heap.size cs) :=
  ⟨(Blk.new _ _ _ rfl).row _, below_setRow (h.alloc h.size _) h.size _⟩
theorem new_old {W : World} (T : TypeId) (zs cs : Array Value) {g : Nat} {t : TypeId} {c : Array Value} (h : Blk W g t c) : Blk ((W.alloc (.cells zs T)).setRow W.heap.size cs) g t c := (h.alloc _).rowOther (Nat.ne_of_lt h.lt) _
theorem cp_four {w : World} {g h : Nat} {b : List Int} (hb : b.length = 4) (hg : Blk w g 24 (adC false n16)) (hh : Blk w h 57 (u8C b)) :
    (Builtin.copy_ #[33, 33] 3 #[.slice (some ⟨g, 1, none⟩) 16 16, .slice (some ⟨h, 0, none⟩) 4 4]).run Tryz.prog w = .ok (.int .i64 4) (w.setRow g (adC false (b ++ n12))) := by
  have e : (ints .u8 b).length = 4 := by rw [ints_length, hb]
  have := run_copy_row (P := Tryz.prog) w 33 33 3 5 g 1 16 16 ⟨h, 0, none⟩ 4 4 (adC false n16) 24 (ints .u8 b) Tryz.underlying33 (by kernel_rfl) hg (by rw [e]; rfl) (fun j v hj => by
    rw [Lib.add_plain, Nat.zero_add]; exact hh.cell (by simpa [u8C] using hj)) (by rw [e, adC_size]; decide) (ints_one _ _)
  rw [e] at this
  rw [this]
  congr 1
  congr 1
  match b, hb with
  | [x, y, z, u], _ => rfl
set_option maxHeartbeats 2000000 in
theorem t_parse (s : ByteArray) (hs : s.size ≤ 4000) (w : World) (hw : Env5 w) : Calls Tryz.prog 15 #[.string s] w fun e w' => e = .returned (paV s.data.toList) ∧ Below w.heap.size w w' := by
  have G := Lib.hid hw
  have S0 := Lib.hid (below_alloc w (.cells #[.bool false, .int .u8 0, .int .u8 0, .int .u8 0, .int .u8 0, .int .u8 0, .int .u8 0, .int .u8 0, .int .u8 0, .int .u8 0, .int .u8 0, .int .u8 0, .int .u8 0, .int .u8 0, .int .u8 0, .int .u8 0, .int .u8 0] 24))
  have R0 : Hid (Blk (w.alloc (.cells #[.bool false, .int .u8 0, .int .u8 0, .int .u8 0, .int .u8 0, .int .u8 0, .int .u8 0, .int .u8 0, .int .u8 0, .int .u8 0, .int .u8 0, .int .u8 0, .int .u8 0, .int .u8 0, .int .u8 0, .int .u8 0, .int .u8 0] 24)) w.heap.size 24 (adC false n16)) := Lib.hid (Blk.new _ _ _ rfl)
  have hl : s.data.toList.length = s.size := len_list s
  clear hw
  by_cases h45 : 45 < s.size
  · have N := Lib.hid (show parseA s.data.toList = none from parse_long (by omega))
    go_enter Tryz.func15, Tryz.ntmps15
    go_upto_region 1 with fail
    generalize w.alloc (.cells #[.bool false, .int .u8 0, .int .u8 0, .int .u8 0, .int .u8 0, .int .u8 0, .int .u8 0, .int .u8 0, .int .u8 0, .int .u8 0, .int .u8 0, .int .u8 0, .int .u8 0, .int .u8 0, .int .u8 0, .int .u8 0, .int .u8 0] 24) = w1 at *
    have s2 : (Instr.storeAt 24 (.pointer (some ⟨w.heap.size, 0, none⟩)) (.agg #[.bool false, .int .u8 0, .int .u8 0, .int .u8 0, .int .u8 0, .int .u8 0, .int .u8 0, .int .u8 0, .int .u8 0, .int .u8 0, .int .u8 0, .int .u8 0, .int .u8 0, .int .u8 0, .int .u8 0, .int .u8 0, .int .u8 0])).run Tryz.prog w1 = .ok () (w1.setRow w.heap.size (adC false n16)) := st_addr (v := false) (b := n16) R0.out (by rw [adC_size]; rfl) rfl
    have R := Lib.hid (R0.out.row (adC false n16))
    have S := Lib.hid (below_setRow S0.out (Nat.le_refl _) (adC false n16))
    go_wp2_with (refine wl_store rfl _ _ _ rfl _ rfl (.agg #[.bool false, .int .u8 0, .int .u8 0, .int .u8 0, .int .u8 0, .int .u8 0, .int .u8 0, .int .u8 0, .int .u8 0, .int .u8 0, .int .u8 0, .int .u8 0, .int .u8 0, .int .u8 0, .int .u8 0, .int .u8 0, .int .u8 0]) rfl _ s2 ?_)
    exact bodyPost_ret (res_pair (p := 2) (q := 3) rfl _ _ w.heap.size 24 (adC false n16) (.int .i64 9) _ rfl rfl R.out Tryz.underlying24 rfl (by rw [infA, adC_size]; rfl)) rfl ⟨by rw [paV_none N.out], S.out⟩
  · have hs45 : (s.size : Int) ≤ 45 := by omega
    have P4 := Lib.hid (t_parse4 s hs)
    cases h4 : p4 s.data.toList with
    | some b =>
      obtain ⟨b4, bB, _⟩ := p4_some h4
      have N := Lib.hid (show parseA s.data.toList = some (false, b ++ n12) by unfold parseA; rw [h4])
      rw [p4V_some h4] at P4
      clear h4 h45
      go_enter Tryz.func15, Tryz.ntmps15
      go_upto_region 1 with fail
      generalize w.alloc (.cells #[.bool false, .int .u8 0, .int .u8 0, .int .u8 0, .int .u8 0, .int .u8 0, .int .u8 0, .int .u8 0, .int .u8 0, .int .u8 0, .int .u8 0, .int .u8 0, .int .u8 0, .int .u8 0, .int .u8 0, .int .u8 0, .int .u8 0] 24) = w1 at *
      go_upto_region 5 with (first
        | (go_at_call 27; refine (P4.out _ (G.out.below S0.out)).mono ?_; rintro q w2 ⟨rfl, hb⟩; have R2 := Lib.hid (show Blk w2 w.heap.size 24 (adC false n16) ∧ Below w.heap.size w w2 from ⟨R0.out.on hb, S0.out.trans (hb.mono S0.out.size)⟩); clear hb R0 S0)
        | (refine wl_store rfl _ _ _ rfl _ rfl (.agg (u8C b)) rfl _ (st_new4 (b := b) b4 w2) ?_; have R3 := Lib.hid (show Blk ((w2.alloc (.cells #[.int .u8 0, .int .u8 0, .int .u8 0, .int .u8 0] 57)).setRow w2.heap.size (u8C b)) w.heap.size 24 (adC false n16) ∧ _ from ⟨(R2.out.1.alloc _).rowOther (Nat.ne_of_lt R2.out.1.lt) _, blk_new4 (b := b) R2.out.2⟩)))
      generalize (w2.alloc (.cells #[.int .u8 0, .int .u8 0, .int .u8 0, .int .u8 0] 57)).setRow w2.heap.size (u8C b) = w3 at *
      generalize hg4 : w2.heap.size = g4 at *
      have hlt : w.heap.size < g4 := by rw [← hg4]; exact R2.out.1.lt
      clear R2 hg4
      go_upto_region 6 with (refine wl_store rfl _ _ _ rfl _ rfl (.agg #[.bool false, .int .u8 0, .int .u8 0, .int .u8 0, .int .u8 0, .int .u8 0, .int .u8 0, .int .u8 0, .int .u8 0, .int .u8 0, .int .u8 0, .int .u8 0, .int .u8 0, .int .u8 0, .int .u8 0, .int .u8 0, .int .u8 0]) rfl _ (st_newA (v := false) (b := n16) rfl w3) ?_)
      have R4 : Hid (Blk ((w3.alloc (.cells #[.bool false, .int .u8 0, .int .u8 0, .int .u8 0, .int .u8 0, .int .u8 0, .int .u8 0, .int .u8 0, .int .u8 0, .int .u8 0, .int .u8 0, .int .u8 0, .int .u8 0, .int .u8 0, .int .u8 0, .int .u8 0, .int .u8 0] 24)).setRow w3.heap.size (adC false n16)) w.heap.size 24 (adC false n16) ∧ Blk ((w3.alloc (.cells #[.bool false, .int .u8 0, .int .u8 0, .int .u8 0, .int .u8 0, .int .u8 0, .int .u8 0, .int .u8 0, .int .u8 0, .int .u8 0, .int .u8 0, .int .u8 0, .int .u8 0, .int .u8 0, .int .u8 0, .int .u8 0, .int .u8 0] 24)).setRow w3.heap.size (adC false n16)) g4 57 (u8C b) ∧ Blk ((w3.alloc (.cells #[.bool false, .int .u8 0, .int .u8 0, .int .u8 0, .int .u8 0, .int .u8 0, .int .u8 0, .int .u8 0, .int .u8 0, .int .u8 0, .int .u8 0, .int .u8 0, .int .u8 0, .int .u8 0, .int .u8 0, .int .u8 0, .int .u8 0] 24)).setRow w3.heap.size (adC false n16)) w3.heap.size 24 (adC false n16) ∧ Below w.heap.size w ((w3.alloc (.cells #[.bool false, .int .u8 0, .int .u8 0, .int .u8 0, .int .u8 0, .int .u8 0, .int .u8 0, .int .u8 0, .int .u8 0, .int .u8 0, .int .u8 0, .int .u8 0, .int .u8 0, .int .u8 0, .int .u8 0, .int .u8 0, .int .u8 0] 24)).setRow w3.heap.size (adC false n16)) ∧ w.heap.size < w3.heap.size) := Lib.hid ⟨new_old _ _ _ R3.out.1, new_old _ _ _ R3.out.2.1, (new_row _ _ _ R3.out.2.2).1, (new_row _ _ _ R3.out.2.2).2, R3.out.1.lt⟩
      clear R3
      generalize (w3.alloc (.cells #[.bool false, .int .u8 0, .int .u8 0, .int .u8 0, .int .u8 0, .int .u8 0, .int .u8 0, .int .u8 0, .int .u8 0, .int .u8 0, .int .u8 0, .int .u8 0, .int .u8 0, .int .u8 0, .int .u8 0, .int .u8 0, .int .u8 0] 24)).setRow w3.heap.size (adC false n16) = w4 at *
      generalize w3.heap.size = g6 at *
      have cp := cp_four (w := w4.drew) b4 R4.out.2.2.1 R4.out.2.1
      have R5 : Hid (Blk (w4.drew.setRow g6 (adC false (b ++ n12))) w.heap.size 24 (adC false n16) ∧ Blk (w4.drew.setRow g6 (adC false (b ++ n12))) g6 24 (adC false (b ++ n12)) ∧ Below w.heap.size w (w4.drew.setRow g6 (adC false (b ++ n12)))) := Lib.hid ⟨Blk.rowOther (w := w4.drew) R4.out.1 (Nat.ne_of_lt R4.out.2.2.2.2) _, Blk.row (w := w4.drew) R4.out.2.2.1 _, below_setRow R4.out.2.2.2.1.drew (Nat.le_of_lt R4.out.2.2.2.2) _⟩
      clear R4
      go_region
      generalize w4.drew.setRow g6 (adC false (b ++ n12)) = w5 at *
      have l16 : (b ++ n12).length = 16 := by simp [n12, b4]
      have l2 := ld_addr l16 R5.out.2.1
      have s2 := st_addr (v := false) (b := b ++ n12) R5.out.1 (by rw [adC_size]; rfl) l16
      have R := Lib.hid (R5.out.1.row (adC false (b ++ n12)))
      have S := Lib.hid (below_setRow R5.out.2.2 (Nat.le_refl _) (adC false (b ++ n12)))
      have I := Lib.hid (show (Tryz.prog.info? 24).map (·.size) = some (adC false (b ++ n12)).size by rw [infA, adC_size, l16])
      clear cp R5 P4
      generalize b ++ n12 = z at *
      go_wp2_with (first | (refine wl_load rfl _ _ rfl _ rfl _ l2 ?_) | (refine wl_store rfl _ _ _ rfl _ rfl (.agg (adC false z)) rfl _ s2 ?_))
      exact bodyPost_ret (res_pair (p := 2) (q := 3) rfl _ _ w.heap.size 24 (adC false z) (.int .i64 0) _ rfl rfl R.out Tryz.underlying24 rfl I.out) rfl ⟨by rw [paV_some N.out], S.out⟩
    | none =>
      have P6 := Lib.hid (fun w hw => t_parse6 s (by omega) w hw)
      rw [p4V_none h4] at P4
      cases h6 : q6 s.data.toList with
      | none =>
        have N := Lib.hid (show parseA s.data.toList = none by unfold parseA; rw [h4, h6]; rfl)
        rw [p6V_none h6] at P6
        clear h4 h45 h6
        go_enter Tryz.func15, Tryz.ntmps15
        go_upto_region 1 with fail
        generalize w.alloc (.cells #[.bool false, .int .u8 0, .int .u8 0, .int .u8 0, .int .u8 0, .int .u8 0, .int .u8 0, .int .u8 0, .int .u8 0, .int .u8 0, .int .u8 0, .int .u8 0, .int .u8 0, .int .u8 0, .int .u8 0, .int .u8 0, .int .u8 0] 24) = w1 at *
        go_upto_region 8 with (first
          | (go_at_call 27; refine (P4.out _ (G.out.below S0.out)).mono ?_; rintro q w2 ⟨rfl, hb⟩; have R2 := Lib.hid (show Blk w2 w.heap.size 24 (adC false n16) ∧ Below w.heap.size w w2 from ⟨R0.out.on hb, S0.out.trans (hb.mono S0.out.size)⟩); clear hb R0 S0)
          | (refine wl_store rfl _ _ _ rfl _ rfl (.agg (u8C n4)) rfl _ (st_new4 (b := n4) rfl w2) ?_; have R3 := Lib.hid (show Blk ((w2.alloc (.cells #[.int .u8 0, .int .u8 0, .int .u8 0, .int .u8 0] 57)).setRow w2.heap.size (u8C n4)) w.heap.size 24 (adC false n16) ∧ _ from ⟨new_old _ _ _ R2.out.1, (blk_new4 (b := n4) R2.out.2).2⟩)))
        generalize (w2.alloc (.cells #[.int .u8 0, .int .u8 0, .int .u8 0, .int .u8 0] 57)).setRow w2.heap.size (u8C n4) = w3 at *
        go_upto_region 9 with (first
          | (go_at_call 28; refine (P6.out _ (G.out.below R3.out.2)).mono ?_; rintro q w4 ⟨rfl, hb⟩; have R4 := Lib.hid (show Blk w4 w.heap.size 24 (adC false n16) ∧ Below w.heap.size w w4 from ⟨R3.out.1.on hb, R3.out.2.trans (hb.mono R3.out.2.size)⟩); clear hb)
          | (refine wl_store rfl _ _ _ rfl _ rfl (.agg (u16C n8)) rfl _ (st_new8 (b := n8) rfl w4) ?_; have R5 := Lib.hid (show Blk ((w4.alloc (.cells #[.int .u16 0, .int .u16 0, .int .u16 0, .int .u16 0, .int .u16 0, .int .u16 0, .int .u16 0, .int .u16 0] 54)).setRow w4.heap.size (u16C n8)) w.heap.size 24 (adC false n16) ∧ _ from ⟨new_old _ _ _ R4.out.1, (new_row 54 #[.int .u16 0, .int .u16 0, .int .u16 0, .int .u16 0, .int .u16 0, .int .u16 0, .int .u16 0, .int .u16 0] (u16C n8) R4.out.2).2⟩)))
        generalize (w4.alloc (.cells #[.int .u16 0, .int .u16 0, .int .u16 0, .int .u16 0, .int .u16 0, .int .u16 0, .int .u16 0, .int .u16 0] 54)).setRow w4.heap.size (u16C n8) = w5 at *
        have s2 : (Instr.storeAt 24 (.pointer (some ⟨w.heap.size, 0, none⟩)) (.agg #[.bool false, .int .u8 0, .int .u8 0, .int .u8 0, .int .u8 0, .int .u8 0, .int .u8 0, .int .u8 0, .int .u8 0, .int .u8 0, .int .u8 0, .int .u8 0, .int .u8 0, .int .u8 0, .int .u8 0, .int .u8 0, .int .u8 0])).run Tryz.prog w5 = .ok () (w5.setRow w.heap.size (adC false n16)) := st_addr (v := false) (b := n16) R5.out.1 (by rw [adC_size]; rfl) rfl
        have R := Lib.hid (R5.out.1.row (adC false n16))
        have S := Lib.hid (below_setRow R5.out.2 (Nat.le_refl _) (adC false n16))
        clear P4 P6 R2 R3 R4 R5
        go_wp2_with (refine wl_store rfl _ _ _ rfl _ rfl (.agg #[.bool false, .int .u8 0, .int .u8 0, .int .u8 0, .int .u8 0, .int .u8 0, .int .u8 0, .int .u8 0, .int .u8 0, .int .u8 0, .int .u8 0, .int .u8 0, .int .u8 0, .int .u8 0, .int .u8 0, .int .u8 0, .int .u8 0]) rfl _ s2 ?_)
        exact bodyPost_ret (res_pair (p := 2) (q := 3) rfl _ _ w.heap.size 24 (adC false n16) (.int .i64 9) _ rfl rfl R.out Tryz.underlying24 rfl (by rw [infA, adC_size]; rfl)) rfl ⟨by rw [paV_none N.out], S.out⟩
      | some g =>
        have N := Lib.hid (show parseA s.data.toList = some (true, g2b g) by unfold parseA; rw [h4, h6]; rfl)
        rw [p6V_some h6] at P6
        obtain ⟨g8, glt⟩ := q6_some h6
        have n8' : (nats g).length = 8 := by simp [nats, g8]
        have l16 : (g2b g).length = 16 := by rw [g2b_length, g8]
        have J := Lib.hid (fun w => t_joinG g g8 glt w)
        clear h4 h45 h6
        go_enter Tryz.func15, Tryz.ntmps15
        go_upto_region 1 with fail
        generalize w.alloc (.cells #[.bool false, .int .u8 0, .int .u8 0, .int .u8 0, .int .u8 0, .int .u8 0, .int .u8 0, .int .u8 0, .int .u8 0, .int .u8 0, .int .u8 0, .int .u8 0, .int .u8 0, .int .u8 0, .int .u8 0, .int .u8 0, .int .u8 0] 24) = w1 at *
        go_upto_region 8 with (first
          | (go_at_call 27; refine (P4.out _ (G.out.below S0.out)).mono ?_; rintro q w2 ⟨rfl, hb⟩; have R2 := Lib.hid (show Blk w2 w.heap.size 24 (adC false n16) ∧ Below w.heap.size w w2 from ⟨R0.out.on hb, S0.out.trans (hb.mono S0.out.size)⟩); clear hb R0 S0)
          | (refine wl_store rfl _ _ _ rfl _ rfl (.agg (u8C n4)) rfl _ (st_new4 (b := n4) rfl w2) ?_; have R3 := Lib.hid (show Blk ((w2.alloc (.cells #[.int .u8 0, .int .u8 0, .int .u8 0, .int .u8 0] 57)).setRow w2.heap.size (u8C n4)) w.heap.size 24 (adC false n16) ∧ _ from ⟨new_old _ _ _ R2.out.1, (blk_new4 (b := n4) R2.out.2).2⟩)))
        generalize (w2.alloc (.cells #[.int .u8 0, .int .u8 0, .int .u8 0, .int .u8 0] 57)).setRow w2.heap.size (u8C n4) = w3 at *
        go_upto_region 9 with (first
          | (go_at_call 28; refine (P6.out _ (G.out.below R3.out.2)).mono ?_; rintro q w4 ⟨rfl, hb⟩; have R4 := Lib.hid (show Blk w4 w.heap.size 24 (adC false n16) ∧ Below w.heap.size w w4 from ⟨R3.out.1.on hb, R3.out.2.trans (hb.mono R3.out.2.size)⟩); clear hb)
          | (refine wl_store rfl _ _ _ rfl _ rfl (.agg (u16C (nats g))) rfl _ (st_new8 (b := nats g) n8' w4) ?_; have R5 := Lib.hid (show Blk ((w4.alloc (.cells #[.int .u16 0, .int .u16 0, .int .u16 0, .int .u16 0, .int .u16 0, .int .u16 0, .int .u16 0, .int .u16 0] 54)).setRow w4.heap.size (u16C (nats g))) w.heap.size 24 (adC false n16) ∧ _ from ⟨new_old _ _ _ R4.out.1, new_row 54 #[.int .u16 0, .int .u16 0, .int .u16 0, .int .u16 0, .int .u16 0, .int .u16 0, .int .u16 0, .int .u16 0] (u16C (nats g)) R4.out.2⟩)))
        generalize (w4.alloc (.cells #[.int .u16 0, .int .u16 0, .int .u16 0, .int .u16 0, .int .u16 0, .int .u16 0, .int .u16 0, .int .u16 0] 54)).setRow w4.heap.size (u16C (nats g)) = w5 at *
        generalize w4.heap.size = g7 at *
        have l2 := ld_8 n8' R5.out.2.1
        have sz : (u8C (g2b g)).size = 16 := by rw [u8C_size, l16]
        go_wp2_with (first
          | (refine wl_load rfl _ _ rfl _ rfl _ l2 ?_)
          | (refine wl_store rfl _ _ _ rfl _ rfl (.agg (adC true (g2b g))) rfl _ (st_addr R6.out.1 (by rw [adC_size]; rfl) l16) ?_)
          | (refine wl_build rfl _ _ rfl [(0, .bool true), (1, .agg (u8C (g2b g)))] rfl _ (built_addr (v := true) l16) ?_)
          | (go_at_call 29; refine (J.out _).mono ?_; rintro q w6 ⟨rfl, hb⟩; have R6 := Lib.hid (show Blk w6 w.heap.size 24 (adC false n16) ∧ Below w.heap.size w w6 from ⟨R5.out.1.on hb, R5.out.2.2.trans (hb.mono R5.out.2.2.size)⟩); clear hb))
        exact bodyPost_ret (res_pair (p := 2) (q := 3) rfl _ _ w.heap.size 24 (adC true (g2b g)) (.int .i64 0) _ rfl rfl (R6.out.1.row _) Tryz.underlying24 rfl (by rw [infA, adC_size, l16])) rfl ⟨by rw [paV_some N.out], below_setRow R6.out.2 (Nat.le_refl _) _⟩
end Go.Proofs.YthghanidabmfgaaGreatDoor
