/-
  Reading four numbers: parse4.
-/
import Derived.Test.YthghanidabmfgaaGreatDoorAddrs2
namespace Go.Proofs.YthghanidabmfgaaGreatDoor
open Go.RowKit Go.Sort
set_option maxRecDepth 8000
/-- A call that answers a row, which lies in a variable, and another value. -/
theorem res_pair {fn : Func} {p q : Tmp} {ty : TypeId} (h : fn.results = #[.cell p ty, .tmp q]) (tmps : Array Value) (w : World) (g : Nat) (t : TypeId) (cs : Array Value) (v : Value) (d : TypeDesc)
    (hp : tmps.getD p undef = .pointer (some ⟨g, 0, none⟩)) (hq : tmps.getD q undef = v) (hg : Blk w g t cs)
    (hu : Tryz.prog.underlying ty = some d) (hd : d.isRow = true) (hi : (Tryz.prog.info? ty).map (·.size) = some cs.size) :
    (results fn tmps).run Tryz.prog w = .ok (.tuple #[.agg cs, v]) w := by
  have hp' : tmps[p]?.getD undef = .pointer (some ⟨g, 0, none⟩) := by simpa using hp
  have hq' : tmps[q]?.getD undef = v := by simpa using hq
  have l := run_loadVar_mid w g 0 ty cs.toList d (hg.range fun j x hj => by rw [Nat.zero_add]; simpa using hj) hu hd (by simpa using hi)
  simp [results, h, hp', hq', asAddr, l]
/-- What parse4 answers. -/
def p4V (l : List UInt8) : Value := .tuple #[.agg (u8C ((p4 l).getD n4)), .bool (p4 l).isSome]
theorem p4V_none {l : List UInt8} (h : p4 l = none) : p4V l = .tuple #[.agg (u8C n4), .bool false] := by unfold p4V; rw [h]; rfl
theorem p4V_some {l : List UInt8} {b : List Int} (h : p4 l = some b) : p4V l = .tuple #[.agg (u8C b), .bool true] := by unfold p4V; rw [h]; rfl
/-- A word's number, as the call asks it. -/
theorem num255 (x : List UInt8) : (∃ n, num? 0 255 x = some n ∧ 0 ≤ n ∧ n ≤ 255 ∧ undU x = .tuple #[.int .u64 n, .bool true]) ∨ (∃ n, num? 0 255 x = none ∧ 255 < n ∧ n ≤ 18446744073709551615 ∧ undU x = .tuple #[.int .u64 n, .bool true]) ∨ (num? 0 255 x = none ∧ undU x = .tuple #[.int .u64 0, .bool false]) := by
  have W := num?_within (lo := 0) (hi := 18446744073709551615) (lo' := 0) (hi' := 255) (by omega) (by omega) x
  cases h : numU x with
  | none =>
    have h' : num? 0 18446744073709551615 x = none := h
    rw [h'] at W
    right; right
    exact ⟨W, by unfold undU; rw [h]; rfl⟩
  | some n =>
    have h' : num? 0 18446744073709551615 x = some n := h
    rw [h'] at W
    have b := (num?_some h').2
    by_cases c : n ≤ 255
    · left; exact ⟨n, by rw [W]; simp [b.1, c], b.1, c, by unfold undU; rw [h]; rfl⟩
    · right; left; exact ⟨n, by rw [W]; simp; omega, by omega, b.2, by unfold undU; rw [h]; rfl⟩
def F4 (w wr : World) (g : Nat) (v : Value) (xs : List ByteArray) (k : Nat) (bs : List Int) : Prop :=
  optAll (num? 0 255) ((xs.map (·.data.toList)).take k) = some bs ∧ Strs wr v xs ∧ w.heap.size + 1 ≤ g ∧ Blk wr g 57 (u8C (bs ++ List.replicate (4 - k) 0)) ∧ (∃ cs, Blk wr w.heap.size 57 cs ∧ cs.size = 4) ∧ Below w.heap.size w wr
theorem F4.on {w w1 w2 : World} {g : Nat} {v : Value} {xs : List ByteArray} {k : Nat} {bs : List Int} (h : F4 w w1 g v xs k bs) (hb : Below w1.heap.size w1 w2) : F4 w w2 g v xs k bs := by
  obtain ⟨h1, h2, h3, h4, ⟨cs, h5, h6⟩, h7⟩ := h
  exact ⟨h1, h2.on hb, h3, h4.on hb, ⟨cs, h5.on hb, h6⟩, h7.trans (hb.mono h7.size)⟩
theorem F4.put {w wr : World} {g : Nat} {v : Value} {xs : List ByteArray} {k : Nat} {bs : List Int} (h : F4 w wr g v xs k bs) (hk : k < 4) {x : ByteArray} (hx : xs[k]? = some x) {n : Int} (hn : num? 0 255 x.data.toList = some n) (hne : ∀ b o c, v = .slice (some ⟨b, o, none⟩) 4 c → b ≠ g) (hl : xs.length = 4) : F4 w (wr.setCell ⟨g, k, none⟩ (.int .u8 n)) g v xs (k + 1) (bs ++ [n]) := by
  obtain ⟨h1, ⟨b, o, c, e, s1, s2, s3⟩, h3, h4, ⟨cs, h5, h6⟩, h7⟩ := h
  have hbl : bs.length = k := by rw [optAll_length h1, List.length_take, List.length_map, hl]; omega
  refine ⟨?_, ⟨b, o, c, e, s1, by simpa using s2, fun j y hj => ?_⟩, h3, ?_, ⟨cs, h5.other (by dsimp only; omega) _, h6⟩, h7.setCell (by dsimp only; omega) _⟩
  · have e2 : (xs.map (·.data.toList))[k]? = some x.data.toList := by simp [hx]
    have lt := (List.getElem?_eq_some_iff.1 e2).1
    rw [List.take_succ_eq_append_getElem lt, (List.getElem?_eq_some_iff.1 e2).2, optAll_append, h1]
    simp [optAll, hn]
  · rw [World.cell?_setCell_other _ _ _ _ (by
      intro q
      have := congrArg Addr.block q
      exact hne b o c (by rw [e, hl]) this.symm)]
    exact s3 j y hj
  · have := h4.put k (.int .u8 n)
    unfold u8C at this
    rw [set_ints] at this
    rw [show 4 - k = (4 - (k + 1)) + 1 by omega, List.replicate_succ, List.set_append_right _ _ (by omega), hbl, Nat.sub_self, List.set_cons_zero] at this
    unfold u8C
    rw [List.append_assoc]
    exact this
theorem F4.count {w wr : World} {g : Nat} {v : Value} {xs : List ByteArray} {k : Nat} {bs : List Int} (h : F4 w wr g v xs k bs) (hk : k ≤ 4) (hl : xs.length = 4) : bs.length = k := by
  rw [optAll_length h.1, List.length_take, List.length_map, hl]; omega
theorem F4.cell {w wr : World} {g : Nat} {v : Value} {xs : List ByteArray} {k : Nat} {bs : List Int} (h : F4 w wr g v xs k bs) (hk : k < 4) (hl : xs.length = 4) : ∃ z, wr.cell? ⟨g, k, none⟩ = some z :=
  ⟨_, h.2.2.2.1.cell (Array.getElem?_eq_getElem (by rw [u8C_size, List.length_append, h.count (by omega) hl]; simp; omega))⟩
set_option maxHeartbeats 2000000 in
theorem t_parse4 (s : ByteArray) (hs : s.size ≤ 4000) (w : World) (hw : Env5 w) : Calls Tryz.prog 27 #[.string s] w fun e w' => e = .returned (p4V s.data.toList) ∧ Below w.heap.size w w' := by
  have G := Lib.hid hw
  have S0 := Lib.hid (below_alloc w (.cells #[.int .u8 0, .int .u8 0, .int .u8 0, .int .u8 0] 57))
  have R0 : Hid (Blk (w.alloc (.cells #[.int .u8 0, .int .u8 0, .int .u8 0, .int .u8 0] 57)) w.heap.size 57 (u8C n4)) := Lib.hid (Blk.new _ _ _ rfl)
  have SP := Lib.hid (fun w hw => c_split 46 s hs w hw)
  have Z4 := Lib.hid (show u8C n4 = #[.int .u8 0, .int .u8 0, .int .u8 0, .int .u8 0] from rfl)
  clear hw
  go_enter Tryz.func27, Tryz.ntmps27
  go_upto_region 1 with fail
  generalize w.alloc (.cells #[.int .u8 0, .int .u8 0, .int .u8 0, .int .u8 0] 57) = w1 at *
  go_upto_region 2 with (go_at_call 49; refine (SP.out _ (G.out.below S0.out)).mono ?_; rintro x w2 ⟨⟨v, xs, rfl, hv, hx⟩, hb⟩; have R2 := Lib.hid (show Blk w2 w.heap.size 57 (u8C n4) ∧ Below w.heap.size w w2 from ⟨R0.out.on hb, S0.out.trans (hb.mono S0.out.size)⟩); clear hb R0 S0)
  clear SP
  have X := Lib.hid hx
  obtain ⟨b, o, c, rfl, hc, hbl, hxs⟩ := hv
  by_cases h4 : xs.length = 4
  · have h4c : (xs.length : Int) = 4 := by omega
    have P4 := Lib.hid (show p4 s.data.toList = optAll (num? 0 255) (xs.map (·.data.toList)) by unfold p4; rw [← hx, if_pos (by rw [List.length_map]; exact h4)])
    have H4 := Lib.hid h4
    rw [h4]
    have F0 : Hid (F4 w (w2.alloc (.cells #[.int .u8 0, .int .u8 0, .int .u8 0, .int .u8 0] 57)) w2.heap.size (.slice (some ⟨b, o, none⟩) 4 c) xs 0 []) := Lib.hid ⟨rfl, Strs.on ⟨b, o, c, by rw [H4.out], hc, hbl, hxs⟩ (below_alloc _ _), Nat.succ_le_of_lt R2.out.1.lt, Blk.new _ _ _ rfl, ⟨_, R2.out.1.alloc _, rfl⟩, R2.out.2.alloc R2.out.2.size _⟩
    have NE := Lib.hid (show b ≠ w2.heap.size from Nat.ne_of_lt hbl)
    clear hx hxs X h4 h4c
    go_upto_region 5 with fail
    generalize w2.alloc (.cells #[.int .u8 0, .int .u8 0, .int .u8 0, .int .u8 0] 57) = w3 at *
    generalize w2.heap.size = g at *
    clear R2
    go_wp2
    go_loopw [18] (fun i wr => ∃ (k : Nat) (bs : List Int), k ≤ 4 ∧ i = .int .i64 k ∧ Hid (F4 w wr g (.slice (some ⟨b, o, none⟩) 4 c) xs k bs)) (fun i _ => 4 - (intOf i).toNat)
    case atStart => exact ⟨0, [], by omega, rfl, F0⟩
    case round =>
      clear F0
      obtain ⟨k, bs, hk, rfl, F⟩ := hrel
      by_cases hlt : k < 4
      · have e1 : xs[k]? = some (xs[k]'(by rw [H4.out]; exact hlt)) := List.getElem?_eq_getElem _
        obtain ⟨b', o', c', e', q1, q2, q3⟩ := F.out.2.1
        simp only [Value.slice.injEq, Option.some.injEq, Addr.mk.injEq, and_true] at e'
        obtain ⟨⟨rfl, rfl⟩, q4, rfl⟩ := e'
        have c1 := q3 k _ e1
        have MM := Lib.hid (List.mem_map.2 ⟨_, List.mem_of_getElem? e1, rfl⟩ : (xs[k]'(by rw [H4.out]; exact hlt)).data.toList ∈ xs.map (·.data.toList))
        generalize xs[k]'(by rw [H4.out]; exact hlt) = x at *
        have U := Lib.hid ((t_ununsigned x).tells)
        have PT := Lib.hid (fun wr n (h : F4 w wr g (.slice (some ⟨b, o, none⟩) 4 c) xs k bs) hn => h.put hlt e1 (n := n) hn (fun b2 o2 c2 e2 => by
          simp only [Value.slice.injEq, Option.some.injEq, Addr.mk.injEq] at e2; rw [← e2.1.1]; exact NE.out) H4.out)
        clear e1 q1 q2 q3 q4
        rcases num255 x.data.toList with ⟨n, hn, n0, n1, eu⟩ | ⟨n, hn, n0, n1, eu⟩ | ⟨hn, eu⟩
        · rw [eu] at U
          have PT := Lib.hid (fun wr h => PT.out wr n h hn)
          clear eu hn MM
          go_wp2_with (go_at_call 34; refine (U.out _ (G.out.below F.out.2.2.2.2.2)).mono ?_; rintro q w4 ⟨rfl, hb⟩; have F2 := Lib.hid (F.out.on hb); have f0 := F2.out.2.2.2.1.free k; obtain ⟨z, c0⟩ := F2.out.cell hlt H4.out; clear hb F c1)
          go_roundw
          case rel => exact ⟨k + 1, bs ++ [n], by omega, by go_num, PT.out _ F2.out⟩
          case measure => simp [intOf]; omega
        · rw [eu] at U
          have N := Lib.hid (show p4 s.data.toList = none by rw [P4.out]; exact optAll_none MM.out hn)
          clear eu hn MM PT
          go_wp2_with (first
            | (go_at_call 34; refine (U.out _ (G.out.below F.out.2.2.2.2.2)).mono ?_; rintro q w4 ⟨rfl, hb⟩; obtain ⟨-, -, -, -, ⟨cs, h5, h6⟩, h7⟩ := F.out.on hb; have s2 := st_row 57 h5 (cells := #[.int .u8 0, .int .u8 0, .int .u8 0, .int .u8 0]) (by rw [inf4]; rfl) (by rw [h6]; rfl) (u8C_ok n4); have R := Lib.hid (h5.row (u8C n4)); have S := Lib.hid (below_setRow h7 (Nat.le_refl _) (u8C n4)); clear hb F c1 h5 h6 h7)
            | (refine wl_store rfl _ _ _ rfl _ rfl _ rfl _ s2 ?_))
          exact bodyPost_ret (res_pair (p := 2) (q := 3) rfl _ _ w.heap.size 57 (u8C n4) (.bool false) _ rfl rfl R.out Tryz.underlying57 rfl inf4) rfl ⟨by rw [p4V_none N.out], S.out⟩
        · rw [eu] at U
          have N := Lib.hid (show p4 s.data.toList = none by rw [P4.out]; exact optAll_none MM.out hn)
          clear eu hn MM PT
          go_wp2_with (first
            | (go_at_call 34; refine (U.out _ (G.out.below F.out.2.2.2.2.2)).mono ?_; rintro q w4 ⟨rfl, hb⟩; obtain ⟨-, -, -, -, ⟨cs, h5, h6⟩, h7⟩ := F.out.on hb; have s2 := st_row 57 h5 (cells := #[.int .u8 0, .int .u8 0, .int .u8 0, .int .u8 0]) (by rw [inf4]; rfl) (by rw [h6]; rfl) (u8C_ok n4); have R := Lib.hid (h5.row (u8C n4)); have S := Lib.hid (below_setRow h7 (Nat.le_refl _) (u8C n4)); clear hb F c1 h5 h6 h7)
            | (refine wl_store rfl _ _ _ rfl _ rfl _ rfl _ s2 ?_))
          exact bodyPost_ret (res_pair (p := 2) (q := 3) rfl _ _ w.heap.size 57 (u8C n4) (.bool false) _ rfl rfl R.out Tryz.underlying57 rfl inf4) rfl ⟨by rw [p4V_none N.out], S.out⟩
      · obtain rfl : k = 4 := by omega
        have hbs := F.out.count (Nat.le_refl _) H4.out
        obtain ⟨h1, -, h3, h4, ⟨cs, h5, h6⟩, h7⟩ := F.out
        have N := Lib.hid (show p4 s.data.toList = some bs by rw [P4.out, ← h1, List.take_of_length_le (by simp [H4.out])])
        rw [Nat.sub_self, List.replicate_zero, List.append_nil] at h4
        have l2 := ld_4 hbs h4
        have s2 := st_row 57 h5 (cells := u8C bs) (by rw [inf4, u8C_size, hbs]) (by rw [h6, u8C_size, hbs]) (u8C_ok _)
        have R := Lib.hid (h5.row (u8C bs))
        have S := Lib.hid (below_setRow h7 (Nat.le_refl _) (u8C bs))
        have I := Lib.hid (show (Tryz.prog.info? 57).map (·.size) = some (u8C bs).size by rw [inf4, u8C_size, hbs])
        clear F h1 h3 h4 h5 h6 h7 hbs
        go_wp2_with (first | (refine wl_load rfl _ _ rfl _ rfl _ l2 ?_) | (refine wl_store rfl _ _ _ rfl _ rfl _ rfl _ s2 ?_))
        exact bodyPost_ret (res_pair (p := 2) (q := 3) rfl _ _ w.heap.size 57 (u8C bs) (.bool true) _ rfl rfl R.out Tryz.underlying57 rfl I.out) rfl ⟨by rw [p4V_some N.out], S.out⟩
  · have N := Lib.hid (show p4 s.data.toList = none from if_neg (by rw [← hx, List.length_map]; exact h4))
    clear hx hxs X
    have h4' : ((xs.length : Int) == 4) = false := by simp; omega
    have s2 := st_row 57 R2.out.1 (cells := #[.int .u8 0, .int .u8 0, .int .u8 0, .int .u8 0]) (by rw [inf4]; rfl) rfl (u8C_ok n4)
    have R := Lib.hid (R2.out.1.row (u8C n4))
    have S := Lib.hid (below_setRow R2.out.2 (Nat.le_refl _) (u8C n4))
    go_wp2_with (refine wl_store rfl _ _ _ rfl _ rfl _ rfl _ s2 ?_)
    exact bodyPost_ret (res_pair (p := 2) (q := 3) rfl _ _ w.heap.size 57 (u8C n4) (.bool false) _ rfl rfl R.out Tryz.underlying57 rfl inf4) rfl ⟨by rw [p4V_none N.out], S.out⟩
end Go.Proofs.YthghanidabmfgaaGreatDoor
