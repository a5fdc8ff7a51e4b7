/-
  Reading four numbers: parse4.
  undot: an end that is an IPv4 address, as two groups.
-/
import Derived.Test.YthghanidabmfgaaGreatDoorAddrs2
namespace Go.Proofs.YthghanidabmfgaaGreatDoor
open Go.RowKit Go.Sort
set_option maxRecDepth 8000
/-- A call that answers a row, which lies in a variable, and another value. -/
theorem res_pair {fn : Func} {p q : Tmp} {ty : TypeId} (h : fn.results = #[.cell p ty, .tmp q]) (tmps : Array Value) (w : World) (g : Nat) (t : TypeId) (cs : Array Value) (v : Value) (d : TypeDesc)
    (hp : tmps.getD p undef = .pointer (some ⟨g, 0, none⟩)) (hq : tmps.getD q undef = v) (hg : Blk w g t cs)
    (hu : Tryz.prog.underlying ty = some d) (hd : d.isRow = true) (hi : (Tryz.prog.info? ty).map (·.size) = some cs.size) :
    (results fn tmps).run Tryz.prog w = .ok (.tuple #[.agg cs, v]) w := by
  have hp' : tmps[p]?.getD undef = .pointer (some ⟨g, 0, none⟩) := by simpa using hp
  have hq' : tmps[q]?.getD undef = v := by simpa using hq
  have l := run_loadVar_mid w g 0 ty cs.toList d (hg.range fun j x hj => by rw [Nat.zero_add]; simpa using hj) hu hd (by simpa using hi)
  simp [results, h, hp', hq', asAddr, l]
/-- What parse4 answers. -/
def p4V (l : List UInt8) : Value := .tuple #[.agg (u8C ((p4 l).getD n4)), .bool (p4 l).isSome]
theorem p4V_none {l : List UInt8} (h : p4 l = none) : p4V l = .tuple #[.agg (u8C n4), .bool false] := by unfold p4V; rw [h]; rfl
theorem p4V_some {l : List UInt8} {b : List Int} (h : p4 l = some b) : p4V l = .tuple #[.agg (u8C b), .bool true] := by unfold p4V; rw [h]; rfl
/-- A word's number, as the call asks it. -/
theorem num255 (x : List UInt8) : (∃ n, num? 0 255 x = some n ∧ 0 ≤ n ∧ n ≤ 255 ∧ undU x = .tuple #[.int .u64 n, .bool true]) ∨ (∃ n, num? 0 255 x = none ∧ 255 < n ∧ n ≤ 18446744073709551615 ∧ undU x = .tuple #[.int .u64 n, .bool true]) ∨ (num? 0 255 x = none ∧ undU x = .tuple #[.int .u64 0, .bool false]) := by
  have W := num?_within (lo := 0) (hi := 18446744073709551615) (lo' := 0) (hi' := 255) (by omega) (by omega) x
  cases h : numU x with
  | none =>
    have h' : num? 0 18446744073709551615 x = none := h
    rw [h'] at W
    right; right
    exact ⟨W, by unfold undU; rw [h]; rfl⟩
  | some n =>
    have h' : num? 0 18446744073709551615 x = some n := h
    rw [h'] at W
    have b := (num?_some h').2
    by_cases c : n ≤ 255
    · left; exact ⟨n, by rw [W]; simp [b.1, c], b.1, c, by unfold undU; rw [h]; rfl⟩
    · right; left; exact ⟨n, by rw [W]; simp; omega, by omega, b.2, by unfold undU; rw [h]; rfl⟩
def F4 (w wr : World) (g : Nat) (v : Value) (xs : List ByteArray) (k : Nat) (bs : List Int) : Prop :=
  optAll (num? 0 255) ((xs.map (·.data.toList)).take k) = some bs ∧ Strs wr v xs ∧ w.heap.size + 1 ≤ g ∧ Blk wr g 57 (u8C (bs ++ List.replicate (4 - k) 0)) ∧ (∃ cs, Blk wr w.heap.size 57 cs ∧ cs.size = 4) ∧ Below w.heap.size w wr
theorem F4.on {w w1 w2 : World} {g : Nat} {v : Value} {xs : List ByteArray} {k : Nat} {bs : List Int} (h : F4 w w1 g v xs k bs) (hb : Below w1.heap.size w1 w2) : F4 w w2 g v xs k bs := by
  obtain ⟨h1, h2, h3, h4, ⟨cs, h5, h6⟩, h7⟩ := h
  exact ⟨h1, h2.on hb, h3, h4.on hb, ⟨cs, h5.on hb, h6⟩, h7.trans (hb.mono h7.size)⟩
theorem F4.put {w wr : World} {g : Nat} {v : Value} {xs : List ByteArray} {k : Nat} {bs : List Int} (h : F4 w wr g v xs k bs) (hk : k < 4) {x : ByteArray} (hx : xs[k]? = some x) {n : Int} (hn : num? 0 255 x.data.toList = some n) (hne : ∀ b o c, v = .slice (some ⟨b, o, none⟩) 4 c → b ≠ g) (hl : xs.length = 4) : F4 w (wr.setCell ⟨g, k, none⟩ (.int .u8 n)) g v xs (k + 1) (bs ++ [n]) := by
  obtain ⟨h1, ⟨b, o, c, e, s1, s2, s3⟩, h3, h4, ⟨cs, h5, h6⟩, h7⟩ := h
  have hbl : bs.length = k := by rw [optAll_length h1, List.length_take, List.length_map, hl]; omega
  refine ⟨?_, ⟨b, o, c, e, s1, by simpa using s2, fun j y hj => ?_⟩, h3, ?_, ⟨cs, h5.other (by dsimp only; omega) _, h6⟩, h7.setCell (by dsimp only; omega) _⟩
  · have e2 : (xs.map (·.data.toList))[k]? = some x.data.toList := by simp [hx]
    have lt := (List.getElem?_eq_some_iff.1 e2).1
    rw [List.take_succ_eq_append_getElem lt, (List.getElem?_eq_some_iff.1 e2).2, optAll_append, h1]
    simp [optAll, hn]
  · rw [World.cell?_setCell_other _ _ _ _ (by
      intro q
      have := congrArg Addr.block q
      exact hne b o c (by rw [e, hl]) this.symm)]
    exact s3 j y hj
  · have := h4.put k (.int .u8 n)
    unfold u8C at this
    rw [set_ints] at this
    rw [show 4 - k = (4 - (k + 1)) + 1 by omega, List.replicate_succ, List.set_append_right _ _ (by omega), hbl, Nat.sub_self, List.set_cons_zero] at this
    unfold u8C
    rw [List.append_assoc]
    exact this
theorem F4.count {w wr : World} {g : Nat} {v : Value} {xs : List ByteArray} {k : Nat} {bs : List Int} (h : F4 w wr g v xs k bs) (hk : k ≤ 4) (hl : xs.length = 4) : bs.length = k := by
  rw [optAll_length h.1, List.length_take, List.length_map, hl]; omega
theorem F4.cell {w wr : World} {g : Nat} {v : Value} {xs : List ByteArray} {k : Nat} {bs : List Int} (h : F4 w wr g v xs k bs) (hk : k < 4) (hl : xs.length = 4) : ∃ z, wr.cell? ⟨g, k, none⟩ = some z :=
  ⟨_, h.2.2.2.1.cell (Array.getElem?_eq_getElem (by rw [u8C_size, List.length_append, h.count (by omega) hl]; simp; omega))⟩
set_option maxHeartbeats 2000000 in
theorem t_parse4 (s : ByteArray) (hs : s.size ≤ 4000) (w : World) (hw : Env5 w) : Calls Tryz.prog 27 #[.string s] w fun e w' => e = .returned (p4V s.data.toList) ∧ Below w.heap.size w w' := by
  have G := Lib.hid hw
  have S0 := Lib.hid (below_alloc w (.cells #[.int .u8 0, .int .u8 0, .int .u8 0, .int .u8 0] 57))
  have R0 : Hid (Blk (w.alloc (.cells #[.int .u8 0, .int .u8 0, .int .u8 0, .int .u8 0] 57)) w.heap.size 57 (u8C n4)) := Lib.hid (Blk.new _ _ _ rfl)
  have SP := Lib.hid (fun w hw => c_split 46 s hs w hw)
  have Z4 := Lib.hid (show u8C n4 = #[.int .u8 0, .int .u8 0, .int .u8 0, .int .u8 0] from rfl)
  clear hw
  go_enter Tryz.func27, Tryz.ntmps27
  go_upto_region 1 with fail
  generalize w.alloc (.cells #[.int .u8 0, .int .u8 0, .int .u8 0, .int .u8 0] 57) = w1 at *
  go_upto_region 2 with (go_at_call 49; refine (SP.out _ (G.out.below S0.out)).mono ?_; rintro x w2 ⟨⟨v, xs, rfl, hv, hx⟩, hb⟩; have R2 := Lib.hid (show Blk w2 w.heap.size 57 (u8C n4) ∧ Below w.heap.size w w2 from ⟨R0.out.on hb, S0.out.trans (hb.mono S0.out.size)⟩); clear hb R0 S0)
  clear SP
  have X := Lib.hid hx
  obtain ⟨b, o, c, rfl, hc, hbl, hxs⟩ := hv
  by_cases h4 : xs.length = 4
  · have h4c : (xs.length : Int) = 4 := by omega
    have P4 := Lib.hid (show p4 s.data.toList = optAll (num? 0 255) (xs.map (·.data.toList)) by unfold p4; rw [← hx, if_pos (by rw [List.length_map]; exact h4)])
    have H4 := Lib.hid h4
    rw [h4]
    have F0 : Hid (F4 w (w2.alloc (.cells #[.int .u8 0, .int .u8 0, .int .u8 0, .int .u8 0] 57)) w2.heap.size (.slice (some ⟨b, o, none⟩) 4 c) xs 0 []) := Lib.hid ⟨rfl, Strs.on ⟨b, o, c, by rw [H4.out], hc, hbl, hxs⟩ (below_alloc _ _), Nat.succ_le_of_lt R2.out.1.lt, Blk.new _ _ _ rfl, ⟨_, R2.out.1.alloc _, rfl⟩, R2.out.2.alloc R2.out.2.size _⟩
    have NE := Lib.hid (show b ≠ w2.heap.size from Nat.ne_of_lt hbl)
    clear hx hxs X h4 h4c
    go_upto_region 5 with fail
    generalize w2.alloc (.cells #[.int .u8 0, .int .u8 0, .int .u8 0, .int .u8 0] 57) = w3 at *
    generalize w2.heap.size = g at *
    clear R2
    go_wp2
    go_loopw [18] (fun i wr => ∃ (k : Nat) (bs : List Int), k ≤ 4 ∧ i = .int .i64 k ∧ Hid (F4 w wr g (.slice (some ⟨b, o, none⟩) 4 c) xs k bs)) (fun i _ => 4 - (intOf i).toNat)
    case atStart => exact ⟨0, [], by omega, rfl, F0⟩
    case round =>
      clear F0
      obtain ⟨k, bs, hk, rfl, F⟩ := hrel
      by_cases hlt : k < 4
      · have e1 : xs[k]? = some (xs[k]'(by rw [H4.out]; exact hlt)) := List.getElem?_eq_getElem _
        obtain ⟨b', o', c', e', q1, q2, q3⟩ := F.out.2.1
        simp only [Value.slice.injEq, Option.some.injEq, Addr.mk.injEq, and_true] at e'
        obtain ⟨⟨rfl, rfl⟩, q4, rfl⟩ := e'
        have c1 := q3 k _ e1
        have MM := Lib.hid (List.mem_map.2 ⟨_, List.mem_of_getElem? e1, rfl⟩ : (xs[k]'(by rw [H4.out]; exact hlt)).data.toList ∈ xs.map (·.data.toList))
        generalize xs[k]'(by rw [H4.out]; exact hlt) = x at *
        have U := Lib.hid ((t_ununsigned x).tells)
        have PT := Lib.hid (fun wr n (h : F4 w wr g (.slice (some ⟨b, o, none⟩) 4 c) xs k bs) hn => h.put hlt e1 (n := n) hn (fun b2 o2 c2 e2 => by
          simp only [Value.slice.injEq, Option.some.injEq, Addr.mk.injEq] at e2; rw [← e2.1.1]; exact NE.out) H4.out)
        clear e1 q1 q2 q3 q4
        rcases num255 x.data.toList with ⟨n, hn, n0, n1, eu⟩ | ⟨n, hn, n0, n1, eu⟩ | ⟨hn, eu⟩
        · rw [eu] at U
          have PT := Lib.hid (fun wr h => PT.out wr n h hn)
          clear eu hn MM
          go_wp2_with (go_at_call 34; refine (U.out _ (G.out.below F.out.2.2.2.2.2)).mono ?_; rintro q w4 ⟨rfl, hb⟩; have F2 := Lib.hid (F.out.on hb); have f0 := F2.out.2.2.2.1.free k; obtain ⟨z, c0⟩ := F2.out.cell hlt H4.out; clear hb F c1)
          go_roundw
          case rel => exact ⟨k + 1, bs ++ [n], by omega, by go_num, PT.out _ F2.out⟩
          case measure => simp [intOf]; omega
        · rw [eu] at U
          have N := Lib.hid (show p4 s.data.toList = none by rw [P4.out]; exact optAll_none MM.out hn)
          clear eu hn MM PT
          go_wp2_with (first
            | (go_at_call 34; refine (U.out _ (G.out.below F.out.2.2.2.2.2)).mono ?_; rintro q w4 ⟨rfl, hb⟩; obtain ⟨-, -, -, -, ⟨cs, h5, h6⟩, h7⟩ := F.out.on hb; have s2 := st_row 57 h5 (cells := #[.int .u8 0, .int .u8 0, .int .u8 0, .int .u8 0]) (by rw [inf4]; rfl) (by rw [h6]; rfl) (u8C_ok n4); have R := Lib.hid (h5.row (u8C n4)); have S := Lib.hid (below_setRow h7 (Nat.le_refl _) (u8C n4)); clear hb F c1 h5 h6 h7)
            | (refine wl_store rfl _ _ _ rfl _ rfl _ rfl _ s2 ?_))
          exact bodyPost_ret (res_pair (p := 2) (q := 3) rfl _ _ w.heap.size 57 (u8C n4) (.bool false) _ rfl rfl R.out Tryz.underlying57 rfl inf4) rfl ⟨by rw [p4V_none N.out], S.out⟩
        · rw [eu] at U
          have N := Lib.hid (show p4 s.data.toList = none by rw [P4.out]; exact optAll_none MM.out hn)
          clear eu hn MM PT
          go_wp2_with (first
            | (go_at_call 34; refine (U.out _ (G.out.below F.out.2.2.2.2.2)).mono ?_; rintro q w4 ⟨rfl, hb⟩; obtain ⟨-, -, -, -, ⟨cs, h5, h6⟩, h7⟩ := F.out.on hb; have s2 := st_row 57 h5 (cells := #[.int .u8 0, .int .u8 0, .int .u8 0, .int .u8 0]) (by rw [inf4]; rfl) (by rw [h6]; rfl) (u8C_ok n4); have R := Lib.hid (h5.row (u8C n4)); have S := Lib.hid (below_setRow h7 (Nat.le_refl _) (u8C n4)); clear hb F c1 h5 h6 h7)
            | (refine wl_store rfl _ _ _ rfl _ rfl _ rfl _ s2 ?_))
          exact bodyPost_ret (res_pair (p := 2) (q := 3) rfl _ _ w.heap.size 57 (u8C n4) (.bool false) _ rfl rfl R.out Tryz.underlying57 rfl inf4) rfl ⟨by rw [p4V_none N.out], S.out⟩
      · obtain rfl : k = 4 := by omega
        have hbs := F.out.count (Nat.le_refl _) H4.out
        obtain ⟨h1, -, h3, h4, ⟨cs, h5, h6⟩, h7⟩ := F.out
        have N := Lib.hid (show p4 s.data.toList = some bs by rw [P4.out, ← h1, List.take_of_length_le (by simp [H4.out])])
        rw [Nat.sub_self, List.replicate_zero, List.append_nil] at h4
        have l2 := ld_4 hbs h4
        have s2 := st_row 57 h5 (cells := u8C bs) (by rw [inf4, u8C_size, hbs]) (by rw [h6, u8C_size, hbs]) (u8C_ok _)
        have R := Lib.hid (h5.row (u8C bs))
        have S := Lib.hid (below_setRow h7 (Nat.le_refl _) (u8C bs))
        have I := Lib.hid (show (Tryz.prog.info? 57).map (·.size) = some (u8C bs).size by rw [inf4, u8C_size, hbs])
        clear F h1 h3 h4 h5 h6 h7 hbs
        go_wp2_with (first | (refine wl_load rfl _ _ rfl _ rfl _ l2 ?_) | (refine wl_store rfl _ _ _ rfl _ rfl _ rfl _ s2 ?_))
        exact bodyPost_ret (res_pair (p := 2) (q := 3) rfl _ _ w.heap.size 57 (u8C bs) (.bool true) _ rfl rfl R.out Tryz.underlying57 rfl I.out) rfl ⟨by rw [p4V_some N.out], S.out⟩
  · have N := Lib.hid (show p4 s.data.toList = none from if_neg (by rw [← hx, List.length_map]; exact h4))
    clear hx hxs X
    have h4' : ((xs.length : Int) == 4) = false := by simp; omega
    have s2 := st_row 57 R2.out.1 (cells := #[.int .u8 0, .int .u8 0, .int .u8 0, .int .u8 0]) (by rw [inf4]; rfl) rfl (u8C_ok n4)
    have R := Lib.hid (R2.out.1.row (u8C n4))
    have S := Lib.hid (below_setRow R2.out.2 (Nat.le_refl _) (u8C n4))
    go_wp2_with (refine wl_store rfl _ _ _ rfl _ rfl _ rfl _ s2 ?_)
    exact bodyPost_ret (res_pair (p := 2) (q := 3) rfl _ _ w.heap.size 57 (u8C n4) (.bool false) _ rfl rfl R.out Tryz.underlying57 rfl inf4) rfl ⟨by rw [p4V_none N.out], S.out⟩
end Go.Proofs.YthghanidabmfgaaGreatDoor
namespace Go.Proofs.YthghanidabmfgaaGreatDoor
open Go.RowKit Go.Sort
set_option maxRecDepth 8000
theorem ext_head (s : ByteArray) : s.extract 0 (headW s.data.toList).length = str (headW s.data.toList) := by
  refine bytes_eq ?_
  have e := (head_last s.data.toList).1
  rw [str_list, show (s.extract 0 (headW s.data.toList).length).data.toList = (s.data.toList.take (headW s.data.toList).length).drop 0 by simp]
  generalize headW s.data.toList = H at *
  rw [← e]
  simp
theorem ext_last (s : ByteArray) : s.extract (headW s.data.toList).length s.size = str (lastW s.data.toList) := by
  refine bytes_eq ?_
  have e := (head_last s.data.toList).1
  rw [str_list, show (s.extract (headW s.data.toList).length s.size).data.toList = (s.data.toList.take s.size).drop (headW s.data.toList).length by simp [List.drop_take], List.take_of_length_le (by rw [len_list]; exact Nat.le_refl _)]
  generalize headW s.data.toList = H at *
  generalize lastW s.data.toList = T at *
  rw [← e]
  simp
theorem tells_four (l : List UInt8) (hl : l.length ≤ 4000) : Tells 27 #[.string (str l)] (p4V l) := fun w hw => by
  have := t_parse4 (str l) (by rw [str_size]; exact hl) w hw
  rwa [str_list] at this
theorem head_le (s : ByteArray) : (headW s.data.toList).length ≤ s.size := by
  have e := congrArg List.length (head_last s.data.toList).1
  rw [List.length_append, len_list] at e
  omega
theorem last_le (s : ByteArray) : (str (lastW s.data.toList)).size ≤ s.size := by
  have e := congrArg List.length (head_last s.data.toList).1
  rw [List.length_append, len_list] at e
  rw [str_size]; omega
def two8 (a b : Int) : List UInt8 := [UInt8.ofNat a.toNat, UInt8.ofNat b.toNat]
theorem hex_two {a b : Int} (ha : Byte a) (hb : Byte b) : hexL (two8 a b) = h4 a b := by
  unfold Byte at *
  have e : ∀ x : Int, 0 ≤ x → x ≤ 255 → (UInt8.ofNat x.toNat).toNat = x.toNat := fun x h0 h1 => by simp only [UInt8.toNat_ofNat']; omega
  unfold hexL two8 h4
  simp only [List.flatMap_cons, List.flatMap_nil, e a ha.1 ha.2, e b hb.1 hb.2, List.append_nil]
  rfl
theorem bytes_two {w : World} {g o c : Nat} {a b : Int} (ha : Byte a) (hb : Byte b) (hg : g < w.heap.size) (h1 : w.cell? ⟨g, o, none⟩ = some (.int .u8 a)) (h2 : w.cell? ⟨g, o + 1, none⟩ = some (.int .u8 b)) : Bytes w (.slice (some ⟨g, o, none⟩) 2 c) (two8 a b) := by
  unfold Byte at *
  refine ⟨_, c, rfl, Or.inr ⟨g, o, rfl, hg, fun j hj => ?_⟩⟩
  have hj' : j = 0 ∨ j = 1 := by simp [two8] at hj; omega
  rcases hj' with rfl | rfl
  · rw [Nat.add_zero, h1]
    simp only [two8, List.getElem_cons_zero, UInt8.toNat_ofNat']
    congr 2; omega
  · rw [h2]
    simp only [two8, List.getElem_cons_succ, List.getElem_cons_zero, UInt8.toNat_ofNat']
    congr 2; omega
/-- A row is stored into a variable that is new. -/
theorem st_new4 {b : List Int} (hl : b.length = 4) (W : World) : (Instr.storeAt 57 (.pointer (some ⟨W.heap.size, 0, none⟩)) (.agg (u8C b))).run Tryz.prog (W.alloc (.cells #[.int .u8 0, .int .u8 0, .int .u8 0, .int .u8 0] 57)) = .ok () ((W.alloc (.cells #[.int .u8 0, .int .u8 0, .int .u8 0, .int .u8 0] 57)).setRow W.heap.size (u8C b)) :=
  st_row 57 (Blk.new _ _ _ rfl) (by rw [inf4, u8C_size, hl]) (by rw [u8C_size, hl]; rfl) (u8C_ok _)
theorem blk_new4 {b : List Int} {w W : World} (h : Below w.heap.size w W) : Blk ((W.alloc (.cells #[.int .u8 0, .int .u8 0, .int .u8 0, .int .u8 0] 57)).setRow W.heap.size (u8C b)) W.heap.size 57 (u8C b) ∧ Below w.heap.size w ((W.alloc (.cells #[.int .u8 0, .int .u8 0, .int .u8 0, .int .u8 0] 57)).setRow W.heap.size (u8C b)) :=
  ⟨(Blk.new _ _ _ rfl).row _, below_setRow (h.alloc h.size _) h.size _⟩
set_option maxHeartbeats 2000000 in
theorem t_undot (s : ByteArray) (hs : s.size ≤ 1000) (w : World) (hw : Env5 w) : Calls Tryz.prog 51 #[.string s] w fun e w' => e = .returned (.string (str (und6 s.data.toList))) ∧ Below w.heap.size w w' := by
  have G := Lib.hid hw
  have LI := Lib.hid (fun w => c_last s (by omega) w)
  have P4 := Lib.hid (tells_four (lastW s.data.toList) (by have := last_le s; rw [str_size] at this; omega))
  have x1 := ext_head s
  have x2 := ext_last s
  have x3 := head_le s
  obtain ⟨r, hr⟩ : ∃ r, r = str (und6 s.data.toList) := ⟨_, rfl⟩
  rw [← hr]
  cases hp : p4 (lastW s.data.toList) with
  | none =>
    have E := Lib.hid (show r = s by rw [hr]; unfold und6; rw [hp]; exact str_eq5 s)
    have P4 := Lib.hid (P4.out.as rfl (p4V_none hp))
    generalize str (headW s.data.toList) = sh at *
    generalize str (lastW s.data.toList) = sl at *
    generalize (headW s.data.toList).length = n at *
    clear hw hr
    go_enter Tryz.func51, Tryz.ntmps51
    go_upto_region 2 with (go_at_call 33; refine (LI.out _).mono ?_; rintro q w1 ⟨rfl, hb⟩; have S1 := Lib.hid hb; clear hb)
    go_wp2_with (first
      | (go_at_call 27; refine (P4.out _ (G.out.below S1.out)).mono ?_; rintro q w2 ⟨rfl, hb⟩; have S2 := Lib.hid (S1.out.trans (hb.mono S1.out.size)); clear hb)
      | (refine wl_store rfl _ _ _ rfl _ rfl _ rfl _ (st_new4 (b := n4) rfl _) ?_; have S3 := Lib.hid (blk_new4 (b := n4) S2.out).2))
    rw [E.out]
    go_ret
    exact ⟨rfl, S3.out⟩
  | some b =>
    obtain ⟨hl, hb, _⟩ := p4_some hp
    have P4 := Lib.hid (P4.out.as rfl (p4V_some hp))
    have E := Lib.hid (show r = str (headW s.data.toList ++ h8 b) by rw [hr]; unfold und6; rw [hp])
    match b, hl, hb, P4, E with
    | [a, b, c, d], hl, hb, P4, E =>
      have ha := hb a (by simp)
      have hb' := hb b (by simp)
      have hc := hb c (by simp)
      have hd := hb d (by simp)
      have E2 := Lib.hid (show r = str (headW s.data.toList) ++ str (h4 a b) ++ ⟨#[58]⟩ ++ str (h4 c d) by rw [E.out]; exact bytes_eq (by simp [str, h8]))
      have X1 := Lib.hid (fun g cp W (h : Blk W g 57 (u8C [a, b, c, d])) => t_hex (two8 a b) (by simp [two8]) (.slice (some ⟨g, 0, none⟩) 2 cp) W (bytes_two ha hb' h.lt (h.cell rfl) (h.cell rfl)))
      have X2 := Lib.hid (fun g cp W (h : Blk W g 57 (u8C [a, b, c, d])) => t_hex (two8 c d) (by simp [two8]) (.slice (some ⟨g, 2, none⟩) 2 cp) W (bytes_two hc hd h.lt (h.cell rfl) (h.cell rfl)))
      rw [hex_two ha hb'] at X1
      rw [hex_two hc hd] at X2
      have k1 : (str (h4 a b)).size = 4 := by rw [str_size]; rfl
      have k2 : (str (h4 c d)).size = 4 := by rw [str_size]; rfl
      have k3 : (str (headW s.data.toList)).size ≤ 1000 := by rw [str_size]; omega
      rw [show (⟨(h4 a b).toArray⟩ : ByteArray) = str (h4 a b) from rfl] at X1
      rw [show (⟨(h4 c d).toArray⟩ : ByteArray) = str (h4 c d) from rfl] at X2
      generalize str (h4 a b) = s1 at *
      generalize str (h4 c d) = s2 at *
      generalize str (headW s.data.toList) = sh at *
      generalize str (lastW s.data.toList) = sl at *
      generalize (headW s.data.toList).length = n at *
      have hl4 : [a, b, c, d].length = 4 := rfl
      clear hw hr hb ha hb' hc hd hp hl
      generalize [a, b, c, d] = B at *
      go_enter Tryz.func51, Tryz.ntmps51
      go_upto_region 2 with (go_at_call 33; refine (LI.out _).mono ?_; rintro q w1 ⟨rfl, hb⟩; have S1 := Lib.hid hb; clear hb)
      go_upto_region 5 with (first
        | (go_at_call 27; refine (P4.out _ (G.out.below S1.out)).mono ?_; rintro q w2 ⟨rfl, hb⟩; have S2 := Lib.hid (S1.out.trans (hb.mono S1.out.size)); clear hb)
        | (refine wl_store rfl _ _ _ rfl _ rfl (.agg (u8C B)) rfl _ (st_new4 (b := B) hl4 w2) ?_; have S3 := Lib.hid (blk_new4 (b := B) S2.out)))
      generalize (w2.alloc (.cells #[.int .u8 0, .int .u8 0, .int .u8 0, .int .u8 0] 57)).setRow w2.heap.size (u8C B) = w3 at *
      have Y1 := Lib.hid (fun d os => Calls.regrown_of (X1.out w2.heap.size 4 (grow (redrawn w3 d) os) (S3.out.1.on (below_quiet d os))))
      have Y2 := Lib.hid (fun d os => Calls.regrown_of (X2.out w2.heap.size 2 (grow (redrawn w3 d) os) (S3.out.1.on (below_quiet d os))))
      clear X1 X2
      refine wp_region_quiet_below (by kernel_rfl) (by kernel_rfl) ?_
      repeat (go_big_quiet_step (first | (with_reducible exact (Y1.out _ _)) | (with_reducible exact (Y2.out _ _))))
      (refine wpQuiet_nil ?_; intro _ hw'; obtain ⟨⟨dq, osq⟩, hw''⟩ := hw'; subst hw'')
      go_wp2
      go_ret
      exact ⟨by rw [E2.out]; rfl, S3.out.2.trans ((below_quiet dq osq).mono S3.out.2.size)⟩
end Go.Proofs.YthghanidabmfgaaGreatDoor
