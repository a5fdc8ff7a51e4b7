/-
  Plain lemmas: the ends that a text tells.
  ParseEnds.
-/
import Derived.Test.YthghanidabmfgaaGreatDoorPrint6
import Derived.Test.YthghanidabmfgaaGreatDoorLong5
import Derived.Test.YthghanidabmfgaaGreatDoorRNumb5
import Derived.Test.YthghanidabmfgaaGreatDoorKnown5
namespace Go.Proofs.YthghanidabmfgaaGreatDoor
open Go.Lib
def strip (l : List UInt8) : List UInt8 := trimSuffix (trimPrefix l [91]) [93]
def strip2 (t : List UInt8) : List UInt8 := if 1 < t.length ∧ t.head? = some 91 ∧ t.getLast? = some 93 then (t.take (t.length - 1)).drop 1 else t
/-- The ends whose text this is. -/
def endsQ (l : List UInt8) : Option Int → Option (Bool × List Int) → Option (Bool × List Int × Int)
  | some p, some (v, b) => if te v b p = l then some (v, b, p) else none
  | _, _ => none
def endsA (l : List UInt8) : Option (Bool × List Int × Int) := if headW l = [] then none else endsQ l (num? 0 65535 (lastW l)) (parseA (strip (headW l).dropLast))
theorem endsA_some {l : List UInt8} {v : Bool} {b : List Int} {p : Int} (h : endsA l = some (v, b, p)) : IsA b ∧ mayB v b = true ∧ (0 ≤ p ∧ p ≤ 65535) ∧ te v b p = l := by
  unfold endsA at h
  split at h
  · cases h
  · cases hq : num? 0 65535 (lastW l) with
    | none => rw [hq] at h; cases h
    | some q =>
      cases hp : parseA (strip (headW l).dropLast) with
      | none => rw [hq, hp] at h; cases h
      | some a =>
        obtain ⟨v', b'⟩ := a
        rw [hq, hp] at h
        simp only [endsQ] at h
        split at h
        · rename_i c
          simp only [Option.some.injEq, Prod.mk.injEq] at h
          obtain ⟨rfl, rfl, rfl⟩ := h
          obtain ⟨h1, h2⟩ := parse_is hp
          exact ⟨h1, h2, (num?_some hq).2, c⟩
        · cases h
/-- What stands ahead of the last colon. -/
def front (v : Bool) (b : List Int) : List UInt8 := if v then 91 :: (tx v b ++ [93]) else tx v b
theorem te_front (v : Bool) (b : List Int) (p : Int) : te v b p = front v b ++ 58 :: itoa p := rfl
theorem te_last (v : Bool) (b : List Int) {p : Int} (hp : 0 ≤ p) : lastW (te v b p) = itoa p := by
  rw [te_front, last_append, last_free (itoa_free hp (by decide))]
theorem te_head (v : Bool) (b : List Int) {p : Int} (hp : 0 ≤ p) : headW (te v b p) = front v b ++ [58] := by
  unfold headW
  rw [te_last v b hp, te_front, show front v b ++ 58 :: itoa p = (front v b ++ [58]) ++ itoa p by simp, List.length_append, Nat.add_sub_cancel, List.take_left]
theorem tx_okc {v : Bool} {b : List Int} (h : IsA b) (m : mayB v b = true) : ∀ c ∈ tx v b, c ≠ 91 ∧ c ≠ 93 := by
  intro c hc
  rcases parse_okc (parse_tx h m) c hc with q | rfl | rfl
  · have := isHex_not q
    exact ⟨this.2.2.1, this.2.2.2.1⟩
  · exact ⟨by decide, by decide⟩
  · exact ⟨by decide, by decide⟩
theorem strip_in (x : List UInt8) : strip (91 :: (x ++ [93])) = x := by
  unfold strip
  have e1 : trimPrefix (91 :: (x ++ [93])) [91] = x ++ [93] := by
    unfold trimPrefix hasPrefix
    rw [if_pos (by simp [List.isPrefixOf])]
    rfl
  rw [e1]
  unfold trimSuffix hasSuffix
  rw [if_pos (by simp)]
  simp
theorem strip_free {x : List UInt8} (h : ∀ c ∈ x, c ≠ 91 ∧ c ≠ 93) : strip x = x := by
  unfold strip
  have e1 : trimPrefix x [91] = x := by
    unfold trimPrefix hasPrefix
    cases x with
    | nil => rfl
    | cons c r =>
      rw [if_neg]
      have := (h c (by simp)).1
      simp [List.isPrefixOf]
      exact fun e => this e.symm
  rw [e1]
  unfold trimSuffix hasSuffix
  rw [if_neg]
  intro e
  have e' : [93] <:+ x := by simpa using e
  obtain ⟨t, ht⟩ := e'
  have : (93 : UInt8) ∈ x := by rw [← ht]; simp
  exact (h 93 this).2 rfl
theorem strip_front {v : Bool} {b : List Int} (h : IsA b) (m : mayB v b = true) : strip (front v b) = tx v b := by
  cases v
  · exact strip_free (tx_okc h m)
  · exact strip_in _
theorem strip2_front {v : Bool} {b : List Int} (h : IsA b) (m : mayB v b = true) : strip2 (front v b) = tx v b := by
  cases v
  · unfold strip2
    rw [if_neg]
    · rfl
    · rintro ⟨_, e, _⟩
      exact (tx_okc h m 91 (List.mem_of_mem_head? e)).1 rfl
  · show strip2 (91 :: (tx true b ++ [93])) = _
    unfold strip2
    rw [if_pos ⟨by simp, rfl, by simp [List.getLast?_cons]⟩]
    simp
theorem num_itoa {p : Int} (hp : 0 ≤ p ∧ p ≤ 65535) : num? 0 65535 (itoa p) = some p := num?_itoa hp
theorem ends_te {v : Bool} {b : List Int} {p : Int} (h : IsA b) (m : mayB v b = true) (hp : 0 ≤ p ∧ p ≤ 65535) : endsA (te v b p) = some (v, b, p) := by
  unfold endsA
  rw [te_head v b hp.1, te_last v b hp.1, if_neg (by simp), num_itoa hp, List.dropLast_concat, strip_front h m, parse_tx h m]
  exact if_pos rfl
/-- Where the ends' text has its last colon. -/
theorem te_at (v : Bool) (b : List Int) (p : Int) : (te v b p)[(front v b).length]? = some 58 ∧ (te v b p).drop ((front v b).length + 1) = itoa p ∧ (te v b p).take (front v b).length = front v b := by
  rw [te_front]
  refine ⟨by simp, ?_, by simp⟩
  rw [← List.drop_drop]
  simp
theorem ends_none {l : List UInt8} (h : ∀ v b p, IsA b → mayB v b = true → 0 ≤ p ∧ p ≤ 65535 → te v b p ≠ l) : endsA l = none := by
  cases e : endsA l with
  | none => rfl
  | some q =>
    obtain ⟨v, b, p⟩ := q
    obtain ⟨h1, h2, h3, h4⟩ := endsA_some e
    exact absurd h4 (h v b p h1 h2 h3)
end Go.Proofs.YthghanidabmfgaaGreatDoor
namespace Go.Proofs.YthghanidabmfgaaGreatDoor
open Go.RowKit Go.Sort Go.Lib
set_option maxRecDepth 8000
/-- What ParseEnds answers. -/
def peV (l : List UInt8) : Value := match endsA l with
  | some (v, b, p) => .tuple #[.agg (enC v b p), .int .i64 0]
  | none => .tuple #[.agg (enC false n16 0), .int .i64 9]
theorem peV_none {l : List UInt8} (h : endsA l = none) : peV l = .tuple #[.agg (enC false n16 0), .int .i64 9] := by unfold peV; rw [h]
theorem peV_some {l : List UInt8} {v : Bool} {b : List Int} {p : Int} (h : endsA l = some (v, b, p)) : peV l = .tuple #[.agg (enC v b p), .int .i64 0] := by unfold peV; rw [h]
theorem num65535 (x : List UInt8) : (∃ n, num? 0 65535 x = some n ∧ 0 ≤ n ∧ n ≤ 65535 ∧ undU x = .tuple #[.int .u64 n, .bool true]) ∨ (∃ n, num? 0 65535 x = none ∧ 65535 < n ∧ n ≤ 18446744073709551615 ∧ undU x = .tuple #[.int .u64 n, .bool true]) ∨ (num? 0 65535 x = none ∧ undU x = .tuple #[.int .u64 0, .bool false]) := by
  have W := num?_within (lo := 0) (hi := 18446744073709551615) (lo' := 0) (hi' := 65535) (by omega) (by omega) x
  cases h : numU x with
  | none =>
    have h' : num? 0 18446744073709551615 x = none := h
    rw [h'] at W
    right; right
    exact ⟨W, by unfold undU; rw [h]; rfl⟩
  | some n =>
    have h' : num? 0 18446744073709551615 x = some n := h
    rw [h'] at W
    have b := (num?_some h').2
    by_cases c : n ≤ 65535
    · left; exact ⟨n, by rw [W]; simp [b.1, c], b.1, c, by unfold undU; rw [h]; rfl⟩
    · right; left; exact ⟨n, by rw [W]; simp; omega, by omega, b.2, by unfold undU; rw [h]; rfl⟩
theorem st_ends {w : World} {g : Nat} {t : TypeId} {old : Array Value} {v : Bool} {b : List Int} {p : Int} (h : Blk w g t old) (ho : old.size = 18) (hl : b.length = 16) : (Instr.storeAt 32 (.pointer (some ⟨g, 0, none⟩)) (.agg (enC v b p))).run Tryz.prog w = .ok () (w.setRow g (enC v b p)) :=
  st_row 32 h (by rw [infE, enC_size, hl]) (by rw [ho, enC_size, hl]) (all_oneCell_toArray (enL_one _ _ _))
theorem st_newE {v : Bool} {b : List Int} {p : Int} (hl : b.length = 16) (W : World) : (Instr.storeAt 32 (.pointer (some ⟨W.heap.size, 0, none⟩)) (.agg (enC v b p))).run Tryz.prog (W.alloc (.cells #[.bool false, .int .u8 0, .int .u8 0, .int .u8 0, .int .u8 0, .int .u8 0, .int .u8 0, .int .u8 0, .int .u8 0, .int .u8 0, .int .u8 0, .int .u8 0, .int .u8 0, .int .u8 0, .int .u8 0, .int .u8 0, .int .u8 0, .int .u16 0] 32)) = .ok () ((W.alloc (.cells #[.bool false, .int .u8 0, .int .u8 0, .int .u8 0, .int .u8 0, .int .u8 0, .int .u8 0, .int .u8 0, .int .u8 0, .int .u8 0, .int .u8 0, .int .u8 0, .int .u8 0, .int .u8 0, .int .u8 0, .int .u8 0, .int .u8 0, .int .u16 0] 32)).setRow W.heap.size (enC v b p)) :=
  st_ends (Blk.new _ _ _ rfl) rfl hl
/-- The result's variable, empty. -/
def Res (w wr : World) : Prop := Blk wr w.heap.size 32 (enC false n16 0) ∧ Below w.heap.size w wr
theorem Res.on {w w1 w2 : World} (h : Res w w1) (hb : Below w1.heap.size w1 w2) : Res w w2 := ⟨h.1.on hb, h.2.trans (hb.mono h.2.size)⟩
theorem Res.newRow {w W : World} (h : Res w W) (T : TypeId) (zs cs : Array Value) : Res w ((W.alloc (.cells zs T)).setRow W.heap.size cs) := ⟨new_old _ _ _ h.1, (new_row T zs cs h.2).2⟩
theorem Res.store {w wr : World} (h : Res w wr) {v : Bool} {b : List Int} {p : Int} (hl : b.length = 16) : (Instr.storeAt 32 (.pointer (some ⟨w.heap.size, 0, none⟩)) (.agg (enC v b p))).run Tryz.prog wr = .ok () (wr.setRow w.heap.size (enC v b p)) :=
  st_ends h.1 (by rw [enC_size]; rfl) hl
theorem Res.put {w wr : World} (h : Res w wr) (v : Bool) (b : List Int) (p : Int) : Blk (wr.setRow w.heap.size (enC v b p)) w.heap.size 32 (enC v b p) ∧ Below w.heap.size w (wr.setRow w.heap.size (enC v b p)) :=
  ⟨h.1.row _, below_setRow h.2 (Nat.le_refl _) _⟩
theorem drop_last_str {H : List UInt8} : (str H.dropLast).size = H.length - 1 := by rw [str_size, List.length_dropLast]
theorem ext_dropLast (s : ByteArray) : s.extract 0 ((headW s.data.toList).length - 1) = str (headW s.data.toList).dropLast := by
  refine bytes_eq ?_
  have e := (head_last s.data.toList).1
  rw [str_list, show (s.extract 0 ((headW s.data.toList).length - 1)).data.toList = (s.data.toList.take ((headW s.data.toList).length - 1)).drop 0 by simp]
  generalize headW s.data.toList = H at *
  rw [← e, List.drop_zero, List.take_append_of_le_length (by omega), List.dropLast_eq_take]
set_option maxHeartbeats 4000000 in
theorem t_parseEnds (s : ByteArray) (hs : s.size ≤ 2000) (w : World) (hw : Env5 w) : Calls Tryz.prog 17 #[.string s] w fun e w' => e = .returned (peV s.data.toList) ∧ Below w.heap.size w w' := by
  have G := Lib.hid hw
  have R0 : Hid (Res w (w.alloc (.cells #[.bool false, .int .u8 0, .int .u8 0, .int .u8 0, .int .u8 0, .int .u8 0, .int .u8 0, .int .u8 0, .int .u8 0, .int .u8 0, .int .u8 0, .int .u8 0, .int .u8 0, .int .u8 0, .int .u8 0, .int .u8 0, .int .u8 0, .int .u16 0] 32))) := Lib.hid ⟨Blk.new _ _ _ rfl, below_alloc _ _⟩
  have LI := Lib.hid (fun w => c_last s (by omega) w)
  have x1 := ext_last s
  have x2 := ext_dropLast s
  have x3 := head_le s
  have x4 := last_le s
  have I0 := Lib.hid (show (Tryz.prog.info? 32).map (·.size) = some (enC false n16 0).size by rw [infE, enC_size]; rfl)
  clear hw
  by_cases h0 : headW s.data.toList = []
  · have N := Lib.hid (show endsA s.data.toList = none by unfold endsA; rw [if_pos h0])
    rw [h0] at LI
    clear h0
    go_enter Tryz.func17, Tryz.ntmps17
    go_upto_region 1 with fail
    generalize w.alloc (.cells #[.bool false, .int .u8 0, .int .u8 0, .int .u8 0, .int .u8 0, .int .u8 0, .int .u8 0, .int .u8 0, .int .u8 0, .int .u8 0, .int .u8 0, .int .u8 0, .int .u8 0, .int .u8 0, .int .u8 0, .int .u8 0, .int .u8 0, .int .u16 0] 32) = w1 at *
    go_upto_region 2 with (go_at_call 33; refine (LI.out _).mono ?_; rintro q w2 ⟨rfl, hb⟩; have R2 := Lib.hid (R0.out.on hb); clear hb)
    have s2 : (Instr.storeAt 32 (.pointer (some ⟨w.heap.size, 0, none⟩)) (.agg #[.bool false, .int .u8 0, .int .u8 0, .int .u8 0, .int .u8 0, .int .u8 0, .int .u8 0, .int .u8 0, .int .u8 0, .int .u8 0, .int .u8 0, .int .u8 0, .int .u8 0, .int .u8 0, .int .u8 0, .int .u8 0, .int .u8 0, .int .u16 0])).run Tryz.prog w2 = .ok () (w2.setRow w.heap.size (enC false n16 0)) := R2.out.store (v := false) (b := n16) (p := 0) rfl
    go_wp2_with (refine wl_store rfl _ _ _ rfl _ rfl (.agg #[.bool false, .int .u8 0, .int .u8 0, .int .u8 0, .int .u8 0, .int .u8 0, .int .u8 0, .int .u8 0, .int .u8 0, .int .u8 0, .int .u8 0, .int .u8 0, .int .u8 0, .int .u8 0, .int .u8 0, .int .u8 0, .int .u8 0, .int .u16 0]) rfl _ s2 ?_)
    exact bodyPost_ret (res_pair (p := 2) (q := 3) rfl _ _ w.heap.size 32 (enC false n16 0) (.int .i64 9) _ rfl rfl (R2.out.put false n16 0).1 Tryz.underlying32 rfl I0.out) rfl ⟨by rw [peV_none N.out], (R2.out.put false n16 0).2⟩
  · obtain ⟨n, hn⟩ : ∃ n, (headW s.data.toList).length = n + 1 := ⟨(headW s.data.toList).length - 1, by have := List.length_pos_iff.2 h0; omega⟩
    have U := Lib.hid ((t_ununsigned (str (lastW s.data.toList))).tells)
    rw [str_list] at U
    have TP := Lib.hid (fun w => c_trimP 91 (str (headW s.data.toList).dropLast) w)
    rw [str_list] at TP
    have tl := trimPrefix_le (headW s.data.toList).dropLast [91]
    have ts := trimSuffix_le (trimPrefix (headW s.data.toList).dropLast [91]) [93]
    have dl : (headW s.data.toList).dropLast.length ≤ 2000 := by rw [List.length_dropLast]; omega
    have TS := Lib.hid (fun w => c_trimS 93 (str (trimPrefix (headW s.data.toList).dropLast [91])) (by rw [str_size]; omega) w)
    rw [str_list, show trimSuffix (trimPrefix (headW s.data.toList).dropLast [91]) [93] = strip (headW s.data.toList).dropLast from rfl] at TS
    have P := Lib.hid (tells_parse (strip (headW s.data.toList).dropLast) (show (trimSuffix (trimPrefix (headW s.data.toList).dropLast [91]) [93]).length ≤ 4000 by omega))
    have EN : Hid (endsA s.data.toList = endsQ s.data.toList (num? 0 65535 (lastW s.data.toList)) (parseA (strip (headW s.data.toList).dropLast))) := Lib.hid (by unfold endsA; rw [if_neg h0])
    have NC := num65535 (lastW s.data.toList)
    rw [hn, show (((n + 1 : Nat) : Int) - 1) = (n : Int) by omega] at LI
    rw [hn] at x1
    rw [hn, Nat.add_sub_cancel] at x2
    rw [hn] at x3
    clear h0 hn tl ts dl
    generalize str (headW s.data.toList).dropLast = sh at *
    generalize str (trimPrefix (headW s.data.toList).dropLast [91]) = st at *
    generalize strip (headW s.data.toList).dropLast = lt at *
    generalize hsl : str (lastW s.data.toList) = sl at *
    rcases NC with ⟨p, hp, p0, p1, hu⟩ | ⟨p, hp, p0, p1, hu⟩ | ⟨hp, hu⟩
    · rw [hu] at U
      rw [hp] at EN
      cases ha : parseA lt with
      | none =>
        rw [ha] at EN
        have P := Lib.hid (P.out.as rfl (paV_none ha))
        have N := Lib.hid (show endsA s.data.toList = none from EN.out)
        generalize str lt = sp at *
        clear ha EN hp hu hsl
        go_enter Tryz.func17, Tryz.ntmps17
        go_upto_region 1 with fail
        generalize w.alloc (.cells #[.bool false, .int .u8 0, .int .u8 0, .int .u8 0, .int .u8 0, .int .u8 0, .int .u8 0, .int .u8 0, .int .u8 0, .int .u8 0, .int .u8 0, .int .u8 0, .int .u8 0, .int .u8 0, .int .u8 0, .int .u8 0, .int .u8 0, .int .u16 0] 32) = w1 at *
        go_upto_region 2 with (go_at_call 33; refine (LI.out _).mono ?_; rintro q w2 ⟨rfl, hb⟩; have R2 := Lib.hid (R0.out.on hb); clear hb)
        go_upto_region 5 with (go_at_call 34; refine (U.out _ (G.out.below R2.out.2)).mono ?_; rintro q w3 ⟨rfl, hb⟩; have R3 := Lib.hid (R2.out.on hb); clear hb)
        go_upto_region 8 with (first
          | (go_at_call 36; refine (TP.out _).mono ?_; rintro q w4 ⟨rfl, hb⟩; have R4 := Lib.hid (R3.out.on hb); clear hb)
          | (go_at_call 35; refine (TS.out _).mono ?_; rintro q w5 ⟨rfl, hb⟩; have R5 := Lib.hid (R4.out.on hb); clear hb)
          | (go_at_call 15; refine (P.out _ (G.out.below R5.out.2)).mono ?_; rintro q w6 ⟨rfl, hb⟩; have R6 := Lib.hid (R5.out.on hb); clear hb)
          | (refine wl_store rfl _ _ _ rfl _ rfl (.agg (adC false n16)) rfl _ (st_newA (v := false) (b := n16) rfl w6) ?_))
        have R7 := Lib.hid (R6.out.newRow 24 #[.bool false, .int .u8 0, .int .u8 0, .int .u8 0, .int .u8 0, .int .u8 0, .int .u8 0, .int .u8 0, .int .u8 0, .int .u8 0, .int .u8 0, .int .u8 0, .int .u8 0, .int .u8 0, .int .u8 0, .int .u8 0, .int .u8 0] (adC false n16))
        generalize (w6.alloc (.cells #[.bool false, .int .u8 0, .int .u8 0, .int .u8 0, .int .u8 0, .int .u8 0, .int .u8 0, .int .u8 0, .int .u8 0, .int .u8 0, .int .u8 0, .int .u8 0, .int .u8 0, .int .u8 0, .int .u8 0, .int .u8 0, .int .u8 0] 24)).setRow w6.heap.size (adC false n16) = w7 at *
        have s2 : (Instr.storeAt 32 (.pointer (some ⟨w.heap.size, 0, none⟩)) (.agg #[.bool false, .int .u8 0, .int .u8 0, .int .u8 0, .int .u8 0, .int .u8 0, .int .u8 0, .int .u8 0, .int .u8 0, .int .u8 0, .int .u8 0, .int .u8 0, .int .u8 0, .int .u8 0, .int .u8 0, .int .u8 0, .int .u8 0, .int .u16 0])).run Tryz.prog w7 = .ok () (w7.setRow w.heap.size (enC false n16 0)) := R7.out.store (v := false) (b := n16) (p := 0) rfl
        clear R2 R3 R4 R5 R6 U TP TS P
        go_wp2_with (refine wl_store rfl _ _ _ rfl _ rfl (.agg #[.bool false, .int .u8 0, .int .u8 0, .int .u8 0, .int .u8 0, .int .u8 0, .int .u8 0, .int .u8 0, .int .u8 0, .int .u8 0, .int .u8 0, .int .u8 0, .int .u8 0, .int .u8 0, .int .u8 0, .int .u8 0, .int .u8 0, .int .u16 0]) rfl _ s2 ?_)
        exact bodyPost_ret (res_pair (p := 2) (q := 3) rfl _ _ w.heap.size 32 (enC false n16 0) (.int .i64 9) _ rfl rfl (R7.out.put false n16 0).1 Tryz.underlying32 rfl I0.out) rfl ⟨by rw [peV_none N.out], (R7.out.put false n16 0).2⟩
      | some ab =>
        obtain ⟨v, b⟩ := ab
        rw [ha] at EN
        simp only [endsQ] at EN
        obtain ⟨hA, hM⟩ := parse_is ha
        have P := Lib.hid (P.out.as rfl (paV_some ha))
        have bl := hA.1
        have E := Lib.hid (fun w hw => t_ends v b p hA ⟨p0, p1⟩ w hw)
        rw [enV_ok hM] at E
        generalize str lt = sp at *
        clear ha hp hu hsl hA hM
        by_cases hT : te v b p = s.data.toList
        · rw [if_pos hT] at EN
          have N := Lib.hid EN.out
          have k : ((str (te v b p)).toList == s.toList) = true := by rw [hT, str_eq5]; simp
          generalize str (te v b p) = q5 at *
          clear hT EN
          go_enter Tryz.func17, Tryz.ntmps17
          go_upto_region 1 with fail
          generalize w.alloc (.cells #[.bool false, .int .u8 0, .int .u8 0, .int .u8 0, .int .u8 0, .int .u8 0, .int .u8 0, .int .u8 0, .int .u8 0, .int .u8 0, .int .u8 0, .int .u8 0, .int .u8 0, .int .u8 0, .int .u8 0, .int .u8 0, .int .u8 0, .int .u16 0] 32) = w1 at *
          go_upto_region 2 with (go_at_call 33; refine (LI.out _).mono ?_; rintro q w2 ⟨rfl, hb⟩; have R2 := Lib.hid (R0.out.on hb); clear hb)
          go_upto_region 5 with (go_at_call 34; refine (U.out _ (G.out.below R2.out.2)).mono ?_; rintro q w3 ⟨rfl, hb⟩; have R3 := Lib.hid (R2.out.on hb); clear hb)
          go_upto_region 8 with (first
            | (go_at_call 36; refine (TP.out _).mono ?_; rintro q w4 ⟨rfl, hb⟩; have R4 := Lib.hid (R3.out.on hb); clear hb)
            | (go_at_call 35; refine (TS.out _).mono ?_; rintro q w5 ⟨rfl, hb⟩; have R5 := Lib.hid (R4.out.on hb); clear hb)
            | (go_at_call 15; refine (P.out _ (G.out.below R5.out.2)).mono ?_; rintro q w6 ⟨rfl, hb⟩; have R6 := Lib.hid (R5.out.on hb); clear hb)
            | (refine wl_store rfl _ _ _ rfl _ rfl (.agg (adC v b)) rfl _ (st_newA (v := v) (b := b) bl w6) ?_))
          have R7 := Lib.hid (show Res w ((w6.alloc (.cells #[.bool false, .int .u8 0, .int .u8 0, .int .u8 0, .int .u8 0, .int .u8 0, .int .u8 0, .int .u8 0, .int .u8 0, .int .u8 0, .int .u8 0, .int .u8 0, .int .u8 0, .int .u8 0, .int .u8 0, .int .u8 0, .int .u8 0] 24)).setRow w6.heap.size (adC v b)) ∧ Blk ((w6.alloc (.cells #[.bool false, .int .u8 0, .int .u8 0, .int .u8 0, .int .u8 0, .int .u8 0, .int .u8 0, .int .u8 0, .int .u8 0, .int .u8 0, .int .u8 0, .int .u8 0, .int .u8 0, .int .u8 0, .int .u8 0, .int .u8 0, .int .u8 0] 24)).setRow w6.heap.size (adC v b)) w6.heap.size 24 (adC v b) from ⟨R6.out.newRow _ _ _, (new_row _ _ _ R6.out.2).1⟩)
          generalize (w6.alloc (.cells #[.bool false, .int .u8 0, .int .u8 0, .int .u8 0, .int .u8 0, .int .u8 0, .int .u8 0, .int .u8 0, .int .u8 0, .int .u8 0, .int .u8 0, .int .u8 0, .int .u8 0, .int .u8 0, .int .u8 0, .int .u8 0, .int .u8 0] 24)).setRow w6.heap.size (adC v b) = w7 at *
          generalize w6.heap.size = g7 at *
          clear R2 R3 R4 R5 R6 U TP TS P
          have d7 := ld_addr bl R7.out.2
          go_upto_region 11 with (first
            | (refine wl_load rfl _ _ rfl _ rfl _ d7 ?_)
            | (refine wl_build rfl _ _ rfl [(0, .agg (adC v b)), (1, .int .u16 p)] rfl _ (built_ends (v := v) (p := p) bl) ?_)
            | (refine wl_store rfl _ _ _ rfl _ rfl (.agg (enC v b p)) rfl _ (st_newE (v := v) (b := b) (p := p) bl w7) ?_))
          have R8 := Lib.hid (show Res w ((w7.alloc (.cells #[.bool false, .int .u8 0, .int .u8 0, .int .u8 0, .int .u8 0, .int .u8 0, .int .u8 0, .int .u8 0, .int .u8 0, .int .u8 0, .int .u8 0, .int .u8 0, .int .u8 0, .int .u8 0, .int .u8 0, .int .u8 0, .int .u8 0, .int .u16 0] 32)).setRow w7.heap.size (enC v b p)) ∧ Blk ((w7.alloc (.cells #[.bool false, .int .u8 0, .int .u8 0, .int .u8 0, .int .u8 0, .int .u8 0, .int .u8 0, .int .u8 0, .int .u8 0, .int .u8 0, .int .u8 0, .int .u8 0, .int .u8 0, .int .u8 0, .int .u8 0, .int .u8 0, .int .u8 0, .int .u16 0] 32)).setRow w7.heap.size (enC v b p)) w7.heap.size 32 (enC v b p) from ⟨R7.out.1.newRow _ _ _, (new_row _ _ _ R7.out.1.2).1⟩)
          generalize (w7.alloc (.cells #[.bool false, .int .u8 0, .int .u8 0, .int .u8 0, .int .u8 0, .int .u8 0, .int .u8 0, .int .u8 0, .int .u8 0, .int .u8 0, .int .u8 0, .int .u8 0, .int .u8 0, .int .u8 0, .int .u8 0, .int .u8 0, .int .u8 0, .int .u16 0] 32)).setRow w7.heap.size (enC v b p) = w8 at *
          generalize w7.heap.size = g8 at *
          clear R7 d7
          have d8 := ld_ends bl R8.out.2
          go_upto_region 12 with (first
            | (refine wl_load rfl _ _ rfl _ rfl _ d8 ?_)
            | (go_at_call 9; refine (E.out _ (G.out.below R8.out.1.2)).mono ?_; rintro q w9 ⟨rfl, hb⟩; have R9 := Lib.hid (show Res w w9 ∧ Blk w9 g8 32 (enC v b p) from ⟨R8.out.1.on hb, R8.out.2.on hb⟩); clear hb))
          clear R8 d8 E
          have d9 := ld_ends bl R9.out.2
          have s2 := R9.out.1.store (v := v) (b := b) (p := p) bl
          go_wp2_with (first | (refine wl_load rfl _ _ rfl _ rfl _ d9 ?_) | (refine wl_store rfl _ _ _ rfl _ rfl (.agg (enC v b p)) rfl _ s2 ?_))
          exact bodyPost_ret (res_pair (p := 2) (q := 3) rfl _ _ w.heap.size 32 (enC v b p) (.int .i64 0) _ rfl rfl (R9.out.1.put v b p).1 Tryz.underlying32 rfl (by rw [infE, enC_size, bl])) rfl ⟨by rw [peV_some N.out], (R9.out.1.put v b p).2⟩
        · rw [if_neg hT] at EN
          have N := Lib.hid EN.out
          have k : ((str (te v b p)).toList == s.toList) = false := by rw [ByteArray.toList_eq, ByteArray.toList_eq, str_list]; simpa using hT
          generalize str (te v b p) = q5 at *
          clear hT EN
          go_enter Tryz.func17, Tryz.ntmps17
          go_upto_region 1 with fail
          generalize w.alloc (.cells #[.bool false, .int .u8 0, .int .u8 0, .int .u8 0, .int .u8 0, .int .u8 0, .int .u8 0, .int .u8 0, .int .u8 0, .int .u8 0, .int .u8 0, .int .u8 0, .int .u8 0, .int .u8 0, .int .u8 0, .int .u8 0, .int .u8 0, .int .u16 0] 32) = w1 at *
          go_upto_region 2 with (go_at_call 33; refine (LI.out _).mono ?_; rintro q w2 ⟨rfl, hb⟩; have R2 := Lib.hid (R0.out.on hb); clear hb)
          go_upto_region 5 with (go_at_call 34; refine (U.out _ (G.out.below R2.out.2)).mono ?_; rintro q w3 ⟨rfl, hb⟩; have R3 := Lib.hid (R2.out.on hb); clear hb)
          go_upto_region 8 with (first
            | (go_at_call 36; refine (TP.out _).mono ?_; rintro q w4 ⟨rfl, hb⟩; have R4 := Lib.hid (R3.out.on hb); clear hb)
            | (go_at_call 35; refine (TS.out _).mono ?_; rintro q w5 ⟨rfl, hb⟩; have R5 := Lib.hid (R4.out.on hb); clear hb)
            | (go_at_call 15; refine (P.out _ (G.out.below R5.out.2)).mono ?_; rintro q w6 ⟨rfl, hb⟩; have R6 := Lib.hid (R5.out.on hb); clear hb)
            | (refine wl_store rfl _ _ _ rfl _ rfl (.agg (adC v b)) rfl _ (st_newA (v := v) (b := b) bl w6) ?_))
          have R7 := Lib.hid (show Res w ((w6.alloc (.cells #[.bool false, .int .u8 0, .int .u8 0, .int .u8 0, .int .u8 0, .int .u8 0, .int .u8 0, .int .u8 0, .int .u8 0, .int .u8 0, .int .u8 0, .int .u8 0, .int .u8 0, .int .u8 0, .int .u8 0, .int .u8 0, .int .u8 0] 24)).setRow w6.heap.size (adC v b)) ∧ Blk ((w6.alloc (.cells #[.bool false, .int .u8 0, .int .u8 0, .int .u8 0, .int .u8 0, .int .u8 0, .int .u8 0, .int .u8 0, .int .u8 0, .int .u8 0, .int .u8 0, .int .u8 0, .int .u8 0, .int .u8 0, .int .u8 0, .int .u8 0, .int .u8 0] 24)).setRow w6.heap.size (adC v b)) w6.heap.size 24 (adC v b) from ⟨R6.out.newRow _ _ _, (new_row _ _ _ R6.out.2).1⟩)
          generalize (w6.alloc (.cells #[.bool false, .int .u8 0, .int .u8 0, .int .u8 0, .int .u8 0, .int .u8 0, .int .u8 0, .int .u8 0, .int .u8 0, .int .u8 0, .int .u8 0, .int .u8 0, .int .u8 0, .int .u8 0, .int .u8 0, .int .u8 0, .int .u8 0] 24)).setRow w6.heap.size (adC v b) = w7 at *
          generalize w6.heap.size = g7 at *
          clear R2 R3 R4 R5 R6 U TP TS P
          have d7 := ld_addr bl R7.out.2
          go_upto_region 11 with (first
            | (refine wl_load rfl _ _ rfl _ rfl _ d7 ?_)
            | (refine wl_build rfl _ _ rfl [(0, .agg (adC v b)), (1, .int .u16 p)] rfl _ (built_ends (v := v) (p := p) bl) ?_)
            | (refine wl_store rfl _ _ _ rfl _ rfl (.agg (enC v b p)) rfl _ (st_newE (v := v) (b := b) (p := p) bl w7) ?_))
          have R8 := Lib.hid (show Res w ((w7.alloc (.cells #[.bool false, .int .u8 0, .int .u8 0, .int .u8 0, .int .u8 0, .int .u8 0, .int .u8 0, .int .u8 0, .int .u8 0, .int .u8 0, .int .u8 0, .int .u8 0, .int .u8 0, .int .u8 0, .int .u8 0, .int .u8 0, .int .u8 0, .int .u16 0] 32)).setRow w7.heap.size (enC v b p)) ∧ Blk ((w7.alloc (.cells #[.bool false, .int .u8 0, .int .u8 0, .int .u8 0, .int .u8 0, .int .u8 0, .int .u8 0, .int .u8 0, .int .u8 0, .int .u8 0, .int .u8 0, .int .u8 0, .int .u8 0, .int .u8 0, .int .u8 0, .int .u8 0, .int .u8 0, .int .u16 0] 32)).setRow w7.heap.size (enC v b p)) w7.heap.size 32 (enC v b p) from ⟨R7.out.1.newRow _ _ _, (new_row _ _ _ R7.out.1.2).1⟩)
          generalize (w7.alloc (.cells #[.bool false, .int .u8 0, .int .u8 0, .int .u8 0, .int .u8 0, .int .u8 0, .int .u8 0, .int .u8 0, .int .u8 0, .int .u8 0, .int .u8 0, .int .u8 0, .int .u8 0, .int .u8 0, .int .u8 0, .int .u8 0, .int .u8 0, .int .u16 0] 32)).setRow w7.heap.size (enC v b p) = w8 at *
          generalize w7.heap.size = g8 at *
          clear R7 d7
          have d8 := ld_ends bl R8.out.2
          go_upto_region 12 with (first
            | (refine wl_load rfl _ _ rfl _ rfl _ d8 ?_)
            | (go_at_call 9; refine (E.out _ (G.out.below R8.out.1.2)).mono ?_; rintro q w9 ⟨rfl, hb⟩; have R9 := Lib.hid (show Res w w9 ∧ Blk w9 g8 32 (enC v b p) from ⟨R8.out.1.on hb, R8.out.2.on hb⟩); clear hb))
          clear R8 d8 E
          have s2 : (Instr.storeAt 32 (.pointer (some ⟨w.heap.size, 0, none⟩)) (.agg #[.bool false, .int .u8 0, .int .u8 0, .int .u8 0, .int .u8 0, .int .u8 0, .int .u8 0, .int .u8 0, .int .u8 0, .int .u8 0, .int .u8 0, .int .u8 0, .int .u8 0, .int .u8 0, .int .u8 0, .int .u8 0, .int .u8 0, .int .u16 0])).run Tryz.prog w9 = .ok () (w9.setRow w.heap.size (enC false n16 0)) := R9.out.1.store (v := false) (b := n16) (p := 0) rfl
          go_wp2_with (refine wl_store rfl _ _ _ rfl _ rfl (.agg #[.bool false, .int .u8 0, .int .u8 0, .int .u8 0, .int .u8 0, .int .u8 0, .int .u8 0, .int .u8 0, .int .u8 0, .int .u8 0, .int .u8 0, .int .u8 0, .int .u8 0, .int .u8 0, .int .u8 0, .int .u8 0, .int .u8 0, .int .u16 0]) rfl _ s2 ?_)
          exact bodyPost_ret (res_pair (p := 2) (q := 3) rfl _ _ w.heap.size 32 (enC false n16 0) (.int .i64 9) _ rfl rfl (R9.out.1.put false n16 0).1 Tryz.underlying32 rfl I0.out) rfl ⟨by rw [peV_none N.out], (R9.out.1.put false n16 0).2⟩
    · rw [hu] at U
      rw [hp] at EN
      have N := Lib.hid (show endsA s.data.toList = none from EN.out)
      have p0' : (65535 : Int) < p := p0
      clear EN hp hu hsl TP TS P
      go_enter Tryz.func17, Tryz.ntmps17
      go_upto_region 1 with fail
      generalize w.alloc (.cells #[.bool false, .int .u8 0, .int .u8 0, .int .u8 0, .int .u8 0, .int .u8 0, .int .u8 0, .int .u8 0, .int .u8 0, .int .u8 0, .int .u8 0, .int .u8 0, .int .u8 0, .int .u8 0, .int .u8 0, .int .u8 0, .int .u8 0, .int .u16 0] 32) = w1 at *
      go_upto_region 2 with (go_at_call 33; refine (LI.out _).mono ?_; rintro q w2 ⟨rfl, hb⟩; have R2 := Lib.hid (R0.out.on hb); clear hb)
      go_upto_region 5 with (go_at_call 34; refine (U.out _ (G.out.below R2.out.2)).mono ?_; rintro q w3 ⟨rfl, hb⟩; have R3 := Lib.hid (R2.out.on hb); clear hb)
      have s2 : (Instr.storeAt 32 (.pointer (some ⟨w.heap.size, 0, none⟩)) (.agg #[.bool false, .int .u8 0, .int .u8 0, .int .u8 0, .int .u8 0, .int .u8 0, .int .u8 0, .int .u8 0, .int .u8 0, .int .u8 0, .int .u8 0, .int .u8 0, .int .u8 0, .int .u8 0, .int .u8 0, .int .u8 0, .int .u8 0, .int .u16 0])).run Tryz.prog w3 = .ok () (w3.setRow w.heap.size (enC false n16 0)) := R3.out.store (v := false) (b := n16) (p := 0) rfl
      clear R2 U
      go_wp2_with (refine wl_store rfl _ _ _ rfl _ rfl (.agg #[.bool false, .int .u8 0, .int .u8 0, .int .u8 0, .int .u8 0, .int .u8 0, .int .u8 0, .int .u8 0, .int .u8 0, .int .u8 0, .int .u8 0, .int .u8 0, .int .u8 0, .int .u8 0, .int .u8 0, .int .u8 0, .int .u8 0, .int .u16 0]) rfl _ s2 ?_)
      exact bodyPost_ret (res_pair (p := 2) (q := 3) rfl _ _ w.heap.size 32 (enC false n16 0) (.int .i64 9) _ rfl rfl (R3.out.put false n16 0).1 Tryz.underlying32 rfl I0.out) rfl ⟨by rw [peV_none N.out], (R3.out.put false n16 0).2⟩
    · rw [hu] at U
      rw [hp] at EN
      have N := Lib.hid (show endsA s.data.toList = none from EN.out)
      clear EN hp hu hsl TP TS P
      go_enter Tryz.func17, Tryz.ntmps17
      go_upto_region 1 with fail
      generalize w.alloc (.cells #[.bool false, .int .u8 0, .int .u8 0, .int .u8 0, .int .u8 0, .int .u8 0, .int .u8 0, .int .u8 0, .int .u8 0, .int .u8 0, .int .u8 0, .int .u8 0, .int .u8 0, .int .u8 0, .int .u8 0, .int .u8 0, .int .u8 0, .int .u16 0] 32) = w1 at *
      go_upto_region 2 with (go_at_call 33; refine (LI.out _).mono ?_; rintro q w2 ⟨rfl, hb⟩; have R2 := Lib.hid (R0.out.on hb); clear hb)
      go_upto_region 5 with (go_at_call 34; refine (U.out _ (G.out.below R2.out.2)).mono ?_; rintro q w3 ⟨rfl, hb⟩; have R3 := Lib.hid (R2.out.on hb); clear hb)
      have s2 : (Instr.storeAt 32 (.pointer (some ⟨w.heap.size, 0, none⟩)) (.agg #[.bool false, .int .u8 0, .int .u8 0, .int .u8 0, .int .u8 0, .int .u8 0, .int .u8 0, .int .u8 0, .int .u8 0, .int .u8 0, .int .u8 0, .int .u8 0, .int .u8 0, .int .u8 0, .int .u8 0, .int .u8 0, .int .u8 0, .int .u16 0])).run Tryz.prog w3 = .ok () (w3.setRow w.heap.size (enC false n16 0)) := R3.out.store (v := false) (b := n16) (p := 0) rfl
      clear R2 U
      go_wp2_with (refine wl_store rfl _ _ _ rfl _ rfl (.agg #[.bool false, .int .u8 0, .int .u8 0, .int .u8 0, .int .u8 0, .int .u8 0, .int .u8 0, .int .u8 0, .int .u8 0, .int .u8 0, .int .u8 0, .int .u8 0, .int .u8 0, .int .u8 0, .int .u8 0, .int .u8 0, .int .u8 0, .int .u16 0]) rfl _ s2 ?_)
      exact bodyPost_ret (res_pair (p := 2) (q := 3) rfl _ _ w.heap.size 32 (enC false n16 0) (.int .i64 9) _ rfl rfl (R3.out.put false n16 0).1 Tryz.underlying32 rfl I0.out) rfl ⟨by rw [peV_none N.out], (R3.out.put false n16 0).2⟩
end Go.Proofs.YthghanidabmfgaaGreatDoor
