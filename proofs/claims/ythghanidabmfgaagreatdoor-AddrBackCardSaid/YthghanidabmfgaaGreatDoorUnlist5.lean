/-
  strconv.ParseUint at base 16 and 16 bits: a group's number.
  unlist: the groups of a row of words.
-/
import Derived.Test.YthghanidabmfgaaGreatDoorNum16
import Derived.Lib.ConvBytes
import Derived.Lib.AtoiErrMem
import Derived.Test.YthghanidabmfgaaGreatDoorAddrs2
import Derived.OwnWalk
namespace Go.Proofs.YthghanidabmfgaaGreatDoor
open Go.RowKit Go.Sort
set_option maxRecDepth 8000
def puO (l : List UInt8) : Option Nat := if l ≠ [] ∧ l.all isHex = true ∧ hexV l < 65536 then some (hexV l) else none
theorem hexV_more (a b : List UInt8) : hexV a ≤ hexV (a ++ b) := by
  have h : ∀ (n : Nat) (b : List UInt8), b.length = n → hexV a ≤ hexV (a ++ b) := by
    intro n
    induction n with
    | zero => intro b hb; obtain rfl := List.length_eq_zero_iff.1 hb; simp
    | succ n ih =>
      intro b hb
      have hne : b ≠ [] := by rintro rfl; cases hb
      rw [← List.dropLast_concat_getLast hne, ← List.append_assoc, hexV_append]
      have := ih b.dropLast (by rw [List.length_dropLast]; omega)
      omega
  exact h _ b rfl
theorem pu_bad {l : List UInt8} {c : UInt8} (hc : c ∈ l) (h : isHex c = false) : puO l = none := by
  unfold puO
  rw [if_neg]
  rintro ⟨_, a, _⟩
  have := List.all_eq_true.1 a c hc
  rw [h] at this; cases this
theorem pu_big {l : List UInt8} (k : Nat) (h : 65536 ≤ hexV (l.take k)) : puO l = none := by
  unfold puO
  rw [if_neg]
  rintro ⟨_, _, a⟩
  have := hexV_more (l.take k) (l.drop k)
  rw [List.take_append_drop] at this
  omega
theorem pu_all {l : List UInt8} (h0 : l ≠ []) (h : l.all isHex = true) (hv : hexV l < 65536) : puO l = some (hexV l) := by
  unfold puO; rw [if_pos ⟨h0, h, hv⟩]
theorem hexO_pu (l : List UInt8) : hexO l = if l.length ≤ 4 then puO l else none := by
  unfold hexO puO
  by_cases h4 : l.length ≤ 4
  · rw [if_pos h4]
    have hv := hexV_lt l
    have : (16 : Nat) ^ l.length ≤ 16 ^ 4 := Nat.pow_le_pow_right (by decide) h4
    by_cases h0 : l = []
    · subst h0; rfl
    · have : 1 ≤ l.length := Nat.one_le_iff_ne_zero.2 fun e => h0 (List.length_eq_zero_iff.1 e)
      by_cases ha : l.all isHex = true
      · rw [if_pos ⟨this, h4, ha⟩, if_pos ⟨h0, ha, by omega⟩]
      · rw [if_neg fun c => ha c.2.2, if_neg fun c => ha c.2.1]
  · rw [if_neg h4, if_neg fun c => h4 c.2.1]
/-- What a byte is, as the library looks at it. -/
def low (c : Int) : Int := bits .or .u8 c 32
theorem low_fin : ∀ c : Fin 256, ((97 ≤ low c.val ∧ low c.val ≤ 122) ↔ ((97 ≤ c.val ∧ c.val ≤ 122) ∨ (65 ≤ c.val ∧ c.val ≤ 90))) ∧ ((97 ≤ c.val ∧ c.val ≤ 122) → low c.val = c.val) ∧ ((65 ≤ c.val ∧ c.val ≤ 90) → low c.val = c.val + 32) ∧ 0 ≤ low c.val ∧ low c.val ≤ 255 := by decide +kernel
theorem low_of (c : Nat) (h : c < 256) : ((97 ≤ low c ∧ low c ≤ 122) ↔ ((97 ≤ c ∧ c ≤ 122) ∨ (65 ≤ c ∧ c ≤ 90))) ∧ ((97 ≤ c ∧ c ≤ 122) → low c = c) ∧ ((65 ≤ c ∧ c ≤ 90) → low c = c + 32) ∧ 0 ≤ low c ∧ low c ≤ 255 := low_fin ⟨c, h⟩
theorem x_lower (c : Int) (w : World) : Calls Tryz.prog 120 #[.int .u8 c] w fun e w' => e = .returned (.int .u8 (low c)) ∧ w' = w := Tryz.internal_strconv_lower c w
/-- A byte's kind: a figure; a letter below g; another letter; none of these. -/
theorem byte_cases (c : UInt8) : ∃ x : Int, (c.toNat : Int) = x ∧ 0 ≤ x ∧ x < 256 ∧ (
    (48 ≤ x ∧ x ≤ 57 ∧ isHex c = true ∧ (hval c : Int) = x - 48) ∨
    (¬ (48 ≤ x ∧ x ≤ 57) ∧ 97 ≤ low x ∧ low x ≤ 102 ∧ isHex c = true ∧ (hval c : Int) = low x - 97 + 10) ∨
    (¬ (48 ≤ x ∧ x ≤ 57) ∧ 103 ≤ low x ∧ low x ≤ 122 ∧ isHex c = false) ∨
    (¬ (48 ≤ x ∧ x ≤ 57) ∧ ¬ (97 ≤ low x ∧ low x ≤ 122) ∧ isHex c = false)) := by
  have hc := c.toNat_lt
  obtain ⟨n, hn⟩ : ∃ n, c.toNat = n := ⟨_, rfl⟩
  refine ⟨(n : Int), by omega, by omega, by omega, ?_⟩
  obtain ⟨k1, k2, k3, k4, k5⟩ := low_of n (by omega)
  by_cases a : 48 ≤ n ∧ n ≤ 57
  · left; refine ⟨by omega, by omega, ?_⟩
    unfold isHex hval hvN; rw [hn, if_pos a]; simp; omega
  right
  by_cases b : 97 ≤ low n ∧ low n ≤ 122
  · rcases k1.1 b with d | d
    · have e := k2 d
      by_cases f : n ≤ 102
      · left; refine ⟨by omega, b.1, by omega, ?_⟩
        unfold isHex hval hvN; rw [hn, if_neg a, if_pos ⟨d.1, f⟩]; simp; omega
      · right; left; refine ⟨by omega, by omega, b.2, ?_⟩
        unfold isHex hvN; rw [hn, if_neg a, if_neg (by omega), if_neg (by omega)]; rfl
    · have e := k3 d
      by_cases f : n ≤ 70
      · left; refine ⟨by omega, b.1, by omega, ?_⟩
        unfold isHex hval hvN; rw [hn, if_neg a, if_neg (by omega), if_pos ⟨d.1, f⟩]; simp; omega
      · right; left; refine ⟨by omega, by omega, b.2, ?_⟩
        unfold isHex hvN; rw [hn, if_neg a, if_neg (by omega), if_neg (by omega)]; rfl
  · right; right; refine ⟨by omega, b, ?_⟩
    unfold isHex hvN
    rw [hn, if_neg a, if_neg (fun d => b (k1.2 (Or.inl ⟨d.1, by omega⟩))), if_neg (fun d => b (k1.2 (Or.inr ⟨d.1, by omega⟩)))]; rfl
/-- What the inner call answers. -/
def PuOut (l : List UInt8) (v : Value) : Prop := (∃ n : Nat, puO l = some n ∧ n < 65536 ∧ v = .tuple #[.int .u64 n, .nilIface]) ∨ (puO l = none ∧ ∃ (n : Int) (k : Int), (k = 1 ∨ k = 2) ∧ v = .tuple #[.int .u64 n, .iface 170 (.int .i64 k)])
def PuAt (w wr : World) (l : List UInt8) (g k : Nat) (n : Int) : Prop := (l.take k).all isHex = true ∧ (hexV (l.take k) : Int) = n ∧ (∀ j (h : j < l.length), wr.cell? ⟨g, j, none⟩ = some (.int .u8 (l[j].toNat : Int))) ∧ Below w.heap.size w wr
set_option maxHeartbeats 1600000 in
theorem parse16 (s : ByteArray) (hs : s.size ≤ 4000) (w : World) : Calls Tryz.prog 92 #[.string s, .int .i64 16, .int .i64 16] w fun e w' => (∃ v, e = .returned v ∧ PuOut s.data.toList v) ∧ Below w.heap.size w w' := by
  have mv : IntKind.u64.wrap (IntKind.u64.wrap 65536 - 1) = 65535 := by decide +kernel
  by_cases h0 : s.data.toList = []
  · have k : (s.toList == []) = true := by rw [ByteArray.toList_eq, h0]; rfl
    have N := Lib.hid (show puO s.data.toList = none by rw [h0]; rfl)
    clear h0
    go_enter Tryz.func92, Tryz.ntmps92
    go_wp2
    exact bodyPost_ret (v := .tuple #[.int .u64 0, .iface 170 (.int .i64 2)]) (by simp [results, Tryz.results92, go_sem]) rfl ⟨⟨_, rfl, Or.inr ⟨N.out, 0, 2, Or.inr rfl, rfl⟩⟩, Below.refl _ _⟩
  · have k : (s.toList == []) = false := by rw [ByteArray.toList_eq]; simpa using h0
    have cv := Lib.run_convert_string_bytes (P := Tryz.prog) w 9 33 5 s (u := .string) Tryz.underlying9 Tryz.underlying33 Tryz.underlying5
    have P0 : Hid (PuAt w (Lib.bytesWorld w 5 s) s.data.toList w.heap.size 0 0) := Lib.hid ⟨rfl, rfl, fun j hj => by
      have := Lib.bytesWorld_cell w 5 s j (by rw [← len_list]; exact hj)
      rw [this]; simp [List.getD, List.getElem?_eq_getElem hj], Lib.bytesWorld_below w _ s⟩
    have NE := Lib.hid h0
    have hl : s.data.toList.length = s.size := len_list s
    generalize Lib.bytesWorld w 5 s = w1 at *
    generalize s.data.toList = l at *
    clear h0
    go_enter Tryz.func92, Tryz.ntmps92
    go_wp2
    go_loopw [12, 13, 101] (fun vu v i wr => ∃ (n : Int) (k : Nat), vu = .bool false ∧ v = .int .u64 n ∧ i = .int .i64 k ∧ 0 ≤ n ∧ n < 65536 ∧ k ≤ s.size ∧ Hid (PuAt w wr l w.heap.size k n)) (fun _ _ i _ => s.size - (intOf i).toNat)
    case atStart => exact ⟨0, 0, rfl, rfl, rfl, by omega, by omega, by omega, P0⟩
    case round =>
      clear P0
      obtain ⟨n, k, rfl, rfl, rfl, hn0, hn, hk, P⟩ := hrel
      by_cases hlt : k < s.size
      · have hj : k < l.length := by omega
        have c0 := P.out.2.2.1 k hj
        have T := Lib.hid (take_list l k hj)
        have M := Lib.hid (List.getElem_mem hj)
        have B := Lib.hid P.out.2.2.2
        have O := Lib.hid (show ∀ (m : Int), isHex l[k] = true → n * 16 + (hval l[k] : Int) = m → m < 65536 → PuAt w wr l w.heap.size (k + 1) m from fun m h hm _ => ⟨by rw [T.out, List.all_append, P.out.1]; simp [h], by rw [T.out, hexV_append]; have := P.out.2.1; omega, P.out.2.2⟩)
        have BIG := Lib.hid (show ∀ (m : Int), n * 16 + (hval l[k] : Int) = m → 65536 ≤ m → puO l = none from fun m hm h => pu_big (l := l) (k + 1) (by rw [T.out, hexV_append]; have := P.out.2.1; omega))
        have BAD := Lib.hid (fun (h : isHex l[k] = false) => pu_bad M.out h)
        obtain ⟨x, e, x0, x1, BC⟩ := byte_cases l[k]
        clear P T M
        rw [e] at c0
        generalize l[k] = c at *
        clear e hj
        rcases BC with ⟨d1, d2, ih, iv⟩ | ⟨d1, d2, d3, ih, iv⟩ | ⟨d1, d2, d3, ih⟩ | ⟨d1, d2, ih⟩
        · rw [iv] at O BIG
          have O := Lib.hid (fun m => O.out m ih)
          clear ih iv BAD
          by_cases hb : n * 16 + (x - 48) < 65536
          · have P := Lib.hid (O.out _ rfl hb)
            clear O BIG
            go_wp2
            go_roundw
            case rel => exact ⟨_, k + 1, rfl, rfl, by go_num, by omega, hb, by omega, P⟩
            case measure => simp [intOf]; omega
          · have N := Lib.hid (BIG.out _ rfl (by omega))
            clear O BIG
            go_wp2
            exact bodyPost_ret (v := .tuple #[.int .u64 65535, .iface 170 (.int .i64 1)]) (by simp [results, Tryz.results92, go_sem]) rfl ⟨⟨_, rfl, Or.inr ⟨N.out, 65535, 1, Or.inl rfl, rfl⟩⟩, B.out⟩
        · rw [iv] at O BIG
          have O := Lib.hid (fun m => O.out m ih)
          clear ih iv BAD
          have d4 : low x ≤ 122 := by omega
          have x95 : ¬ x = 95 := by rintro rfl; have : low 95 = 127 := by decide +kernel
                                    omega
          by_cases hb : n * 16 + (low x - 97 + 10) < 65536
          · have P := Lib.hid (O.out _ rfl hb)
            clear O BIG
            go_wp2_with (go_at_call 120; refine (x_lower _ _).mono ?_; rintro e w2 ⟨rfl, rfl⟩)
            all_goals
              go_roundw
              case rel => exact ⟨_, k + 1, rfl, rfl, by go_num, by omega, hb, by omega, P⟩
              case measure => simp [intOf]; omega
          · have N := Lib.hid (BIG.out _ rfl (by omega))
            clear O BIG
            go_wp2_with (go_at_call 120; refine (x_lower _ _).mono ?_; rintro e w2 ⟨rfl, rfl⟩)
            all_goals exact bodyPost_ret (v := .tuple #[.int .u64 65535, .iface 170 (.int .i64 1)]) (by simp [results, Tryz.results92, go_sem]) rfl ⟨⟨_, rfl, Or.inr ⟨N.out, 65535, 1, Or.inl rfl, rfl⟩⟩, B.out⟩
        · have N := Lib.hid (BAD.out ih)
          have k2 : 97 ≤ low x := by omega
          clear O BIG BAD ih
          go_wp2_with (go_at_call 120; refine (x_lower _ _).mono ?_; rintro e w2 ⟨rfl, rfl⟩)
          all_goals exact bodyPost_ret (v := .tuple #[.int .u64 0, .iface 170 (.int .i64 2)]) (by simp [results, Tryz.results92, go_sem]) rfl ⟨⟨_, rfl, Or.inr ⟨N.out, 0, 2, Or.inr rfl, rfl⟩⟩, B.out⟩
        · have N := Lib.hid (BAD.out ih)
          clear O BIG BAD ih
          go_wp2_with (go_at_call 120; refine (x_lower _ _).mono ?_; rintro e w2 ⟨rfl, rfl⟩)
          all_goals exact bodyPost_ret (v := .tuple #[.int .u64 0, .iface 170 (.int .i64 2)]) (by simp [results, Tryz.results92, go_sem]) rfl ⟨⟨_, rfl, Or.inr ⟨N.out, 0, 2, Or.inr rfl, rfl⟩⟩, B.out⟩
      · have A := Lib.hid (show ∃ m : Nat, puO l = some m ∧ m < 65536 ∧ (m : Int) = n by
          obtain ⟨a, b, _⟩ := P.out
          rw [List.take_of_length_le (by omega)] at a b
          exact ⟨_, pu_all NE.out a (by omega), by omega, b⟩)
        have B := Lib.hid P.out.2.2.2
        clear P
        go_wp2
        exact bodyPost_ret (v := .tuple #[.int .u64 n, .nilIface]) (by simp [results, Tryz.results92, go_sem]) rfl ⟨⟨_, rfl, Or.inl (let ⟨m, a, b, e⟩ := A.out; ⟨m, a, b, by rw [e]⟩)⟩, B.out⟩
/-- What the call answers. -/
def PuSays (l : List UInt8) (v : Value) : Prop := (∃ n : Nat, puO l = some n ∧ n < 65536 ∧ v = .tuple #[.int .u64 n, .nilIface]) ∨ (puO l = none ∧ ∃ (n : Int) (T : TypeId) (p : Value), v = .tuple #[.int .u64 n, .iface T p])
set_option maxHeartbeats 1600000 in
theorem x_parse16 (s : ByteArray) (hs : s.size ≤ 4000) (w : World) (hw : Env5 w) : Calls Tryz.prog 69 #[.string s, .int .i64 16, .int .i64 16] w fun e w' => (∃ v, e = .returned v ∧ PuSays s.data.toList v) ∧ Below w.heap.size w w' := by
  have I := Lib.hid (fun w => parse16 s hs w)
  have W := Lib.hid hw
  clear hw
  go_enter Tryz.func69, Tryz.ntmps69
  go_wp2_with fail
  refine (I.out _).mono ?_
  rintro e w1 ⟨⟨v, rfl, hv⟩, hb⟩
  rcases hv with ⟨n, a, b, rfl⟩ | ⟨a, n, k, hk, rfl⟩
  · have A := Lib.hid (show PuSays s.data.toList (.tuple #[.int .u64 n, .nilIface]) from Or.inl ⟨n, a, b, rfl⟩)
    clear a
    go_wp2
    exact bodyPost_ret (v := .tuple #[.int .u64 n, .nilIface]) (by simp [results, Tryz.results69, go_sem]) rfl ⟨⟨_, rfl, A.out⟩, hb⟩
  · have W1 := Lib.hid (W.out.below hb)
    obtain ⟨_, _, ⟨e1, c1, c1'⟩, ⟨e2, c2, c2'⟩, _⟩ := W.out.below hb
    have T : Hid (∀ fn : ByteArray, Calls Tryz.prog 93 #[.string fn, .string s, .int .i64 16, .int .i64 16, .iface 170 (.int .i64 k)] w1 fun e w' => ∃ N, e = .returned (.iface 172 (.pointer (some ⟨N, 0, none⟩))) ∧ Below w1.heap.size w1 w') := Lib.hid (fun fn => by
      rcases hk with rfl | rfl
      · exact (Tryz.strconv_toError_range fn s 16 16 e2 w1 (by omega) c2 c2').mono fun e w' ⟨N, he, _, _, hb⟩ => ⟨N, he, hb⟩
      · exact (Tryz.strconv_toError_syntax fn s 16 16 e1 w1 (by omega) c1 c1').mono fun e w' ⟨N, he, _, _, hb⟩ => ⟨N, he, hb⟩)
    have A := Lib.hid a
    clear a c1 c2 c1' c2' hk
    go_wp2_with (go_at_call 93; refine (T.out _).mono ?_; rintro e w2 ⟨N, rfl, hb2⟩)
    exact bodyPost_ret (v := .tuple #[.int .u64 n, .iface 172 (.pointer (some ⟨N, 0, none⟩))]) (by simp [results, Tryz.results69, go_sem]) rfl ⟨⟨_, rfl, Or.inr ⟨A.out, n, _, _, rfl⟩⟩, hb.trans (hb2.mono hb.size)⟩
end Go.Proofs.YthghanidabmfgaaGreatDoor
namespace Go.Proofs.YthghanidabmfgaaGreatDoor
open Go.RowKit Go.Sort
set_option maxRecDepth 8000
theorem info_u16 : (Tryz.prog.info? 25).map (fun i => (i.zero, i.size, i.bytes)) = some (some (.int .u16 0), 1, 2) := by kernel_rfl
theorem word_size {c : UInt8} {l w : List UInt8} (h : w ∈ words c l) : w.length ≤ l.length := by
  rw [← join_words c l]
  generalize words c l = ws at h
  induction ws with
  | nil => cases h
  | cons a r ih =>
    cases r with
    | nil => obtain rfl := List.mem_singleton.1 h; exact Nat.le_refl _
    | cons b r =>
      rw [joinC_cons _ _ (by simp), List.length_append, List.length_cons]
      rcases List.mem_cons.1 h with rfl | h
      · omega
      · have := ih h; omega
def cells16 (l : List Nat) : List Value := l.map fun (n : Nat) => .int .u16 (n : Int)
theorem cells16_append (a b : List Nat) : cells16 (a ++ b) = cells16 a ++ cells16 b := by simp [cells16]
/-- Groups in a slice, a nil one too. -/
def U16o (w : World) (v : Value) (gs : List Nat) : Prop := ∃ a c, v = .slice a gs.length c ∧ gs.length ≤ c ∧ (gs = [] ∨ ∃ b o, a = some ⟨b, o, none⟩ ∧ b < w.heap.size ∧ ∀ (j n : Nat), gs[j]? = some n → w.cell? ⟨b, o + j, none⟩ = some (.int .u16 (n : Int)))
theorem U16o.on {w w' : World} {v : Value} {gs : List Nat} (h : U16o w v gs) (hb : Below w.heap.size w w') : U16o w' v gs := by
  obtain ⟨a, c, e, hc, h⟩ := h
  refine ⟨a, c, e, hc, h.imp id ?_⟩
  rintro ⟨b, o, ea, hl, hx⟩
  exact ⟨b, o, ea, Nat.lt_of_lt_of_le hl hb.size, fun j x hj => (hb.cell (by exact hl)).trans (hx j x hj)⟩
theorem U16o.of_owns {w : World} {B : Nat} {v : Value} {gs : List Nat} (h : w.ownsRow B 25 1 v gs.length (cells16 gs)) : U16o w v gs := by
  obtain ⟨_, ⟨rfl, h0⟩ | ⟨g, cap, cur, rfl, _, hg, hn, _, hs, ht⟩⟩ := h
  · have : gs = [] := List.length_eq_zero_iff.1 h0
    subst this
    exact ⟨none, 0, rfl, Nat.le_refl _, Or.inl rfl⟩
  · refine ⟨some ⟨g, 0, none⟩, cap, rfl, hn, Or.inr ⟨g, 0, rfl, (Array.getElem?_eq_some_iff.1 hg).1, fun j n hj => ?_⟩⟩
    have hl : j < gs.length := (List.getElem?_eq_some_iff.1 hj).1
    have e : cur[j]? = (cells16 gs)[j]? := by
      rw [← ht, List.getElem?_take_of_lt (by omega)]; simp
    rw [Nat.zero_add, cell_of_row w g j cur _ _ hg, e]
    simp [cells16, hj]
def UL (w wr : World) (gs : List Nat) (v : Value) : Prop := wr.ownsRow w.heap.size 25 1 v gs.length (cells16 gs) ∧ Below w.heap.size w wr
theorem UL.on {w w1 w2 : World} {gs : List Nat} {v : Value} (h : UL w w1 gs v) (hb : Below w1.heap.size w1 w2) : UL w w2 gs v := by
  obtain ⟨⟨a, h⟩, hs⟩ := h
  refine ⟨⟨a, h.imp id ?_⟩, hs.trans (hb.mono hs.size)⟩
  rintro ⟨g, cap, cur, e1, e2, hg, r⟩
  exact ⟨g, cap, cur, e1, e2, (hb.block g (Array.getElem?_eq_some_iff.1 hg).1).trans hg, r⟩
theorem wp_append_u16 {ops : Array Oper} {rest : List Oper} {o : Oper} {a : Act} {Q : Exit → Act → World → Prop} (hgd : o.guard = none) (s x : Operand)
    (ho : o.op = .call { callee := .builtin .append, args := #[s, x], argTypes := #[93, 93] }) (w wr : World) (L : List Nat) (v : Value) (hs : a.eval s = v) (R : UL w wr L v)
    (y : Value) (n : Nat) (hy : y = .int .u16 (n : Int)) (hx : a.eval x = .slice (some ⟨wr.heap.size, 0, none⟩) 1 1) (hl : L.length ≤ 4000)
    (h : ∀ v' w', UL w w' (L ++ [n]) v' → wpList Tryz.prog ops Q rest (a.put o.dst v') w') : wpList Tryz.prog ops Q (o :: rest) a (wr.alloc (.cells #[y] 25)) := by
  obtain ⟨i0, hi, hz0, hz1, hz2⟩ := info_parts info_u16
  subst hy
  have lo := R.1.lt
  have sz := R.2.size
  refine wpList_append_own _ hgd s x 93 ho w.heap.size 25 i0 (.int .u16 0) 1 2 Tryz.underlying93 hi hz0 hz1 hz2 rfl (by decide) v L.length _ hs (R.1.alloc _) ⟨wr.heap.size, 0, none⟩ 1 1 [.int .u16 (n : Int)] hx rfl (fun j u hj => ?_) (fun u hu => ?_) (by simp only [maxLen]; omega) (by omega) (by simp; omega) (fun v' w' hown hgrow _ => h v' w' ⟨?_, (R.2.alloc sz _).grown hgrow (by simp; omega) (fun k hk => (lo k hk).1)⟩)
  · match j, hj with
    | 0, hj => simp at hj; subst hj; rw [Lib.add_plain]; exact World.cell?_alloc_at _ _ _ _ rfl
    | j + 1, hj => simp at hj
  · simp at hu; subst hu; rfl
  · rw [cells16_append, List.length_append]; exact hown
/-- What the call answers. -/
def UnlOut (w : World) (l : List UInt8) (v : Value) : Prop := ∃ u, v = .tuple #[u, .bool (unl l).isSome] ∧ U16o w u ((unl l).getD [])
theorem UnlOut.no {w : World} {l : List UInt8} (h : unl l = none) : UnlOut w l (.tuple #[.slice none 0 0, .bool false]) := ⟨_, by rw [h]; rfl, by rw [h]; exact ⟨none, 0, rfl, Nat.le_refl _, Or.inl rfl⟩⟩
/-- A word, as the program looks at it. -/
theorem word_cases {l : List UInt8} {v : Value} (h : PuSays l v) : (∃ n : Nat, hexO l = some n ∧ n < 65536 ∧ l.length ≤ 4 ∧ v = .tuple #[.int .u64 n, .nilIface]) ∨ (hexO l = none ∧ ∃ n : Nat, 4 < l.length ∧ n < 65536 ∧ v = .tuple #[.int .u64 n, .nilIface]) ∨ (hexO l = none ∧ ∃ (n : Int) (T : TypeId) (p : Value), v = .tuple #[.int .u64 n, .iface T p]) := by
  rw [hexO_pu]
  rcases h with ⟨n, e, hn, rfl⟩ | ⟨e, n, T, p, rfl⟩
  · by_cases c : l.length ≤ 4
    · left; exact ⟨n, by rw [if_pos c, e], hn, c, rfl⟩
    · right; left; exact ⟨by rw [if_neg c], n, by omega, hn, rfl⟩
  · right; right
    exact ⟨by split <;> simp [e], n, T, p, rfl⟩
set_option maxHeartbeats 2000000 in
theorem t_unlist (s : ByteArray) (hs : s.size ≤ 2000) (w : World) (hw : Env5 w) : Calls Tryz.prog 52 #[.string s] w fun e w' => (∃ v, e = .returned v ∧ UnlOut w' s.data.toList v) ∧ Below w.heap.size w w' := by
  have G := Lib.hid hw
  clear hw
  by_cases h0 : s.data.toList = []
  · have k : (s.toList == []) = true := by rw [ByteArray.toList_eq, h0]; rfl
    have N := Lib.hid (show unl s.data.toList = some [] by rw [h0]; rfl)
    clear h0
    go_enter Tryz.func52, Tryz.ntmps52
    go_wp2
    exact bodyPost_ret (v := .tuple #[.slice none 0 0, .bool true]) (by simp [results, Tryz.results52, go_sem]) rfl ⟨⟨_, rfl, _, by rw [N.out]; rfl, by rw [N.out]; exact ⟨none, 0, rfl, Nat.le_refl _, Or.inl rfl⟩⟩, Below.refl _ _⟩
  · have k : (s.toList == []) = false := by rw [ByteArray.toList_eq]; simpa using h0
    have SP := Lib.hid (fun w hw => c_split 58 s (by omega) w hw)
    have UN := Lib.hid (show unl s.data.toList = optAll hexO (words 58 s.data.toList) from if_neg h0)
    have WC := Lib.hid (show (words 58 s.data.toList).length ≤ 2001 by rw [words_count]; have := List.count_le_length (a := (58 : UInt8)) (l := s.data.toList); rw [len_list] at this; omega)
    have SZ := Lib.hid (fun x (hx : x ∈ words 58 s.data.toList) => show x.length ≤ 2000 by
      have := word_size hx
      rw [len_list] at this; omega)
    clear h0
    go_enter Tryz.func52, Tryz.ntmps52
    go_upto_region 4 with fail
    go_wp2_with (go_at_call 49; refine (SP.out _ G.out).mono ?_; rintro q w2 ⟨⟨v, xs, rfl, hv, hx⟩, hb⟩; have S2 := Lib.hid hb; obtain ⟨b, o, c, rfl, hc, hbl, hxs⟩ := hv; clear hb SP)
    have XW := Lib.hid hx
    have XS := Lib.hid hxs
    have G2 := Lib.hid (G.out.below S2.out)
    have U0 : Hid (UL w2 w2 [] (.slice none 0 0)) := Lib.hid ⟨World.ownsRow_nil _ _ _ _, Below.refl _ _⟩
    have XL : xs.length ≤ 2001 := by have := congrArg List.length hx; rw [List.length_map] at this; have := WC.out; omega
    clear hx hxs WC
    go_loopw [4, 14] (fun u i wr => ∃ (k : Nat) (gs : List Nat), k ≤ xs.length ∧ i = .int .i64 k ∧ Hid (optAll hexO ((xs.map (·.data.toList)).take k) = some gs ∧ UL w2 wr gs u)) (fun _ i _ => xs.length - (intOf i).toNat)
    case atStart => exact ⟨0, [], by omega, rfl, rfl, U0.out⟩
    case round =>
      clear U0
      obtain ⟨k, gs, hk, rfl, U⟩ := hrel
      by_cases hlt : k < xs.length
      · have e1 : xs[k]? = some (xs[k]'hlt) := List.getElem?_eq_getElem _
        have c1 := (U.out.2.2.cell (p := ⟨b, o + k, none⟩) (by exact hbl)).trans (XS.out k _ e1)
        have MM := Lib.hid (List.mem_map.2 ⟨_, List.mem_of_getElem? e1, rfl⟩ : (xs[k]'hlt).data.toList ∈ xs.map (·.data.toList))
        have NX := Lib.hid (fun n (hn : hexO (xs[k]'hlt).data.toList = some n) => (by
          have e2 : (xs.map (·.data.toList))[k]? = some (xs[k]'hlt).data.toList := by simp [e1]
          have lt := (List.getElem?_eq_some_iff.1 e2).1
          rw [List.take_succ_eq_append_getElem lt, (List.getElem?_eq_some_iff.1 e2).2, optAll_append, U.out.1]
          simp [optAll, hn] : optAll hexO ((xs.map (·.data.toList)).take (k + 1)) = some (gs ++ [n])))
        have GL := Lib.hid (show gs.length ≤ 4000 by have := optAll_length U.out.1; rw [List.length_take, List.length_map] at this; omega)
        generalize xs[k]'hlt = x at *
        have xz : x.size ≤ 2000 := by rw [← len_list]; exact SZ.out _ (XW.out ▸ MM.out)
        have xl : x.data.toList.length = x.size := len_list x
        have PU := Lib.hid (fun w hw => x_parse16 x (by omega) w hw)
        clear e1
        go_upto_region 7 with fail
        go_wp2_with fail
        refine (PU.out _ (G2.out.below U.out.2.2)).mono ?_
        rintro q w3 ⟨⟨v, rfl, hv⟩, hb⟩
        have U3 := Lib.hid (U.out.2.on hb)
        clear hb c1 U PU
        rcases word_cases hv with ⟨n, hn, n1, n2, rfl⟩ | ⟨hn, n, n1, n2, rfl⟩ | ⟨hn, n, T, p, rfl⟩
        · have NX := Lib.hid (NX.out n hn)
          have n3 : (x.size : Int) ≤ 4 := by omega
          clear hv hn MM
          go_wp2_with (at_builtin; refine wp_append_u16 rfl _ _ rfl w2 _ _ _ rfl U3.out _ n rfl rfl (by have := GL.out; omega) ?_)
          intro v' w4 U4
          have U4 := Lib.hid U4
          clear U3
          go_wp2
          go_roundw
          case rel => exact ⟨k + 1, gs ++ [n], by omega, by go_num, NX.out, U4.out⟩
          case measure => simp [intOf]; omega
        · have N := Lib.hid (show unl s.data.toList = none by rw [UN.out, ← XW.out]; exact optAll_none MM.out hn)
          have n3 : (4 : Int) < x.size := by omega
          clear hv hn MM NX
          go_wp2
          exact bodyPost_ret (v := .tuple #[.slice none 0 0, .bool false]) (by simp [results, Tryz.results52, go_sem]) rfl ⟨⟨_, rfl, UnlOut.no N.out⟩, S2.out.trans (U3.out.2.mono S2.out.size)⟩
        · have N := Lib.hid (show unl s.data.toList = none by rw [UN.out, ← XW.out]; exact optAll_none MM.out hn)
          clear hv hn MM NX
          go_wp2
          exact bodyPost_ret (v := .tuple #[.slice none 0 0, .bool false]) (by simp [results, Tryz.results52, go_sem]) rfl ⟨⟨_, rfl, UnlOut.no N.out⟩, S2.out.trans (U3.out.2.mono S2.out.size)⟩
      · obtain rfl : k = xs.length := by omega
        have N := Lib.hid (show unl s.data.toList = some gs by rw [UN.out, ← XW.out, ← U.out.1, List.take_of_length_le (by simp)])
        have O := Lib.hid (U16o.of_owns U.out.2.1)
        go_wp2
        exact bodyPost_ret (v := .tuple #[u4, .bool true]) (by simp [results, Tryz.results52, go_sem]) rfl ⟨⟨_, rfl, _, by rw [N.out]; rfl, by rw [N.out]; exact O.out⟩, S2.out.trans (U.out.2.2.mono S2.out.size)⟩
end Go.Proofs.YthghanidabmfgaaGreatDoor
