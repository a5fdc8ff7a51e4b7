/-
  FaultThrough's law, walked.
-/
import Derived.Test.YtcipgagpmglikaaGreatDoorKnown6
import Derived.Test.YtcipgagpmglikaaGreatDoorJoin6
import Derived.Test.YtcipgagpmglikaaGreatDoorHex
namespace Go.Proofs.YtcipgagpmglikaaGreatDoor
open Go.RowKit Go.Sort
set_option maxRecDepth 8000
/-- Whatever stands around one fault. -/
def Er.fo (k o : Int) : Er → Prop
  | .fault k' o' => k' = k ∧ o' = o
  | .note _ e => e.fo k o
  | .around e => e.fo k o
  | .join _ e => e.fo k o
  | .sort _ => False
  | .own _ => False
theorem Er.fo_all {k o : Int} {e : Er} (h : e.fo k o) : e.kind = some k ∧ e.place = some (k, o) ∧ e.has (.sort k) = true ∧ e.has (.fault k o) = true := by
  induction e with
  | fault k' o' => obtain ⟨rfl, rfl⟩ := h; exact ⟨rfl, rfl, by simp [Er.has, Er.is], by simp [Er.has, Er.is]⟩
  | note s e ih => exact ih h
  | around e ih => exact ih h
  | join a e ih => obtain ⟨h1, h2, h3, h4⟩ := ih h; exact ⟨h1, h2, by simp [Er.has, Er.is, h3], by simp [Er.has, Er.is, h4]⟩
  | sort k' => cases h
  | own a => cases h
/-- Whether all that stands around it are notes, and how many. -/
def St (e : Er) (own : Bool) (n : Nat) : Prop := if own then e.plain ∧ e.cnt = n ∧ n ≤ 8 else bareO (some e.core) = true
def Thr (w wr : World) (k o : Int) (l : List UInt8) (vs : Value) (e : Er) (v : Value) (own : Bool) (n : Nat) : Prop :=
  IsEr wr e v ∧ e.fo k o ∧ St e own n ∧ Bytes wr vs l ∧ Ev wr ∧ Below w.heap.size w wr
theorem Thr.on {w wr w2 : World} {k o : Int} {l : List UInt8} {vs v : Value} {e : Er} {own : Bool} {n : Nat} (h : Thr w wr k o l vs e v own n) (hb : Below wr.heap.size wr w2) : Thr w w2 k o l vs e v own n :=
  ⟨IsEr.on hb h.1, h.2.1, h.2.2.1, h.2.2.2.1.on hb, h.2.2.2.2.1.below hb, h.2.2.2.2.2.trans (hb.mono h.2.2.2.2.2.size)⟩
def wordB : ByteArray := ⟨#[119, 111, 114, 100]⟩
theorem word_is : wordW wordB = wordB := by decide
theorem wrap_bare {e : Er} (h : bareO (some e.core) = true) : bareO (some (wrapE wordB e).core) = true := by
  unfold wrapE
  split
  · exact h
  · exact h
theorem wrap_fo {k o : Int} {e : Er} (h : e.fo k o) : (wrapE wordB e).fo k o := by
  unfold wrapE
  split
  · exact h
  · exact h
theorem wrap_size (e : Er) : (wrapE wordB e).size ≤ e.size + 1 := by
  unfold wrapE
  split
  · omega
  · exact Nat.le_refl _
theorem ne_same (e : Er) (v : Value) (w w' : World) (h : IsEr w e v) (hp : e.plain) : (binOp .neq 27 v v).run Tryz.prog w' = .ok (.bool false) w' := by
  cases e with
  | fault k o =>
    cases h
    refine ne_iface w' _ _ _ _ _ Tryz.underlying27 (by kernel_rfl) true fun d => ?_
    have e := eqI_fault w' k o k o d
    simpa using e
  | note s e => obtain ⟨b, u, rfl, -⟩ := h; exact ne_note w' _
  | sort k => cases hp
  | own a => cases hp
  | around e => cases hp
  | join a e => cases hp
theorem eg_same (e : Er) (v : Value) (w w' : World) (h : IsEr w e v) (hp : e.plain) : (eqGuard .neq 27 (.tmp 55) (.tmp 56) v v).run Tryz.prog w' = .ok () w' := by
  cases e with
  | fault k o => cases h; kernel_rfl
  | note s e => obtain ⟨b, u, rfl, -⟩ := h; kernel_rfl
  | sort k => cases hp
  | own a => cases hp
  | around e => cases hp
  | join a e => cases hp
set_option maxHeartbeats 8000000 in
theorem faultThrough_any (k o : Int) (l : List UInt8) (v : Value) (w : World) (hB : Bytes w v l) (hk : W64 k) (ho : W64 o) (hw : Ev w) :
    Calls Tryz.prog 5 #[.int .i64 k, .int .i64 o, v] w fun ex w' => ex = .returned (.bool true) ∧ Below w.heap.size w w' := by
  have N := Lib.hid (t_known w hw)
  have G := Lib.hid (And.intro hB hw)
  have KO := Lib.hid (And.intro hk ho)
  obtain ⟨va, vc, rfl, -⟩ := id hB
  clear hB hk ho hw
  by_cases hk0 : k = 0
  · subst hk0
    go_enter Tryz.func5, Tryz.ntmps5
    go_wp2_with fail
    refine N.out.mono ?_
    rintro q w1 ⟨rfl, hb1⟩
    go_wp2
    go_ret
    exact ⟨rfl, hb1⟩
  have hk' : (k == 0) = false := by simpa using hk0
  by_cases hl : 20 < l.length
  · have hl' : (20 : Int) < l.length := by omega
    clear hl hk0
    go_enter Tryz.func5, Tryz.ntmps5
    go_wp2_with fail
    refine N.out.mono ?_
    rintro q w1 ⟨rfl, hb1⟩
    go_wp2
    go_ret
    exact ⟨rfl, hb1⟩
  have hl' : ¬ (20 : Int) < l.length := by omega
  have L20 := Lib.hid (show l.length ≤ 20 by omega)
  have NW := Lib.hid (fun w1 => t_new k o w1 hk0)
  clear hl hk0
  go_enter Tryz.func5, Tryz.ntmps5
  go_wp2_with fail
  refine N.out.mono ?_
  rintro q w1 ⟨rfl, hb1⟩
  go_wp2_with fail
  refine (NW.out _).mono ?_
  rintro q w2 ⟨rfl, hw2⟩
  subst hw2
  have S : Hid (Thr w w2 k o l (.slice va l.length vc) (.fault k o) (.iface 63 (.agg #[.int .i64 k, .int .i64 o])) true 0) := Lib.hid ⟨rfl, ⟨rfl, rfl⟩, ⟨KO.out, rfl, Nat.zero_le _⟩, G.out.1.on hb1, G.out.2.below hb1, hb1⟩
  clear hb1 N NW G hk'
  go_wp2
  go_loopg [8, 9, 10, 36] (l.length) (fun g v8 v9 v10 v36 wr => ∃ (j n : Nat) (own : Bool) (E : Er), j ≤ l.length ∧ g = l.length - j ∧ v36 = .int .i64 j ∧ v9 = .int .i64 n ∧ v10 = .bool own ∧ Hid (Thr w wr k o l (.slice va l.length vc) E v8 own n) ∧ Hid (E.size ≤ 2 + 2 * j))
  case atStart => exact ⟨0, 0, true, _, Nat.zero_le _, rfl, rfl, rfl, rfl, S, Lib.hid (Nat.le_refl _)⟩
  case round =>
    obtain ⟨j, n, own, E, hj, rfl, rfl, rfl, rfl, T, Z⟩ := hrel
    clear S
    by_cases hlt : j < l.length
    · obtain ⟨va', vc', hv, hx⟩ := T.out.2.2.2.1
      cases hv
      rcases hx with hx | ⟨b, p, rfl, -, hx⟩
      · rw [hx] at hlt; cases hlt
      have cj := hx j hlt
      have LT := Lib.hid hlt
      have hlt' : (j : Int) < l.length := by omega
      have m255 := (l[j]).toNat_lt
      generalize (l[j]).toNat = m at cj m255
      clear hx hlt
      rcases (show (m : Int) % 3 = 0 ∨ (m : Int) % 3 = 1 ∨ (m : Int) % 3 = 2 by omega) with h3 | h3 | h3
      · cases own with
        | true =>
          by_cases hn : n < 8
          · have hn' : (n : Int) < 8 := by omega
            have W := Lib.hid (wrap_small wordB wordB (by decide) word_is E (by have := T.out.2.2.1.2.1; omega) u8 wr T.out.1)
            have NE := fun w' => ne_same E u8 wr w' T.out.1 T.out.2.2.1.1
            have EG := fun w' => eg_same E u8 wr w' T.out.1 T.out.2.2.1.1
            have HN := Lib.hid hn
            unfold wordB at W
            clear hn
            go_wp2_with fail
            refine W.out.mono ?_
            rintro q x1 ⟨bb, rfl, hblk, hb⟩
            have U := Lib.hid (un_note bb _ _ x1 hblk)
            have T1 : Hid (Thr w x1 k o l (.slice (some ⟨b, p, none⟩) l.length vc) (.note wordB E) (.iface 77 (.pointer (some ⟨bb, 0, none⟩))) true (n + 1)) := Lib.hid
              ⟨⟨bb, _, rfl, hblk, IsEr.on hb T.out.1⟩, T.out.2.1, ⟨⟨by decide, T.out.2.2.1.1⟩, by have := T.out.2.2.1.2.1; simp only [Er.cnt]; omega, by have := HN.out; omega⟩, T.out.2.2.2.1.on hb, T.out.2.2.2.2.1.below hb, T.out.2.2.2.2.2.trans (hb.mono T.out.2.2.2.2.2.size)⟩
            have Z1 := Lib.hid (show (Er.note wordB E).size ≤ 2 + 2 * (j + 1) by have := Z.out; simp only [Er.size]; omega)
            clear hblk hb W T Z
            go_wp2_with fail
            refine U.out.mono ?_
            rintro q x2 ⟨rfl, hx2⟩
            subst hx2
            clear U
            generalize (Er.note wordB E) = E1 at *
            generalize (Value.iface 77 (.pointer (some ⟨bb, 0, none⟩))) = V at *
            have F := Lib.hid (Er.fo_all T1.out.2.1)
            have SZ := Lib.hid (show E1.size ≤ 4000 by have := Z1.out; have := LT.out; have := L20.out; omega)
            have K := Lib.hid (fun w1 (h : Thr w w1 k o l (.slice (some ⟨b, p, none⟩) l.length vc) E1 V true (n + 1)) => t_kind E1 V w1 h.1 h.2.2.2.2.1.2)
            have O := Lib.hid (fun w1 (h : Thr w w1 k o l (.slice (some ⟨b, p, none⟩) l.length vc) E1 V true (n + 1)) => t_off E1 V w1 h.1 h.2.2.2.2.1.place)
            have I1 := Lib.hid (fun w1 (h : IsEr w1 E1 V) => t_faultIs E1 V k w1 h)
            have I2 := Lib.hid (fun w1 (h : IsEr w1 E1 V) => t_is (.fault k o) E1 V _ rfl w1 h rfl)
            have I3 := Lib.hid (fun w1 (h : IsEr w1 E1 V) => t_is (.sort k) E1 V _ rfl w1 h rfl)
            have AS := Lib.hid (fun w1 p1 (h : IsEr w1 E1 V) (hp : Blk w1 p1 41 #[.int .i64 0]) (hy : AsS.Ty w1) => AsS.t_as E1 V p1 w1 h hp hy)
            rw [F.out.1, kindV] at K
            rw [F.out.2.1, offV] at O
            rw [F.out.2.2.1] at I1 I3
            rw [F.out.2.2.2] at I2
            rw [E1.asS_is, F.out.1] at AS
            have L := Lib.hid (fun w1 (h : Thr w w1 k o l (.slice (some ⟨b, p, none⟩) l.length vc) E1 V true (n + 1)) => line_yes E1 V w1 h.1 h.2.2.1.1 SZ.out h.2.2.2.2.1.1)
            generalize E1.line = ln at L
            go_wp2_with fail
            refine (K.out _ T1.out).mono ?_
            rintro q y1 ⟨rfl, hb⟩
            replace T1 := Lib.hid (T1.out.on hb)
            clear hb
            go_wp2_with fail
            refine (O.out _ T1.out).mono ?_
            rintro q y2 ⟨rfl, hb⟩
            replace T1 := Lib.hid (T1.out.on hb)
            clear hb
            have B := Lib.hid (below_alloc y2 (.cells #[.int .i64 0] 41))
            have P := Lib.hid (Blk.new y2 41 #[.int .i64 0] rfl)
            have PB := Lib.hid (Nat.le_refl y2.heap.size)
            generalize hpp : y2.heap.size = pp at *
            go_wp2_with fail
            refine (I1.out _ (IsEr.on (hpp ▸ B.out) T1.out.1)).mono ?_
            rintro q y3 ⟨rfl, hb⟩
            replace P := Lib.hid (P.out.on hb)
            replace B := Lib.hid (B.out.trans (hb.mono (hpp ▸ B.out.size)))
            clear hb
            go_wp2_with fail
            refine (I2.out _ (IsEr.on (hpp ▸ B.out) T1.out.1)).mono ?_
            rintro q y4 ⟨rfl, hb⟩
            replace P := Lib.hid (P.out.on hb)
            replace B := Lib.hid (B.out.trans (hb.mono (hpp ▸ B.out.size)))
            clear hb
            go_wp2_with fail
            refine (I3.out _ (IsEr.on (hpp ▸ B.out) T1.out.1)).mono ?_
            rintro q y5 ⟨rfl, hb⟩
            replace P := Lib.hid (P.out.on hb)
            replace B := Lib.hid (B.out.trans (hb.mono (hpp ▸ B.out.size)))
            clear hb
            go_wp2_with fail
            refine (AS.out _ _ (IsEr.on (hpp ▸ B.out) T1.out.1) P.out (T1.out.2.2.2.2.1.2.on (hpp ▸ B.out))).mono ?_
            rintro q y6 ⟨rfl, Y, hb, hy⟩
            have cp := ((P.out.on hb).row #[.int .i64 k]).cell (j := 0) rfl
            rw [← hy] at cp
            have T2 := Lib.hid (T1.out.on (show Below y2.heap.size y2 y6 by rw [hpp, hy]; exact below_setRow (B.out.trans (hb.mono (hpp ▸ B.out.size))) PB.out _))
            clear hb hy B P PB T1
            go_wp2_with fail
            refine (L.out _ T2.out).mono ?_
            rintro q y7 ⟨rfl, hb⟩
            replace T2 := Lib.hid (T2.out.on hb)
            clear hb
            go_wp2
            go_roundg (l.length - (j + 1))
            case rel => exact ⟨j + 1, (n + 1), true, E1, LT.out, rfl, by go_num, by first | rfl | go_num, rfl, T2, Z1⟩
            case measure => have := LT.out; omega
          · obtain rfl : n = 8 := by have := T.out.2.2.1.2.2; omega
            have W := Lib.hid (t_wrap wordB (by decide) E u8 wr T.out.1)
            have CN := Lib.hid T.out.2.2.1.2.1
            unfold wordB at W
            clear hn
            go_wp2_with fail
            refine W.out.mono ?_
            rintro q x1 hq
            have hb := hq.2
            rcases hq.1 with ⟨-, rfl⟩ | ⟨hq, -⟩
            · have T1 := Lib.hid (T.out.on hb)
              have Z1 := Lib.hid (show E.size ≤ 2 + 2 * (j + 1) by have := Z.out; omega)
              clear hq hb W T Z
              go_wp2_with fail
              generalize E = E1 at *
              generalize u8 = V at *
              have F := Lib.hid (Er.fo_all T1.out.2.1)
              have SZ := Lib.hid (show E1.size ≤ 4000 by have := Z1.out; have := LT.out; have := L20.out; omega)
              have K := Lib.hid (fun w1 (h : Thr w w1 k o l (.slice (some ⟨b, p, none⟩) l.length vc) E1 V true 8) => t_kind E1 V w1 h.1 h.2.2.2.2.1.2)
              have O := Lib.hid (fun w1 (h : Thr w w1 k o l (.slice (some ⟨b, p, none⟩) l.length vc) E1 V true 8) => t_off E1 V w1 h.1 h.2.2.2.2.1.place)
              have I1 := Lib.hid (fun w1 (h : IsEr w1 E1 V) => t_faultIs E1 V k w1 h)
              have I2 := Lib.hid (fun w1 (h : IsEr w1 E1 V) => t_is (.fault k o) E1 V _ rfl w1 h rfl)
              have I3 := Lib.hid (fun w1 (h : IsEr w1 E1 V) => t_is (.sort k) E1 V _ rfl w1 h rfl)
              have AS := Lib.hid (fun w1 p1 (h : IsEr w1 E1 V) (hp : Blk w1 p1 41 #[.int .i64 0]) (hy : AsS.Ty w1) => AsS.t_as E1 V p1 w1 h hp hy)
              rw [F.out.1, kindV] at K
              rw [F.out.2.1, offV] at O
              rw [F.out.2.2.1] at I1 I3
              rw [F.out.2.2.2] at I2
              rw [E1.asS_is, F.out.1] at AS
              have L := Lib.hid (fun w1 (h : Thr w w1 k o l (.slice (some ⟨b, p, none⟩) l.length vc) E1 V true 8) => line_yes E1 V w1 h.1 h.2.2.1.1 SZ.out h.2.2.2.2.1.1)
              generalize E1.line = ln at L
              go_wp2_with fail
              refine (K.out _ T1.out).mono ?_
              rintro q y1 ⟨rfl, hb⟩
              replace T1 := Lib.hid (T1.out.on hb)
              clear hb
              go_wp2_with fail
              refine (O.out _ T1.out).mono ?_
              rintro q y2 ⟨rfl, hb⟩
              replace T1 := Lib.hid (T1.out.on hb)
              clear hb
              have B := Lib.hid (below_alloc y2 (.cells #[.int .i64 0] 41))
              have P := Lib.hid (Blk.new y2 41 #[.int .i64 0] rfl)
              have PB := Lib.hid (Nat.le_refl y2.heap.size)
              generalize hpp : y2.heap.size = pp at *
              go_wp2_with fail
              refine (I1.out _ (IsEr.on (hpp ▸ B.out) T1.out.1)).mono ?_
              rintro q y3 ⟨rfl, hb⟩
              replace P := Lib.hid (P.out.on hb)
              replace B := Lib.hid (B.out.trans (hb.mono (hpp ▸ B.out.size)))
              clear hb
              go_wp2_with fail
              refine (I2.out _ (IsEr.on (hpp ▸ B.out) T1.out.1)).mono ?_
              rintro q y4 ⟨rfl, hb⟩
              replace P := Lib.hid (P.out.on hb)
              replace B := Lib.hid (B.out.trans (hb.mono (hpp ▸ B.out.size)))
              clear hb
              go_wp2_with fail
              refine (I3.out _ (IsEr.on (hpp ▸ B.out) T1.out.1)).mono ?_
              rintro q y5 ⟨rfl, hb⟩
              replace P := Lib.hid (P.out.on hb)
              replace B := Lib.hid (B.out.trans (hb.mono (hpp ▸ B.out.size)))
              clear hb
              go_wp2_with fail
              refine (AS.out _ _ (IsEr.on (hpp ▸ B.out) T1.out.1) P.out (T1.out.2.2.2.2.1.2.on (hpp ▸ B.out))).mono ?_
              rintro q y6 ⟨rfl, Y, hb, hy⟩
              have cp := ((P.out.on hb).row #[.int .i64 k]).cell (j := 0) rfl
              rw [← hy] at cp
              have T2 := Lib.hid (T1.out.on (show Below y2.heap.size y2 y6 by rw [hpp, hy]; exact below_setRow (B.out.trans (hb.mono (hpp ▸ B.out.size))) PB.out _))
              clear hb hy B P PB T1
              go_wp2_with fail
              refine (L.out _ T2.out).mono ?_
              rintro q y7 ⟨rfl, hb⟩
              replace T2 := Lib.hid (T2.out.on hb)
              clear hb
              go_wp2
              go_roundg (l.length - (j + 1))
              case rel => exact ⟨j + 1, 8, true, E1, LT.out, rfl, by go_num, by first | rfl | go_num, rfl, T2, Z1⟩
              case measure => have := LT.out; omega
            · have := CN.out; omega
        | false =>
          have W := Lib.hid (t_wrap wordB (by decide) E u8 wr T.out.1)
          unfold wordB at W
          go_wp2_with fail
          refine W.out.mono ?_
          rintro q x1 hq
          have hb := hq.2
          obtain ⟨V, rfl, hu⟩ := hq.is T.out.1
          have T1 : Hid (Thr w x1 k o l (.slice (some ⟨b, p, none⟩) l.length vc) (wrapE wordB E) V false n) := Lib.hid
            ⟨hu, wrap_fo T.out.2.1, wrap_bare T.out.2.2.1, T.out.2.2.2.1.on hb, T.out.2.2.2.2.1.below hb, T.out.2.2.2.2.2.trans (hb.mono T.out.2.2.2.2.2.size)⟩
          have Z1 := Lib.hid (show (wrapE wordB E).size ≤ 2 + 2 * (j + 1) by have := Z.out; have := wrap_size E; omega)
          clear hq hb hu W T Z
          go_wp2_with fail
          generalize wrapE wordB E = E1 at *
          have F := Lib.hid (Er.fo_all T1.out.2.1)
          have SZ := Lib.hid (show E1.size ≤ 4000 by have := Z1.out; have := LT.out; have := L20.out; omega)
          have K := Lib.hid (fun w1 (h : Thr w w1 k o l (.slice (some ⟨b, p, none⟩) l.length vc) E1 V false n) => t_kind E1 V w1 h.1 h.2.2.2.2.1.2)
          have O := Lib.hid (fun w1 (h : Thr w w1 k o l (.slice (some ⟨b, p, none⟩) l.length vc) E1 V false n) => t_off E1 V w1 h.1 h.2.2.2.2.1.place)
          have I1 := Lib.hid (fun w1 (h : IsEr w1 E1 V) => t_faultIs E1 V k w1 h)
          have I2 := Lib.hid (fun w1 (h : IsEr w1 E1 V) => t_is (.fault k o) E1 V _ rfl w1 h rfl)
          have I3 := Lib.hid (fun w1 (h : IsEr w1 E1 V) => t_is (.sort k) E1 V _ rfl w1 h rfl)
          have AS := Lib.hid (fun w1 p1 (h : IsEr w1 E1 V) (hp : Blk w1 p1 41 #[.int .i64 0]) (hy : AsS.Ty w1) => AsS.t_as E1 V p1 w1 h hp hy)
          rw [F.out.1, kindV] at K
          rw [F.out.2.1, offV] at O
          rw [F.out.2.2.1] at I1 I3
          rw [F.out.2.2.2] at I2
          rw [E1.asS_is, F.out.1] at AS
          have L := Lib.hid (fun w1 (h : Thr w w1 k o l (.slice (some ⟨b, p, none⟩) l.length vc) E1 V false n) => line_no (some E1) V w1 h.1 SZ.out h.2.2.1)
          go_wp2_with fail
          refine (K.out _ T1.out).mono ?_
          rintro q y1 ⟨rfl, hb⟩
          replace T1 := Lib.hid (T1.out.on hb)
          clear hb
          go_wp2_with fail
          refine (O.out _ T1.out).mono ?_
          rintro q y2 ⟨rfl, hb⟩
          replace T1 := Lib.hid (T1.out.on hb)
          clear hb
          have B := Lib.hid (below_alloc y2 (.cells #[.int .i64 0] 41))
          have P := Lib.hid (Blk.new y2 41 #[.int .i64 0] rfl)
          have PB := Lib.hid (Nat.le_refl y2.heap.size)
          generalize hpp : y2.heap.size = pp at *
          go_wp2_with fail
          refine (I1.out _ (IsEr.on (hpp ▸ B.out) T1.out.1)).mono ?_
          rintro q y3 ⟨rfl, hb⟩
          replace P := Lib.hid (P.out.on hb)
          replace B := Lib.hid (B.out.trans (hb.mono (hpp ▸ B.out.size)))
          clear hb
          go_wp2_with fail
          refine (I2.out _ (IsEr.on (hpp ▸ B.out) T1.out.1)).mono ?_
          rintro q y4 ⟨rfl, hb⟩
          replace P := Lib.hid (P.out.on hb)
          replace B := Lib.hid (B.out.trans (hb.mono (hpp ▸ B.out.size)))
          clear hb
          go_wp2_with fail
          refine (I3.out _ (IsEr.on (hpp ▸ B.out) T1.out.1)).mono ?_
          rintro q y5 ⟨rfl, hb⟩
          replace P := Lib.hid (P.out.on hb)
          replace B := Lib.hid (B.out.trans (hb.mono (hpp ▸ B.out.size)))
          clear hb
          go_wp2_with fail
          refine (AS.out _ _ (IsEr.on (hpp ▸ B.out) T1.out.1) P.out (T1.out.2.2.2.2.1.2.on (hpp ▸ B.out))).mono ?_
          rintro q y6 ⟨rfl, Y, hb, hy⟩
          have cp := ((P.out.on hb).row #[.int .i64 k]).cell (j := 0) rfl
          rw [← hy] at cp
          have T2 := Lib.hid (T1.out.on (show Below y2.heap.size y2 y6 by rw [hpp, hy]; exact below_setRow (B.out.trans (hb.mono (hpp ▸ B.out.size))) PB.out _))
          clear hb hy B P PB T1
          go_wp2_with fail
          refine (L.out _ T2.out).mono ?_
          rintro q y7 ⟨rfl, hb⟩
          replace T2 := Lib.hid (T2.out.on hb)
          clear hb
          go_wp2
          go_roundg (l.length - (j + 1))
          case rel => exact ⟨j + 1, n, false, E1, LT.out, rfl, by go_num, by first | rfl | go_num, rfl, T2, Z1⟩
          case measure => have := LT.out; omega
      · obtain ⟨vt, vx, rfl⟩ := T.out.1.iface
        have T1 : Hid (Thr w wr k o l (.slice (some ⟨b, p, none⟩) l.length vc) (.around E) (.iface 54 (.agg #[.iface vt vx])) false n) := Lib.hid
          ⟨⟨_, rfl, T.out.1⟩, T.out.2.1, rfl, T.out.2.2.2⟩
        have Z1 := Lib.hid (show (Er.around E).size ≤ 2 + 2 * (j + 1) by have := Z.out; simp only [Er.size]; omega)
        clear T Z
        go_wp2_with fail
        generalize Er.around E = E1 at *
        generalize (Value.iface 54 (.agg #[.iface vt vx])) = V at *
        have F := Lib.hid (Er.fo_all T1.out.2.1)
        have SZ := Lib.hid (show E1.size ≤ 4000 by have := Z1.out; have := LT.out; have := L20.out; omega)
        have K := Lib.hid (fun w1 (h : Thr w w1 k o l (.slice (some ⟨b, p, none⟩) l.length vc) E1 V false n) => t_kind E1 V w1 h.1 h.2.2.2.2.1.2)
        have O := Lib.hid (fun w1 (h : Thr w w1 k o l (.slice (some ⟨b, p, none⟩) l.length vc) E1 V false n) => t_off E1 V w1 h.1 h.2.2.2.2.1.place)
        have I1 := Lib.hid (fun w1 (h : IsEr w1 E1 V) => t_faultIs E1 V k w1 h)
        have I2 := Lib.hid (fun w1 (h : IsEr w1 E1 V) => t_is (.fault k o) E1 V _ rfl w1 h rfl)
        have I3 := Lib.hid (fun w1 (h : IsEr w1 E1 V) => t_is (.sort k) E1 V _ rfl w1 h rfl)
        have AS := Lib.hid (fun w1 p1 (h : IsEr w1 E1 V) (hp : Blk w1 p1 41 #[.int .i64 0]) (hy : AsS.Ty w1) => AsS.t_as E1 V p1 w1 h hp hy)
        rw [F.out.1, kindV] at K
        rw [F.out.2.1, offV] at O
        rw [F.out.2.2.1] at I1 I3
        rw [F.out.2.2.2] at I2
        rw [E1.asS_is, F.out.1] at AS
        have L := Lib.hid (fun w1 (h : Thr w w1 k o l (.slice (some ⟨b, p, none⟩) l.length vc) E1 V false n) => line_no (some E1) V w1 h.1 SZ.out h.2.2.1)
        go_wp2_with fail
        refine (K.out _ T1.out).mono ?_
        rintro q y1 ⟨rfl, hb⟩
        replace T1 := Lib.hid (T1.out.on hb)
        clear hb
        go_wp2_with fail
        refine (O.out _ T1.out).mono ?_
        rintro q y2 ⟨rfl, hb⟩
        replace T1 := Lib.hid (T1.out.on hb)
        clear hb
        have B := Lib.hid (below_alloc y2 (.cells #[.int .i64 0] 41))
        have P := Lib.hid (Blk.new y2 41 #[.int .i64 0] rfl)
        have PB := Lib.hid (Nat.le_refl y2.heap.size)
        generalize hpp : y2.heap.size = pp at *
        go_wp2_with fail
        refine (I1.out _ (IsEr.on (hpp ▸ B.out) T1.out.1)).mono ?_
        rintro q y3 ⟨rfl, hb⟩
        replace P := Lib.hid (P.out.on hb)
        replace B := Lib.hid (B.out.trans (hb.mono (hpp ▸ B.out.size)))
        clear hb
        go_wp2_with fail
        refine (I2.out _ (IsEr.on (hpp ▸ B.out) T1.out.1)).mono ?_
        rintro q y4 ⟨rfl, hb⟩
        replace P := Lib.hid (P.out.on hb)
        replace B := Lib.hid (B.out.trans (hb.mono (hpp ▸ B.out.size)))
        clear hb
        go_wp2_with fail
        refine (I3.out _ (IsEr.on (hpp ▸ B.out) T1.out.1)).mono ?_
        rintro q y5 ⟨rfl, hb⟩
        replace P := Lib.hid (P.out.on hb)
        replace B := Lib.hid (B.out.trans (hb.mono (hpp ▸ B.out.size)))
        clear hb
        go_wp2_with fail
        refine (AS.out _ _ (IsEr.on (hpp ▸ B.out) T1.out.1) P.out (T1.out.2.2.2.2.1.2.on (hpp ▸ B.out))).mono ?_
        rintro q y6 ⟨rfl, Y, hb, hy⟩
        have cp := ((P.out.on hb).row #[.int .i64 k]).cell (j := 0) rfl
        rw [← hy] at cp
        have T2 := Lib.hid (T1.out.on (show Below y2.heap.size y2 y6 by rw [hpp, hy]; exact below_setRow (B.out.trans (hb.mono (hpp ▸ B.out.size))) PB.out _))
        clear hb hy B P PB T1
        go_wp2_with fail
        refine (L.out _ T2.out).mono ?_
        rintro q y7 ⟨rfl, hb⟩
        replace T2 := Lib.hid (T2.out.on hb)
        clear hb
        go_wp2
        go_roundg (l.length - (j + 1))
        case rel => exact ⟨j + 1, n, false, E1, LT.out, rfl, by go_num, by first | rfl | go_num, rfl, T2, Z1⟩
        case measure => have := LT.out; omega
      · obtain ⟨vt, vx, rfl⟩ := T.out.1.iface
        go_wp2_with fail
        refine (e_new _ wr).mono ?_
        rintro q x1 ⟨rfl, hi, hb⟩
        obtain ⟨aa, haa⟩ : ∃ aa, aa = wr.heap.size := ⟨_, rfl⟩
        rw [← haa] at hi ⊢
        obtain ⟨-, s, ha⟩ := hi
        have hc := below_alloc x1 (.cells #[.iface 87 (.pointer (some ⟨aa, 0, none⟩)), .iface vt vx] 27)
        have hbc := hb.trans (hc.mono hb.size)
        have bn := Blk.new x1 27 #[.iface 87 (.pointer (some ⟨aa, 0, none⟩)), .iface vt vx] rfl
        have J := Lib.hid (t_join2 aa s E (.iface vt vx) x1.heap.size _ (ha.on hc) (IsEr.on hbc T.out.1) ⟨bn.lt, bn.cell (j := 0) rfl, bn.cell (j := 1) rfl⟩)
        have HC := Lib.hid hbc
        clear ha hc hbc bn hb haa
        go_wp2_with fail
        refine J.out.mono ?_
        rintro q x2 ⟨⟨V, rfl, hu⟩, hb3⟩
        have hb := HC.out.trans (hb3.mono HC.out.size)
        have T1 : Hid (Thr w x2 k o l (.slice (some ⟨b, p, none⟩) l.length vc) (.join aa E) V false n) := Lib.hid
          ⟨hu, T.out.2.1, rfl, T.out.2.2.2.1.on hb, T.out.2.2.2.2.1.below hb, T.out.2.2.2.2.2.trans (hb.mono T.out.2.2.2.2.2.size)⟩
        have Z1 := Lib.hid (show (Er.join aa E).size ≤ 2 + 2 * (j + 1) by have := Z.out; simp only [Er.size]; omega)
        clear hu hb hb3 J HC T Z
        go_wp2_with fail
        generalize Er.join aa E = E1 at *
        have F := Lib.hid (Er.fo_all T1.out.2.1)
        have SZ := Lib.hid (show E1.size ≤ 4000 by have := Z1.out; have := LT.out; have := L20.out; omega)
        have K := Lib.hid (fun w1 (h : Thr w w1 k o l (.slice (some ⟨b, p, none⟩) l.length vc) E1 V false n) => t_kind E1 V w1 h.1 h.2.2.2.2.1.2)
        have O := Lib.hid (fun w1 (h : Thr w w1 k o l (.slice (some ⟨b, p, none⟩) l.length vc) E1 V false n) => t_off E1 V w1 h.1 h.2.2.2.2.1.place)
        have I1 := Lib.hid (fun w1 (h : IsEr w1 E1 V) => t_faultIs E1 V k w1 h)
        have I2 := Lib.hid (fun w1 (h : IsEr w1 E1 V) => t_is (.fault k o) E1 V _ rfl w1 h rfl)
        have I3 := Lib.hid (fun w1 (h : IsEr w1 E1 V) => t_is (.sort k) E1 V _ rfl w1 h rfl)
        have AS := Lib.hid (fun w1 p1 (h : IsEr w1 E1 V) (hp : Blk w1 p1 41 #[.int .i64 0]) (hy : AsS.Ty w1) => AsS.t_as E1 V p1 w1 h hp hy)
        rw [F.out.1, kindV] at K
        rw [F.out.2.1, offV] at O
        rw [F.out.2.2.1] at I1 I3
        rw [F.out.2.2.2] at I2
        rw [E1.asS_is, F.out.1] at AS
        have L := Lib.hid (fun w1 (h : Thr w w1 k o l (.slice (some ⟨b, p, none⟩) l.length vc) E1 V false n) => line_no (some E1) V w1 h.1 SZ.out h.2.2.1)
        go_wp2_with fail
        refine (K.out _ T1.out).mono ?_
        rintro q y1 ⟨rfl, hb⟩
        replace T1 := Lib.hid (T1.out.on hb)
        clear hb
        go_wp2_with fail
        refine (O.out _ T1.out).mono ?_
        rintro q y2 ⟨rfl, hb⟩
        replace T1 := Lib.hid (T1.out.on hb)
        clear hb
        have B := Lib.hid (below_alloc y2 (.cells #[.int .i64 0] 41))
        have P := Lib.hid (Blk.new y2 41 #[.int .i64 0] rfl)
        have PB := Lib.hid (Nat.le_refl y2.heap.size)
        generalize hpp : y2.heap.size = pp at *
        go_wp2_with fail
        refine (I1.out _ (IsEr.on (hpp ▸ B.out) T1.out.1)).mono ?_
        rintro q y3 ⟨rfl, hb⟩
        replace P := Lib.hid (P.out.on hb)
        replace B := Lib.hid (B.out.trans (hb.mono (hpp ▸ B.out.size)))
        clear hb
        go_wp2_with fail
        refine (I2.out _ (IsEr.on (hpp ▸ B.out) T1.out.1)).mono ?_
        rintro q y4 ⟨rfl, hb⟩
        replace P := Lib.hid (P.out.on hb)
        replace B := Lib.hid (B.out.trans (hb.mono (hpp ▸ B.out.size)))
        clear hb
        go_wp2_with fail
        refine (I3.out _ (IsEr.on (hpp ▸ B.out) T1.out.1)).mono ?_
        rintro q y5 ⟨rfl, hb⟩
        replace P := Lib.hid (P.out.on hb)
        replace B := Lib.hid (B.out.trans (hb.mono (hpp ▸ B.out.size)))
        clear hb
        go_wp2_with fail
        refine (AS.out _ _ (IsEr.on (hpp ▸ B.out) T1.out.1) P.out (T1.out.2.2.2.2.1.2.on (hpp ▸ B.out))).mono ?_
        rintro q y6 ⟨rfl, Y, hb, hy⟩
        have cp := ((P.out.on hb).row #[.int .i64 k]).cell (j := 0) rfl
        rw [← hy] at cp
        have T2 := Lib.hid (T1.out.on (show Below y2.heap.size y2 y6 by rw [hpp, hy]; exact below_setRow (B.out.trans (hb.mono (hpp ▸ B.out.size))) PB.out _))
        clear hb hy B P PB T1
        go_wp2_with fail
        refine (L.out _ T2.out).mono ?_
        rintro q y7 ⟨rfl, hb⟩
        replace T2 := Lib.hid (T2.out.on hb)
        clear hb
        go_wp2
        go_roundg (l.length - (j + 1))
        case rel => exact ⟨j + 1, n, false, E1, LT.out, rfl, by go_num, by first | rfl | go_num, rfl, T2, Z1⟩
        case measure => have := LT.out; omega
    · obtain rfl : j = l.length := by omega
      clear hlt hj
      go_wp2
      go_ret
      exact ⟨rfl, T.out.2.2.2.2.2⟩
end Go.Proofs.YtcipgagpmglikaaGreatDoor
