/-
  The law AddrBack.
-/
import Derived.Test.YthghanidabmfgaaGreatDoorPEnds5
import Derived.Test.YthghanidabmfgaaGreatDoorUpper5
import Derived.Test.YthghanidabmfgaaGreatDoorOpen5b
namespace Go.Proofs.YthghanidabmfgaaGreatDoor
open Go.RowKit Go.Sort
set_option maxRecDepth 100000
theorem encode_len (v : Int) : (Lib.encodeRune v).length ≤ 4 := by
  unfold Lib.encodeRune Lib.encodeRuneZ
  rw [List.length_map]
  (repeat' split) <;> simp
theorem upper_len : ∀ (n : Nat) (l : List UInt8), l.length ≤ n → (Lib.toUpperD l).length ≤ 4 * l.length
  | 0, l, hl => by
    obtain rfl := List.length_eq_zero_iff.1 (by omega : l.length = 0)
    exact Nat.zero_le _
  | n + 1, [], _ => Nat.zero_le _
  | n + 1, b :: t, hl => by
    have st := Lib.mapD_step Lib.toUpperU (b :: t) (by simp)
    have hw := Lib.decodeL_width (b :: t)
    have hle := Lib.decodeL_le (b :: t) (by simp)
    have dl : ((b :: t).drop (Lib.decodeL (b :: t)).2).length = (b :: t).length - (Lib.decodeL (b :: t)).2 := List.length_drop
    have ih := upper_len n ((b :: t).drop (Lib.decodeL (b :: t)).2) (by omega)
    unfold Lib.toUpperD at ih ⊢
    rw [st, List.length_append]
    have h4 : (if 0 ≤ Lib.toUpperU (Lib.decodeL (b :: t)).1 then Lib.encodeRune (Lib.toUpperU (Lib.decodeL (b :: t)).1) else []).length ≤ 4 := by
      split
      · exact encode_len _
      · exact Nat.zero_le _
    omega
theorem te_bound {v : Bool} {b : List Int} {p : Int} (h : IsA b) (hp : 0 ≤ p ∧ p ≤ 65535) : (te v b p).length ≤ 110 := by
  have h1 := tx_bound (v := v) h
  have h2 := itoa_length p 5 (by omega) (by decide)
  rw [te_front, List.length_append, List.length_cons]
  unfold front
  split
  · simp; omega
  · omega
/-- The law's address in its variable. -/
def PB (w wr : World) (v : Bool) (b : List Int) : Prop := Blk wr w.heap.size 24 (adC v b) ∧ Below w.heap.size w wr
theorem PB.on {w w1 w2 : World} {v : Bool} {b : List Int} (h : PB w w1 v b) (hb : Below w1.heap.size w1 w2) : PB w w2 v b := ⟨h.1.on hb, h.2.trans (hb.mono h.2.size)⟩
theorem PB.newRow {w W : World} {v : Bool} {b : List Int} (h : PB w W v b) (T : TypeId) (zs cs : Array Value) : PB w ((W.alloc (.cells zs T)).setRow W.heap.size cs) v b ∧ Blk ((W.alloc (.cells zs T)).setRow W.heap.size cs) W.heap.size T cs := ⟨⟨new_old _ _ _ h.1, (new_row T zs cs h.2).2⟩, (new_row T zs cs h.2).1⟩
set_option maxHeartbeats 8000000 in
theorem addrBack_any (v : Bool) (b : List Int) (p : Int) (s : ByteArray) (ha : IsA b) (hp : 0 ≤ p ∧ p ≤ 65535) (w : World) (hw : Env6 w) :
    Calls Tryz.prog 5 #[.agg (adC v b), .int .u16 p, .string s] w fun e w' => e = .returned (.bool true) ∧ Below w.heap.size w w' := by
  have G := Lib.hid hw
  have K := Lib.hid (fun w hw => known_any w hw)
  have A0 : Hid (PB w (w.alloc (.cells (adC v b) 24)) v b) := Lib.hid ⟨Blk.new _ _ _ rfl, below_alloc _ _⟩
  have bl := ha.1
  clear hw
  by_cases h2 : 200 < s.size
  · have h2' : (200 : Int) < s.size := by omega
    go_enter Tryz.func5, Tryz.ntmps5
    go_upto_region 1 with fail
    generalize w.alloc (.cells (adC v b) 24) = w1 at *
    go_wp2_with (go_at_call 7; refine (K.out _ (G.out.below A0.out.2).1).mono ?_; rintro e w2 ⟨rfl, hb⟩; have A2 := Lib.hid (A0.out.on hb); clear hb)
    go_ret
    exact ⟨rfl, A2.out.2⟩
  · have h2' : ¬ (200 : Int) < s.size := by omega
    have P := Lib.hid (fun w hw => t_print v b ha w hw)
    have PS := Lib.hid (fun w hw => t_parse s (by omega) w hw)
    have ls : s.data.toList.length = s.size := by simp
    have UP := Lib.hid (fun w (hw : Env6 w) => Tryz.strings_ToUpper_any s w (by omega) hw.2.1 hw.2.2)
    rw [show (⟨(Lib.toUpperD s.data.toList).toArray⟩ : ByteArray) = str (Lib.toUpperD s.data.toList) from rfl] at UP
    have PU := Lib.hid (tells_parse (Lib.toUpperD s.data.toList) (by have := upper_len _ s.data.toList (Nat.le_refl _); omega))
    have PEQ : paV (Lib.toUpperD s.data.toList) = paV s.data.toList := by unfold paV; rw [parse_upper]
    rw [PEQ] at PU
    clear PEQ
    generalize str (Lib.toUpperD s.data.toList) = su at *
    obtain ⟨v', b', k, bl', hpa, hk⟩ : ∃ (v' : Bool) (b' : List Int) (k : Int), b'.length = 16 ∧ paV s.data.toList = .tuple #[.agg (adC v' b'), .int .i64 k] ∧ ((k = 0 ∧ IsA b' ∧ mayB v' b' = true) ∨ k = 9) := by
      cases h : parseA s.data.toList with
      | none => exact ⟨false, n16, 9, rfl, paV_none h, Or.inr rfl⟩
      | some vb =>
        obtain ⟨v, b⟩ := vb
        exact ⟨v, b, 0, (parse_is h).1.1, paV_some h, Or.inl ⟨rfl, (parse_is h).1, (parse_is h).2⟩⟩
    rw [hpa] at PS PU
    clear hpa ls
    have HK := Lib.hid hk
    clear hk
    go_enter Tryz.func5, Tryz.ntmps5
    go_upto_region 1 with fail
    generalize w.alloc (.cells (adC v b) 24) = w1 at *
    go_upto_region 5 with (go_at_call 7; refine (K.out _ (G.out.below A0.out.2).1).mono ?_; rintro e w2 ⟨rfl, hb⟩; have A2 := Lib.hid (A0.out.on hb); clear hb)
    clear K A0
    have d2 := ld_addr bl A2.out.1
    cases hm : mayB v b
    · rw [show prV v b = .tuple #[.string ⟨#[]⟩, .int .i64 2] by unfold prV; rw [hm]; rfl] at P
      clear hm
      go_upto_region 13 with (first
        | (refine wl_load rfl _ _ rfl _ rfl _ d2 ?_)
        | (go_at_call 8; refine (P.out _ (G.out.below A2.out.2).1).mono ?_; rintro q w9 ⟨rfl, hb⟩; have S9 := Lib.hid (A2.out.on hb).2; clear hb))
      clear A2 d2 P
      go_upto_region 14 with (first
        | (go_at_call 15; refine (PS.out _ (G.out.below S9.out).1).mono ?_; rintro q w10 ⟨rfl, hb⟩; have S10 := Lib.hid (S9.out.trans (hb.mono S9.out.size)); clear hb)
        | (refine wl_store rfl _ _ _ rfl _ rfl (.agg (adC v' b')) rfl _ (st_newA (v := v') (b := b') bl' w10) ?_))
      have A11 := Lib.hid (new_row 24 #[.bool false, .int .u8 0, .int .u8 0, .int .u8 0, .int .u8 0, .int .u8 0, .int .u8 0, .int .u8 0, .int .u8 0, .int .u8 0, .int .u8 0, .int .u8 0, .int .u8 0, .int .u8 0, .int .u8 0, .int .u8 0, .int .u8 0] (adC v' b') S10.out)
      generalize (w10.alloc (.cells #[.bool false, .int .u8 0, .int .u8 0, .int .u8 0, .int .u8 0, .int .u8 0, .int .u8 0, .int .u8 0, .int .u8 0, .int .u8 0, .int .u8 0, .int .u8 0, .int .u8 0, .int .u8 0, .int .u8 0, .int .u8 0, .int .u8 0] 24)).setRow w10.heap.size (adC v' b') = w11 at *
      generalize w10.heap.size = g11 at *
      clear S9 S10 PS
      go_upto_region 15 with (first
        | (go_at_call 19; refine (UP.out _ (G.out.below A11.out.2)).mono ?_; rintro q w12 ⟨rfl, hb⟩; have A12 := Lib.hid (show Blk w12 g11 24 (adC v' b') ∧ Below w.heap.size w w12 from ⟨A11.out.1.on hb, A11.out.2.trans (hb.mono A11.out.2.size)⟩); clear hb)
        | (go_at_call 15; refine (PU.out _ (G.out.below A12.out.2).1).mono ?_; rintro q w13 ⟨rfl, hb⟩; have A13 := Lib.hid (show Blk w13 g11 24 (adC v' b') ∧ Below w.heap.size w w13 from ⟨A12.out.1.on hb, A12.out.2.trans (hb.mono A12.out.2.size)⟩); clear hb)
        | (refine wl_store rfl _ _ _ rfl _ rfl (.agg (adC v' b')) rfl _ (st_newA (v := v') (b := b') bl' w13) ?_))
      have A14 := Lib.hid (show Blk ((w13.alloc (.cells #[.bool false, .int .u8 0, .int .u8 0, .int .u8 0, .int .u8 0, .int .u8 0, .int .u8 0, .int .u8 0, .int .u8 0, .int .u8 0, .int .u8 0, .int .u8 0, .int .u8 0, .int .u8 0, .int .u8 0, .int .u8 0, .int .u8 0] 24)).setRow w13.heap.size (adC v' b')) g11 24 (adC v' b') ∧ Blk ((w13.alloc (.cells #[.bool false, .int .u8 0, .int .u8 0, .int .u8 0, .int .u8 0, .int .u8 0, .int .u8 0, .int .u8 0, .int .u8 0, .int .u8 0, .int .u8 0, .int .u8 0, .int .u8 0, .int .u8 0, .int .u8 0, .int .u8 0, .int .u8 0] 24)).setRow w13.heap.size (adC v' b')) w13.heap.size 24 (adC v' b') ∧ Below w.heap.size w ((w13.alloc (.cells #[.bool false, .int .u8 0, .int .u8 0, .int .u8 0, .int .u8 0, .int .u8 0, .int .u8 0, .int .u8 0, .int .u8 0, .int .u8 0, .int .u8 0, .int .u8 0, .int .u8 0, .int .u8 0, .int .u8 0, .int .u8 0, .int .u8 0] 24)).setRow w13.heap.size (adC v' b')) from ⟨new_old _ _ _ A13.out.1, new_row _ _ _ A13.out.2⟩)
      generalize (w13.alloc (.cells #[.bool false, .int .u8 0, .int .u8 0, .int .u8 0, .int .u8 0, .int .u8 0, .int .u8 0, .int .u8 0, .int .u8 0, .int .u8 0, .int .u8 0, .int .u8 0, .int .u8 0, .int .u8 0, .int .u8 0, .int .u8 0, .int .u8 0] 24)).setRow w13.heap.size (adC v' b') = w14 at *
      generalize w13.heap.size = g14 at *
      clear A11 A12 A13 UP PU
      have d0 := ld_addr bl' A14.out.1
      have d1 := ld_addr bl' A14.out.2.1
      have e0 := qA v' v' b' b' bl' bl'
      rw [show decide (v' = v' ∧ b' = b') = true by simp] at e0
      rcases HK.out with ⟨rfl, hA', hM'⟩ | rfl
      · have PR := Lib.hid (fun w hw => t_print v' b' hA' w hw)
        rw [prV_ok hM'] at PR
        have PP := Lib.hid ((tells_parse (tx v' b') (by have := tx_bound (v := v') hA'; omega)).as rfl (paV_some (parse_tx hA' hM')))
        clear hA' hM' HK
        generalize str (tx v' b') = st at *
        go_upto_region 20 with (first
          | (refine wl_load rfl _ _ rfl _ rfl _ d0 ?_)
          | (refine wl_load rfl _ _ rfl _ rfl _ d1 ?_)
          | (go_at_call 8; refine (PR.out _ (G.out.below A14.out.2.2).1).mono ?_; rintro q w15 ⟨rfl, hb⟩; have A15 := Lib.hid (show Blk w15 g11 24 (adC v' b') ∧ Below w.heap.size w w15 from ⟨A14.out.1.on hb, A14.out.2.2.trans (hb.mono A14.out.2.2.size)⟩); clear hb))
        clear A14 d0 d1
        go_upto_region 21 with (first
          | (go_at_call 15; refine (PP.out _ (G.out.below A15.out.2).1).mono ?_; rintro q w16 ⟨rfl, hb⟩; have A16 := Lib.hid (show Blk w16 g11 24 (adC v' b') ∧ Below w.heap.size w w16 from ⟨A15.out.1.on hb, A15.out.2.trans (hb.mono A15.out.2.size)⟩); clear hb)
          | (refine wl_store rfl _ _ _ rfl _ rfl (.agg (adC v' b')) rfl _ (st_newA (v := v') (b := b') bl' w16) ?_))
        have A17 := Lib.hid (show Blk ((w16.alloc (.cells #[.bool false, .int .u8 0, .int .u8 0, .int .u8 0, .int .u8 0, .int .u8 0, .int .u8 0, .int .u8 0, .int .u8 0, .int .u8 0, .int .u8 0, .int .u8 0, .int .u8 0, .int .u8 0, .int .u8 0, .int .u8 0, .int .u8 0] 24)).setRow w16.heap.size (adC v' b')) g11 24 (adC v' b') ∧ Blk ((w16.alloc (.cells #[.bool false, .int .u8 0, .int .u8 0, .int .u8 0, .int .u8 0, .int .u8 0, .int .u8 0, .int .u8 0, .int .u8 0, .int .u8 0, .int .u8 0, .int .u8 0, .int .u8 0, .int .u8 0, .int .u8 0, .int .u8 0, .int .u8 0] 24)).setRow w16.heap.size (adC v' b')) w16.heap.size 24 (adC v' b') ∧ Below w.heap.size w ((w16.alloc (.cells #[.bool false, .int .u8 0, .int .u8 0, .int .u8 0, .int .u8 0, .int .u8 0, .int .u8 0, .int .u8 0, .int .u8 0, .int .u8 0, .int .u8 0, .int .u8 0, .int .u8 0, .int .u8 0, .int .u8 0, .int .u8 0, .int .u8 0] 24)).setRow w16.heap.size (adC v' b')) from ⟨new_old _ _ _ A16.out.1, new_row _ _ _ A16.out.2⟩)
        generalize (w16.alloc (.cells #[.bool false, .int .u8 0, .int .u8 0, .int .u8 0, .int .u8 0, .int .u8 0, .int .u8 0, .int .u8 0, .int .u8 0, .int .u8 0, .int .u8 0, .int .u8 0, .int .u8 0, .int .u8 0, .int .u8 0, .int .u8 0, .int .u8 0] 24)).setRow w16.heap.size (adC v' b') = w17 at *
        generalize w16.heap.size = g17 at *
        clear A15 A16 PP
        have d3 := ld_addr bl' A17.out.2.1
        go_upto_region 22 with (first
          | (refine wl_load rfl _ _ rfl _ rfl _ d3 ?_)
          | (go_at_call 8; refine (PR.out _ (G.out.below A17.out.2.2).1).mono ?_; rintro q w18 ⟨rfl, hb⟩; have A18 := Lib.hid (show Blk w18 g11 24 (adC v' b') ∧ Blk w18 g17 24 (adC v' b') ∧ Below w.heap.size w w18 from ⟨A17.out.1.on hb, A17.out.2.1.on hb, A17.out.2.2.trans (hb.mono A17.out.2.2.size)⟩); clear hb))
        clear A17 d3 PR
        have d4 := ld_addr bl' A18.out.1
        have d5 := ld_addr bl' A18.out.2.1
        go_wp2_with (first
          | (refine wl_load rfl _ _ rfl _ rfl _ d4 ?_)
          | (refine wl_load rfl _ _ rfl _ rfl _ d5 ?_))
        go_ret
        exact ⟨by simp, A18.out.2.2⟩
      · go_wp2_with (first
          | (refine wl_load rfl _ _ rfl _ rfl _ d0 ?_)
          | (refine wl_load rfl _ _ rfl _ rfl _ d1 ?_))
        go_ret
        exact ⟨rfl, A14.out.2.2⟩
    · have tb := tx_bound (v := v) ha
      have eb := te_bound (v := v) ha hp
      have PX := Lib.hid ((tells_parse (tx v b) (by omega)).as rfl (paV_some (parse_tx ha hm)))
      have E := Lib.hid (fun w hw => t_ends v b p ha hp w hw)
      have PE := Lib.hid (fun w hw => t_parseEnds (str (te v b p)) (by rw [str_size]; omega) w hw)
      rw [str_list, peV_some (ends_te ha hm hp)] at PE
      rw [prV_ok hm] at P
      rw [enV_ok hm] at E
      clear hm tb eb ha
      obtain ⟨p0, p1⟩ := hp
      generalize str (tx v b) = st0 at *
      generalize str (te v b p) = sq0 at *
      go_upto_region 7 with (first
        | (refine wl_load rfl _ _ rfl _ rfl _ d2 ?_)
        | (go_at_call 8; refine (P.out _ (G.out.below A2.out.2).1).mono ?_; rintro q w3 ⟨rfl, hb⟩; have A3 := Lib.hid (A2.out.on hb); clear hb))
      clear A2 d2 P
      go_upto_region 8 with (first
        | (go_at_call 15; refine (PX.out _ (G.out.below A3.out.2).1).mono ?_; rintro q w4 ⟨rfl, hb⟩; have A4 := Lib.hid (A3.out.on hb); clear hb)
        | (refine wl_store rfl _ _ _ rfl _ rfl (.agg (adC v b)) rfl _ (st_newA (v := v) (b := b) bl w4) ?_))
      have A5 := Lib.hid (A4.out.newRow 24 #[.bool false, .int .u8 0, .int .u8 0, .int .u8 0, .int .u8 0, .int .u8 0, .int .u8 0, .int .u8 0, .int .u8 0, .int .u8 0, .int .u8 0, .int .u8 0, .int .u8 0, .int .u8 0, .int .u8 0, .int .u8 0, .int .u8 0] (adC v b))
      generalize (w4.alloc (.cells #[.bool false, .int .u8 0, .int .u8 0, .int .u8 0, .int .u8 0, .int .u8 0, .int .u8 0, .int .u8 0, .int .u8 0, .int .u8 0, .int .u8 0, .int .u8 0, .int .u8 0, .int .u8 0, .int .u8 0, .int .u8 0, .int .u8 0] 24)).setRow w4.heap.size (adC v b) = w5 at *
      generalize w4.heap.size = g4 at *
      clear A3 A4 PX
      have d5 := ld_addr bl A5.out.1.1
      go_upto_region 9 with (first
        | (refine wl_load rfl _ _ rfl _ rfl _ d5 ?_)
        | (refine wl_build rfl _ _ rfl [(0, .agg (adC v b)), (1, .int .u16 p)] rfl _ (built_ends (v := v) (p := p) bl) ?_)
        | (refine wl_store rfl _ _ _ rfl _ rfl (.agg (enC v b p)) rfl _ (st_newE (v := v) (b := b) (p := p) bl w5) ?_))
      have A6 := Lib.hid (show (PB w ((w5.alloc (.cells #[.bool false, .int .u8 0, .int .u8 0, .int .u8 0, .int .u8 0, .int .u8 0, .int .u8 0, .int .u8 0, .int .u8 0, .int .u8 0, .int .u8 0, .int .u8 0, .int .u8 0, .int .u8 0, .int .u8 0, .int .u8 0, .int .u8 0, .int .u16 0] 32)).setRow w5.heap.size (enC v b p)) v b ∧ Blk ((w5.alloc (.cells #[.bool false, .int .u8 0, .int .u8 0, .int .u8 0, .int .u8 0, .int .u8 0, .int .u8 0, .int .u8 0, .int .u8 0, .int .u8 0, .int .u8 0, .int .u8 0, .int .u8 0, .int .u8 0, .int .u8 0, .int .u8 0, .int .u8 0, .int .u16 0] 32)).setRow w5.heap.size (enC v b p)) w5.heap.size 32 (enC v b p)) ∧ Blk ((w5.alloc (.cells #[.bool false, .int .u8 0, .int .u8 0, .int .u8 0, .int .u8 0, .int .u8 0, .int .u8 0, .int .u8 0, .int .u8 0, .int .u8 0, .int .u8 0, .int .u8 0, .int .u8 0, .int .u8 0, .int .u8 0, .int .u8 0, .int .u8 0, .int .u16 0] 32)).setRow w5.heap.size (enC v b p)) g4 24 (adC v b) from ⟨A5.out.1.newRow _ _ _, new_old _ _ _ A5.out.2⟩)
      generalize (w5.alloc (.cells #[.bool false, .int .u8 0, .int .u8 0, .int .u8 0, .int .u8 0, .int .u8 0, .int .u8 0, .int .u8 0, .int .u8 0, .int .u8 0, .int .u8 0, .int .u8 0, .int .u8 0, .int .u8 0, .int .u8 0, .int .u8 0, .int .u8 0, .int .u16 0] 32)).setRow w5.heap.size (enC v b p) = w6 at *
      generalize w5.heap.size = g5 at *
      clear A5 d5
      have d6 := ld_ends bl A6.out.1.2
      go_upto_region 10 with (first
        | (refine wl_load rfl _ _ rfl _ rfl _ d6 ?_)
        | (go_at_call 9; refine (E.out _ (G.out.below A6.out.1.1.2).1).mono ?_; rintro q w7 ⟨rfl, hb⟩; have A7 := Lib.hid (show PB w w7 v b ∧ Blk w7 g5 32 (enC v b p) ∧ Blk w7 g4 24 (adC v b) from ⟨A6.out.1.1.on hb, A6.out.1.2.on hb, A6.out.2.on hb⟩); clear hb))
      clear A6 d6 E
      go_upto_region 11 with (first
        | (go_at_call 17; refine (PE.out _ (G.out.below A7.out.1.2).1).mono ?_; rintro q w8 ⟨rfl, hb⟩; have A8 := Lib.hid (show PB w w8 v b ∧ Blk w8 g5 32 (enC v b p) ∧ Blk w8 g4 24 (adC v b) from ⟨A7.out.1.on hb, A7.out.2.1.on hb, A7.out.2.2.on hb⟩); clear hb)
        | (refine wl_store rfl _ _ _ rfl _ rfl (.agg (enC v b p)) rfl _ (st_newE (v := v) (b := b) (p := p) bl w8) ?_))
      have A9 := Lib.hid (show (PB w ((w8.alloc (.cells #[.bool false, .int .u8 0, .int .u8 0, .int .u8 0, .int .u8 0, .int .u8 0, .int .u8 0, .int .u8 0, .int .u8 0, .int .u8 0, .int .u8 0, .int .u8 0, .int .u8 0, .int .u8 0, .int .u8 0, .int .u8 0, .int .u8 0, .int .u16 0] 32)).setRow w8.heap.size (enC v b p)) v b ∧ Blk ((w8.alloc (.cells #[.bool false, .int .u8 0, .int .u8 0, .int .u8 0, .int .u8 0, .int .u8 0, .int .u8 0, .int .u8 0, .int .u8 0, .int .u8 0, .int .u8 0, .int .u8 0, .int .u8 0, .int .u8 0, .int .u8 0, .int .u8 0, .int .u8 0, .int .u16 0] 32)).setRow w8.heap.size (enC v b p)) w8.heap.size 32 (enC v b p)) ∧ Blk ((w8.alloc (.cells #[.bool false, .int .u8 0, .int .u8 0, .int .u8 0, .int .u8 0, .int .u8 0, .int .u8 0, .int .u8 0, .int .u8 0, .int .u8 0, .int .u8 0, .int .u8 0, .int .u8 0, .int .u8 0, .int .u8 0, .int .u8 0, .int .u8 0, .int .u16 0] 32)).setRow w8.heap.size (enC v b p)) g5 32 (enC v b p) ∧ Blk ((w8.alloc (.cells #[.bool false, .int .u8 0, .int .u8 0, .int .u8 0, .int .u8 0, .int .u8 0, .int .u8 0, .int .u8 0, .int .u8 0, .int .u8 0, .int .u8 0, .int .u8 0, .int .u8 0, .int .u8 0, .int .u8 0, .int .u8 0, .int .u8 0, .int .u16 0] 32)).setRow w8.heap.size (enC v b p)) g4 24 (adC v b) from ⟨A8.out.1.newRow _ _ _, new_old _ _ _ A8.out.2.1, new_old _ _ _ A8.out.2.2⟩)
      generalize (w8.alloc (.cells #[.bool false, .int .u8 0, .int .u8 0, .int .u8 0, .int .u8 0, .int .u8 0, .int .u8 0, .int .u8 0, .int .u8 0, .int .u8 0, .int .u8 0, .int .u8 0, .int .u8 0, .int .u8 0, .int .u8 0, .int .u8 0, .int .u8 0, .int .u16 0] 32)).setRow w8.heap.size (enC v b p) = w9 at *
      generalize w8.heap.size = g8 at *
      clear A7 A8 PE
      have c0 := ld_addr bl A9.out.2.2
      have c1 := ld_addr bl A9.out.1.1.1
      have c2 := ld_ends bl A9.out.1.2
      have c3 := ld_ends bl A9.out.2.1
      have f0 := qA v v b b bl bl
      rw [show decide (v = v ∧ b = b) = true by simp] at f0
      have f1 := qE v v b b p p bl bl
      rw [show decide ((v = v ∧ b = b) ∧ p = p) = true by simp] at f1
      go_upto_region 13 with (first
        | (refine wl_load rfl _ _ rfl _ rfl _ c0 ?_)
        | (refine wl_load rfl _ _ rfl _ rfl _ c1 ?_)
        | (refine wl_load rfl _ _ rfl _ rfl _ c2 ?_)
        | (refine wl_load rfl _ _ rfl _ rfl _ c3 ?_))
      have S9 := Lib.hid A9.out.1.1.2
      clear A9 c0 c1 c2 c3 f0 f1
      go_upto_region 14 with (first
        | (go_at_call 15; refine (PS.out _ (G.out.below S9.out).1).mono ?_; rintro q w10 ⟨rfl, hb⟩; have S10 := Lib.hid (S9.out.trans (hb.mono S9.out.size)); clear hb)
        | (refine wl_store rfl _ _ _ rfl _ rfl (.agg (adC v' b')) rfl _ (st_newA (v := v') (b := b') bl' w10) ?_))
      have A11 := Lib.hid (new_row 24 #[.bool false, .int .u8 0, .int .u8 0, .int .u8 0, .int .u8 0, .int .u8 0, .int .u8 0, .int .u8 0, .int .u8 0, .int .u8 0, .int .u8 0, .int .u8 0, .int .u8 0, .int .u8 0, .int .u8 0, .int .u8 0, .int .u8 0] (adC v' b') S10.out)
      generalize (w10.alloc (.cells #[.bool false, .int .u8 0, .int .u8 0, .int .u8 0, .int .u8 0, .int .u8 0, .int .u8 0, .int .u8 0, .int .u8 0, .int .u8 0, .int .u8 0, .int .u8 0, .int .u8 0, .int .u8 0, .int .u8 0, .int .u8 0, .int .u8 0] 24)).setRow w10.heap.size (adC v' b') = w11 at *
      generalize w10.heap.size = g11 at *
      clear S9 S10 PS
      go_upto_region 15 with (first
        | (go_at_call 19; refine (UP.out _ (G.out.below A11.out.2)).mono ?_; rintro q w12 ⟨rfl, hb⟩; have A12 := Lib.hid (show Blk w12 g11 24 (adC v' b') ∧ Below w.heap.size w w12 from ⟨A11.out.1.on hb, A11.out.2.trans (hb.mono A11.out.2.size)⟩); clear hb)
        | (go_at_call 15; refine (PU.out _ (G.out.below A12.out.2).1).mono ?_; rintro q w13 ⟨rfl, hb⟩; have A13 := Lib.hid (show Blk w13 g11 24 (adC v' b') ∧ Below w.heap.size w w13 from ⟨A12.out.1.on hb, A12.out.2.trans (hb.mono A12.out.2.size)⟩); clear hb)
        | (refine wl_store rfl _ _ _ rfl _ rfl (.agg (adC v' b')) rfl _ (st_newA (v := v') (b := b') bl' w13) ?_))
      have A14 := Lib.hid (show Blk ((w13.alloc (.cells #[.bool false, .int .u8 0, .int .u8 0, .int .u8 0, .int .u8 0, .int .u8 0, .int .u8 0, .int .u8 0, .int .u8 0, .int .u8 0, .int .u8 0, .int .u8 0, .int .u8 0, .int .u8 0, .int .u8 0, .int .u8 0, .int .u8 0] 24)).setRow w13.heap.size (adC v' b')) g11 24 (adC v' b') ∧ Blk ((w13.alloc (.cells #[.bool false, .int .u8 0, .int .u8 0, .int .u8 0, .int .u8 0, .int .u8 0, .int .u8 0, .int .u8 0, .int .u8 0, .int .u8 0, .int .u8 0, .int .u8 0, .int .u8 0, .int .u8 0, .int .u8 0, .int .u8 0, .int .u8 0] 24)).setRow w13.heap.size (adC v' b')) w13.heap.size 24 (adC v' b') ∧ Below w.heap.size w ((w13.alloc (.cells #[.bool false, .int .u8 0, .int .u8 0, .int .u8 0, .int .u8 0, .int .u8 0, .int .u8 0, .int .u8 0, .int .u8 0, .int .u8 0, .int .u8 0, .int .u8 0, .int .u8 0, .int .u8 0, .int .u8 0, .int .u8 0, .int .u8 0] 24)).setRow w13.heap.size (adC v' b')) from ⟨new_old _ _ _ A13.out.1, new_row _ _ _ A13.out.2⟩)
      generalize (w13.alloc (.cells #[.bool false, .int .u8 0, .int .u8 0, .int .u8 0, .int .u8 0, .int .u8 0, .int .u8 0, .int .u8 0, .int .u8 0, .int .u8 0, .int .u8 0, .int .u8 0, .int .u8 0, .int .u8 0, .int .u8 0, .int .u8 0, .int .u8 0] 24)).setRow w13.heap.size (adC v' b') = w14 at *
      generalize w13.heap.size = g14 at *
      clear A11 A12 A13 UP PU
      have d0 := ld_addr bl' A14.out.1
      have d1 := ld_addr bl' A14.out.2.1
      have e0 := qA v' v' b' b' bl' bl'
      rw [show decide (v' = v' ∧ b' = b') = true by simp] at e0
      rcases HK.out with ⟨rfl, hA', hM'⟩ | rfl
      · have PR := Lib.hid (fun w hw => t_print v' b' hA' w hw)
        rw [prV_ok hM'] at PR
        have PP := Lib.hid ((tells_parse (tx v' b') (by have := tx_bound (v := v') hA'; omega)).as rfl (paV_some (parse_tx hA' hM')))
        clear hA' hM' HK
        generalize str (tx v' b') = st at *
        go_upto_region 20 with (first
          | (refine wl_load rfl _ _ rfl _ rfl _ d0 ?_)
          | (refine wl_load rfl _ _ rfl _ rfl _ d1 ?_)
          | (go_at_call 8; refine (PR.out _ (G.out.below A14.out.2.2).1).mono ?_; rintro q w15 ⟨rfl, hb⟩; have A15 := Lib.hid (show Blk w15 g11 24 (adC v' b') ∧ Below w.heap.size w w15 from ⟨A14.out.1.on hb, A14.out.2.2.trans (hb.mono A14.out.2.2.size)⟩); clear hb))
        clear A14 d0 d1
        go_upto_region 21 with (first
          | (go_at_call 15; refine (PP.out _ (G.out.below A15.out.2).1).mono ?_; rintro q w16 ⟨rfl, hb⟩; have A16 := Lib.hid (show Blk w16 g11 24 (adC v' b') ∧ Below w.heap.size w w16 from ⟨A15.out.1.on hb, A15.out.2.trans (hb.mono A15.out.2.size)⟩); clear hb)
          | (refine wl_store rfl _ _ _ rfl _ rfl (.agg (adC v' b')) rfl _ (st_newA (v := v') (b := b') bl' w16) ?_))
        have A17 := Lib.hid (show Blk ((w16.alloc (.cells #[.bool false, .int .u8 0, .int .u8 0, .int .u8 0, .int .u8 0, .int .u8 0, .int .u8 0, .int .u8 0, .int .u8 0, .int .u8 0, .int .u8 0, .int .u8 0, .int .u8 0, .int .u8 0, .int .u8 0, .int .u8 0, .int .u8 0] 24)).setRow w16.heap.size (adC v' b')) g11 24 (adC v' b') ∧ Blk ((w16.alloc (.cells #[.bool false, .int .u8 0, .int .u8 0, .int .u8 0, .int .u8 0, .int .u8 0, .int .u8 0, .int .u8 0, .int .u8 0, .int .u8 0, .int .u8 0, .int .u8 0, .int .u8 0, .int .u8 0, .int .u8 0, .int .u8 0, .int .u8 0] 24)).setRow w16.heap.size (adC v' b')) w16.heap.size 24 (adC v' b') ∧ Below w.heap.size w ((w16.alloc (.cells #[.bool false, .int .u8 0, .int .u8 0, .int .u8 0, .int .u8 0, .int .u8 0, .int .u8 0, .int .u8 0, .int .u8 0, .int .u8 0, .int .u8 0, .int .u8 0, .int .u8 0, .int .u8 0, .int .u8 0, .int .u8 0, .int .u8 0] 24)).setRow w16.heap.size (adC v' b')) from ⟨new_old _ _ _ A16.out.1, new_row _ _ _ A16.out.2⟩)
        generalize (w16.alloc (.cells #[.bool false, .int .u8 0, .int .u8 0, .int .u8 0, .int .u8 0, .int .u8 0, .int .u8 0, .int .u8 0, .int .u8 0, .int .u8 0, .int .u8 0, .int .u8 0, .int .u8 0, .int .u8 0, .int .u8 0, .int .u8 0, .int .u8 0] 24)).setRow w16.heap.size (adC v' b') = w17 at *
        generalize w16.heap.size = g17 at *
        clear A15 A16 PP
        have d3 := ld_addr bl' A17.out.2.1
        go_upto_region 22 with (first
          | (refine wl_load rfl _ _ rfl _ rfl _ d3 ?_)
          | (go_at_call 8; refine (PR.out _ (G.out.below A17.out.2.2).1).mono ?_; rintro q w18 ⟨rfl, hb⟩; have A18 := Lib.hid (show Blk w18 g11 24 (adC v' b') ∧ Blk w18 g17 24 (adC v' b') ∧ Below w.heap.size w w18 from ⟨A17.out.1.on hb, A17.out.2.1.on hb, A17.out.2.2.trans (hb.mono A17.out.2.2.size)⟩); clear hb))
        clear A17 d3 PR
        have d4 := ld_addr bl' A18.out.1
        have d5 := ld_addr bl' A18.out.2.1
        go_wp2_with (first
          | (refine wl_load rfl _ _ rfl _ rfl _ d4 ?_)
          | (refine wl_load rfl _ _ rfl _ rfl _ d5 ?_))
        go_ret
        exact ⟨by simp, A18.out.2.2⟩
      · go_wp2_with (first
          | (refine wl_load rfl _ _ rfl _ rfl _ d0 ?_)
          | (refine wl_load rfl _ _ rfl _ rfl _ d1 ?_))
        go_ret
        exact ⟨rfl, A14.out.2.2⟩
end Go.Proofs.YthghanidabmfgaaGreatDoor
