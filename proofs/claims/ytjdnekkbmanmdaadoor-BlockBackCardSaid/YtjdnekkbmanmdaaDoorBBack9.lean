/-
  PROVED HERE (the walk): the statement BlockBack: what is framed is opened as it was, whatever stands behind it; cut off it is ErrShort where it is cut; with a cap below its length it is ErrSnap; with another length at its end it is ErrBlock, there.
-/
import Derived.Test.YtjdnekkbmanmdaaDoorBIs9
import Derived.Test.YtjdnekkbmanmdaaDoorBlockZ
import Derived.Laws.BitsAllLaws
namespace Go.Proofs.YtjdnekkbmanmdaaDoor
open Go.RowKit Go.Sort
set_option maxRecDepth 100000
/-- What stays: the block that came in, the package's variable. -/
def BkSt (w wr : World) (o : Obj) : Prop := Below w.heap.size w wr ∧ wr.heap[w.heap.size]? = some o ∧ AsS.Ty wr
theorem BkSt.on {w wr w2 : World} {o : Obj} (h : BkSt w wr o) (hb : Below wr.heap.size wr w2) : BkSt w w2 o := ⟨h.1.trans (hb.mono h.1.size), keepRow h.2.1 hb, h.2.2.on hb⟩
theorem BkSt.new (w : World) (o : Obj) (h : AsS.Ty w) : BkSt w (w.alloc o) o := ⟨below_alloc w o, row_new w o rfl, h.on (below_alloc w o)⟩
theorem opn_yes {w w' : World} {kind : Nat} {body : List UInt8} {n : Nat} {e : Ending} (h : OpnOut w ((kind, body, n), 0, 0) e w') : ∃ v, e = .returned (.tuple #[.agg #[.int .u32 kind, v], .int .i64 n, .nilIface]) ∧ Byt w' v body ∧ Below w.heap.size w w' := by
  obtain ⟨hb, ⟨_, v, h1, h2⟩ | ⟨h, _⟩⟩ := h
  · exact ⟨v, h1, h2, hb⟩
  · exact absurd rfl h
theorem opn_no {w w' : World} {k : Nat} {at_ : Int} {e : Ending} (hk : k ≠ 0) (h : OpnOut w ((0, [], 0), k, at_) e w') : ∃ u, e = .returned (.tuple #[.agg #[.int .u32 0, .slice none 0 0], .int .i64 0, u]) ∧ IsEr w' (blkE k at_) u ∧ Below w.heap.size w w' := by
  obtain ⟨hb, ⟨h, _⟩ | ⟨_, u, h1, h2⟩⟩ := h
  · exact absurd h hk
  · exact ⟨u, h1, h2, hb⟩
theorem xor_byte (x h : UInt8) : bits .xor .u8 (x.toNat : Int) (h.toNat : Int) = (((x ^^^ h).toNat : Nat) : Int) := by
  rw [u8_xor_nat _ _ x.toNat_lt h.toNat_lt, UInt8.toNat_xor]
/-- Whose length four does not divide. -/
theorem blockBack_odd (kind : Nat) (v : Value) (body : List UInt8) (b : Bool) (u : Value) (more : List UInt8) (off cut harm : Int) (hl : body.length ≤ 300) (hl2 : more.length ≤ 300) (ho : 0 ≤ off ∧ off ≤ 4611686018427387904) (h4 : body.length % 4 ≠ 0) (w : World) (hy : AsS.Ty w) (hB : Byt w v body) (hU : Byt w u more) (hk : kind < 4294967296) :
    Calls Tryd.prog 3 #[.agg #[.int .u32 kind, v], .bool b, u, .int .i64 off, .int .u16 cut, .int .u8 harm] w fun e w' => e = .returned (.bool true) ∧ Below w.heap.size w w' := by
  have HB := Lib.hid hB
  have TF := Lib.hid (fun w hB => t_frame kind v body b hk (by omega) w hB)
  unfold FrOut at TF
  rw [show frameE body = 2 from if_neg h4, show frameR kind body b = [] from if_neg h4] at TF
  obtain ⟨ad, c, rfl, hc, _⟩ := hB.open
  obtain ⟨ad2, c2, rfl, hc2, _⟩ := hU.open
  have g1 : decide ((300 : Int) < (body.length : Nat)) = false := by simp; omega
  have g2 : decide ((300 : Int) < (more.length : Nat)) = false := by simp; omega
  have o1 : ¬ off < 0 := by omega
  have o2 : ¬ 4611686018427387904 < off := by omega
  have S0 := Lib.hid (BkSt.new w (.cells #[.int .u32 kind, .slice ad body.length c] 25 (0, 0)) hy)
  clear hB hU hc hc2 hy ho
  generalize body.length = n at *
  generalize more.length = n2 at *
  have g4 : (((n : Int) % 4 == 0) : Bool) = false := by simp; omega
  go_enter Tryd.func3, Tryd.ntmps3
  go_upto_region 1 with fail
  generalize hw0 : w.alloc (.cells _ 25 (0, 0)) = w0 at *
  clear hw0
  go_upto_region 3 with (go_at_call 4; refine (t_known9 _).mono ?_; rintro e w1 ⟨rfl, hb⟩; have S1 := Lib.hid (S0.out.on hb); clear hb S0)
  obtain ⟨⟨c0, c1⟩, _⟩ := row2 S1.out.2.1
  go_upto_region 6 with (go_at_call 5; refine (TF.out _ (HB.out.on S1.out.1)).mono ?_; rintro e w2 ⟨v2, rfl, hY, hb⟩; have S2 := Lib.hid (S1.out.on hb); obtain ⟨a2, d2, rfl, _, _⟩ := hY.open; clear hb hY S1 c0 c1)
  obtain ⟨⟨c0, c1⟩, _⟩ := row2 S2.out.2.1
  go_wp2
  go_ret
  exact ⟨rfl, S2.out.1⟩
set_option maxHeartbeats 4000000 in
theorem blockBack_even (kind : Nat) (v : Value) (body : List UInt8) (b : Bool) (u : Value) (more : List UInt8) (off : Int) (cut harm : Nat) (hl : body.length ≤ 300) (hl2 : more.length ≤ 300) (ho : 0 ≤ off ∧ off ≤ 4611686018427387904) (h4 : body.length % 4 = 0) (hcut : cut < 65536) (hharm : harm < 256) (w : World) (hy : AsS.Ty w) (hB : Byt w v body) (hU : Byt w u more) (hk : kind < 4294967296) :
    Calls Tryd.prog 3 #[.agg #[.int .u32 kind, v], .bool b, u, .int .i64 off, .int .u16 cut, .int .u8 harm] w fun e w' => e = .returned (.bool true) ∧ Below w.heap.size w w' := by
  have HB := Lib.hid hB
  have HU := Lib.hid hU
  have TF := Lib.hid (fun w hB => t_frame kind v body b hk (by omega) w hB)
  unfold FrOut at TF
  rw [show frameE body = 0 from if_pos h4, show frameR kind body b = frameB kind body b from if_pos h4] at TF
  have FL : (frameB kind body b).length = 12 + body.length := frame_length kind body b
  have M := Lib.hid (show (12 + body.length : Nat) ≤ ((12 + body.length : Nat) : Int) from by omega)
  have T1 := Lib.hid (fun v w hB => t_openB v (frameB kind body b ++ more) b ((12 + body.length : Nat) : Int) off (by omega) (by rw [List.length_append, FL]; omega) w hB)
  rw [open_frame kind body b hk (by omega) more h4 _ M.out off ho] at T1
  have T2 := Lib.hid (fun (k : Nat) (h : k < 12 + body.length) v w hB => by
    have := t_openB v ((frameB kind body b).take k) b ((12 + body.length : Nat) : Int) off (by omega) (by rw [List.length_take]; omega) w hB
    rw [openB_cut kind body b (by omega) h4 k h _ M.out off ho] at this
    exact this)
  have T3 := Lib.hid (fun v w hB => t_openB v (frameB kind body b ++ more) b (((12 + body.length : Nat) : Int) - 1) off (by omega) (by rw [List.length_append, FL]; omega) w hB)
  rw [open_snap kind body b (by omega) more h4 _ (by omega) off ho] at T3
  have T4 := Lib.hid (fun (q : List UInt8) (hq : q.length = 4) (hne : q ≠ ord b (lowB (12 + body.length) 4)) v w hB => by
    have := t_openB v (ord b (lowB kind 4) ++ ord b (lowB (12 + body.length) 4) ++ body ++ q ++ more) b ((12 + body.length : Nat) : Int) off (by omega) (by simp [four_length, hq]; omega) w hB
    rw [open_harm kind body b (by omega) more q h4 hq hne _ M.out off ho] at this
    exact this)
  have GT := Lib.hid (fun j hj => harm_get kind body b more j hj)
  have ST := Lib.hid (fun j hj y => harm_set kind body b more j hj y)
  have NE := Lib.hid (fun j (hj : j < 4) (h : UInt8) (hh : h ≠ 0) => harmB_ne b (12 + body.length) j h hj hh)
  have LH := Lib.hid (fun j (h : UInt8) => harmB_length b (12 + body.length) j h)
  unfold harmB at NE LH
  generalize ord b (lowB (12 + body.length) 4) = oq at *
  generalize ord b (lowB kind 4) = ok at *
  obtain ⟨N, hN⟩ : ∃ N, N = 12 + body.length := ⟨_, rfl⟩
  rw [← hN] at FL T1 T2 T3 T4
  generalize frameB kind body b = fb at *
  obtain ⟨ad, c, rfl, hc, _⟩ := hB.open
  obtain ⟨ad2, c2, rfl, hc2, hA2⟩ := hU.open
  have HA2 := Lib.hid hA2
  have g1 : decide ((300 : Int) < (body.length : Nat)) = false := by simp; omega
  have g2 : decide ((300 : Int) < (more.length : Nat)) = false := by simp; omega
  have o1 : ¬ off < 0 := by omega
  have o2 : ¬ 4611686018427387904 < off := by omega
  have S0 := Lib.hid (BkSt.new w (.cells #[.int .u32 kind, .slice ad body.length c] 25 (0, 0)) hy)
  clear hB hU hc hc2 hy hA2 M HU
  have HN := Lib.hid (show N = 12 + body.length from hN)
  have nN : (body.length : Int) + 12 = (N : Int) := by omega
  have N12 : 12 ≤ N := by omega
  have N400 : N ≤ 312 := by omega
  clear hN
  generalize body.length = n at *
  generalize hn2 : more.length = n2 at *
  have HN2 := Lib.hid hn2
  have HFL := Lib.hid FL
  clear hn2 FL
  have g4 : (((n : Int) % 4 == 0) : Bool) = true := by simp; omega
  have N0 : ((N : Int) == 0) = false := by rw [beq_eq_false_iff_ne]; omega
  go_enter Tryd.func3, Tryd.ntmps3
  go_upto_region 1 with fail
  generalize hw0 : w.alloc (.cells _ 25 (0, 0)) = w0 at *
  clear hw0
  go_upto_region 3 with (go_at_call 4; refine (t_known9 _).mono ?_; rintro e w1 ⟨rfl, hb⟩; have S1 := Lib.hid (S0.out.on hb); clear hb S0)
  obtain ⟨⟨c0, c1⟩, _⟩ := row2 S1.out.2.1
  go_upto_region 6 with (go_at_call 5; refine (TF.out _ (HB.out.on S1.out.1)).mono ?_; rintro e w2 ⟨v2, rfl, hY, hb⟩; have S2 := Lib.hid (S1.out.on hb); obtain ⟨a2, d2, rfl, hd2, hA⟩ := hY.open; have Y2 := Lib.hid hA; have D2 := Lib.hid hd2; clear hb hY hA hd2 S1 c0 c1)
  rw [HFL.out] at D2
  rw [HFL.out]
  obtain ⟨⟨c0, c1⟩, _⟩ := row2 S2.out.2.1
  have OE := Lib.hid (ownB_empty w2)
  go_upto_region 10 with fail
  clear c0 c1
  have SK := Lib.hid S2.out
  go_wp2_with (at_builtin; refine wp_append_bytes rfl (.tmp 68) (.tmp 69) rfl w2 _ [] _ rfl OE.out a2 fb N d2 HFL.out.symm rfl (Y2.out.on (below_alloc w2 _)) (by have := HFL.out; simp; omega) ?_)
  intro v3 w3 hO
  have O3 := Lib.hid (show OwnB w2 w3 fb v3 by simpa using hO)
  obtain ⟨a3, n3, d3, rfl⟩ := hO.slice
  clear hO OE
  go_wp2_with (at_builtin; refine wp_append_bytes rfl (.tmp 70) (.tmp 71) rfl w2 w3 fb _ rfl O3.out ad2 more n2 c2 HN2.out.symm rfl (HA2.out.on (S2.out.1.trans (O3.out.below.mono S2.out.1.size))) (by have := HFL.out; have := HN2.out; omega) ?_)
  intro v4 w4 hO
  have LA := Lib.hid (show (fb ++ more).length = N + n2 by rw [List.length_append, HFL.out, HN2.out])
  obtain ⟨a4, d4, rfl, hd4, _⟩ := hO.byt.open
  have O4 := Lib.hid hO
  have D4 := Lib.hid hd4
  rw [LA.out] at O4 D4
  have S4 := Lib.hid (S2.out.on hO.below)
  have Y4 := Lib.hid (Y2.out.on hO.below)
  rw [LA.out]
  obtain ⟨g, rfl⟩ := hO.at (by rw [LA.out]; omega)
  clear hO hd4 O3 S2 Y2
  go_wp2_with fail
  refine (T1.out _ _ O4.out.byt).mono ?_
  rintro e w5 h
  obtain ⟨v5, rfl, hY, hb⟩ := opn_yes h
  have O5 := Lib.hid (O4.out.on hb)
  have S5 := Lib.hid (S4.out.on hb)
  have Y5 := Lib.hid (Y4.out.on hb)
  have Z5 := Lib.hid hY
  obtain ⟨a5, n5, d5, rfl⟩ := hY.slice
  clear h hY hb O4 S4 Y4 T1
  go_upto_region 12 with fail
  have S6 := Lib.hid (S5.out.on (below_alloc w5 (.cells #[.int .u32 kind, .slice a5 n5 d5] 25)))
  have O6 := Lib.hid (O5.out.on (below_alloc w5 (.cells #[.int .u32 kind, .slice a5 n5 d5] 25)))
  have Y6 := Lib.hid (Y5.out.on (below_alloc w5 (.cells #[.int .u32 kind, .slice a5 n5 d5] 25)))
  have Z6 := Lib.hid (Z5.out.on (below_alloc w5 (.cells #[.int .u32 kind, .slice a5 n5 d5] 25)))
  have K6 := Lib.hid (row_new w5 (.cells #[.int .u32 kind, .slice a5 n5 d5] 25) rfl)
  clear S5 O5 Y5 Z5
  generalize w5.alloc (.cells #[.int .u32 kind, .slice a5 n5 d5] 25) = w6 at *
  generalize w5.heap.size = q at *
  obtain ⟨⟨c0, c1⟩, _⟩ := row2 S6.out.2.1
  obtain ⟨⟨k0, k1⟩, _⟩ := row2 K6.out
  have cv := conv_bytes Z6.out.bytes
  have cu := conv_bytes (HB.out.on S6.out.1).bytes
  obtain ⟨at_, hat⟩ : ∃ at_ : Nat, at_ = cut % N := ⟨_, rfl⟩
  have ea : (cut : Int) % (N : Int) = (at_ : Int) := by rw [hat]; omega
  have AT := Lib.hid (show at_ < N by rw [hat]; exact Nat.mod_lt _ (by omega))
  clear hat
  go_upto_region 15 with fail
  clear cv cu k0 k1 c0 c1 K6 Z6
  have e1 : (at_ : Int) ≤ (d2 : Nat) := by have := AT.out; have := D2.out; omega
  have w1 : IntKind.i64.wrap (off + (at_ : Int)) = off + (at_ : Int) := by have := AT.out; rw [IntKind.wrap_i64]; omega
  have w2 : IntKind.i64.wrap (off + 4) = off + 4 := by rw [IntKind.wrap_i64]; omega
  go_wp2_with fail
  refine (T2.out at_ AT.out _ _ ((Y6.out.upto at_).byt (n := at_) (c := d2) (by have := AT.out; have := HFL.out; rw [List.length_take]; omega) (by omega))).mono ?_
  rintro e w7 h
  obtain ⟨u7, rfl, hE, hb⟩ := opn_no (by omega) h
  have E7 := Lib.hid hE
  have S7 := Lib.hid (S6.out.on hb)
  have O7 := Lib.hid (O6.out.on hb)
  obtain ⟨b7, rfl, _⟩ := blkE_note hE
  clear h hE hb S6 O6 Y6 T2
  go_wp2_with fail
  refine (t_isB _ _ _ _ E7.out S7.out.2.2).mono ?_
  rintro e w8 ⟨rfl, hb⟩
  have S8 := Lib.hid (S7.out.on hb)
  have O8 := Lib.hid (O7.out.on hb)
  clear hb S7 O7 E7
  go_wp2_with fail
  refine (T3.out _ _ O8.out.byt).mono ?_
  rintro e w9 h
  obtain ⟨u9, rfl, hE, hb⟩ := opn_no (by omega) h
  have E9 := Lib.hid hE
  have S9 := Lib.hid (S8.out.on hb)
  have O9 := Lib.hid (O8.out.on hb)
  obtain ⟨b9, rfl, _⟩ := blkE_note hE
  clear h hE hb S8 O8 T3
  go_wp2_with fail
  refine (t_isB _ _ _ _ E9.out S9.out.2.2).mono ?_
  rintro e w10 ⟨rfl, hb⟩
  have S10 := Lib.hid (S9.out.on hb)
  have O10 := Lib.hid (O9.out.on hb)
  clear hb S9 O9 E9
  by_cases hh : harm = 0
  · subst hh
    go_wp2
    go_ret
    exact ⟨rfl, S10.out.1⟩
  obtain ⟨hm, rfl⟩ : ∃ hm : UInt8, harm = hm.toNat := ⟨UInt8.ofNat harm, by rw [UInt8.toNat_ofNat']; omega⟩
  have hm0 : hm ≠ 0 := fun e => hh (by rw [e]; rfl)
  have ez : ((hm.toNat : Int) == 0) = false := by rw [beq_eq_false_iff_ne]; omega
  obtain ⟨j, hj⟩ : ∃ j : Nat, j = cut % 4 := ⟨_, rfl⟩
  have ej : (cut : Int) % 4 = (j : Int) := by omega
  have j4 : j < 4 := by omega
  clear hj
  obtain ⟨p, hp⟩ : ∃ p : Nat, p = 8 + n + j := ⟨_, rfl⟩
  have ep : (N : Int) - 4 + (j : Int) = (p : Int) := by omega
  have pN : (p : Int) < ((N + n2 : Nat) : Int) := by omega
  have PL := Lib.hid (show p < (fb ++ more).length by rw [LA.out]; omega)
  have GP := GT.out j j4
  have SP := Lib.hid (ST.out j j4 (oq.getD j 0 ^^^ hm))
  have NP := Lib.hid (NE.out j j4 hm hm0)
  have LP := Lib.hid (LH.out j hm)
  rw [← hp] at GP SP
  have cc := O10.out.cell (j := p) PL.out
  rw [List.getElem?_eq_getElem PL.out, Option.some.injEq] at GP
  rw [GP] at cc
  have ff := O10.out.free p
  have X := xor_byte (oq.getD j 0) hm
  have O11 := Lib.hid (O10.out.put p (oq.getD j 0 ^^^ hm))
  rw [SP.out] at O11
  have S11 := Lib.hid (SK.out.on O11.out.below)
  have w3 : IntKind.i64.wrap (off + (N : Int)) = off + (N : Int) := by rw [IntKind.wrap_i64]; omega
  have w4 : IntKind.i64.wrap (off + (N : Int) - 4) = off + (N : Int) - 4 := by rw [IntKind.wrap_i64]; omega
  clear GP SP hp GT ST NE LH hh hm0 PL hharm e1 w1 w2 ea
  generalize oq.getD j 0 = x at *
  generalize (x ^^^ hm).toNat = y at *
  generalize x.toNat = xn at *
  generalize hm.toNat = hn at *
  go_upto_region 25 with fail
  generalize w10.setCell ⟨g, p, none⟩ (.int .u8 y) = w11 at *
  clear cc ff X S10 O10 SK
  go_wp2_with fail
  refine (T4.out _ LP.out NP.out _ _ O11.out.byt).mono ?_
  rintro e w12 h
  obtain ⟨u12, rfl, hE, hb⟩ := opn_no (by omega) h
  have E12 := Lib.hid hE
  have S12 := Lib.hid (S11.out.on hb)
  obtain ⟨b12, rfl, _⟩ := blkE_note hE
  clear h hE hb S11 O11 T4
  go_wp2_with fail
  refine (t_isB _ _ _ _ E12.out S12.out.2.2).mono ?_
  rintro e w13 ⟨rfl, hb⟩
  have S13 := Lib.hid (S12.out.on hb)
  clear hb S12 E12
  go_wp2
  go_ret
  exact ⟨rfl, S13.out.1⟩
set_option maxHeartbeats 1000000 in
/-- What is too long, or too far. -/
theorem blockBack_far (kind : Nat) (v : Value) (body : List UInt8) (b : Bool) (u : Value) (more : List UInt8) (off cut harm : Int) (h : ¬ (body.length ≤ 300 ∧ more.length ≤ 300 ∧ 0 ≤ off ∧ off ≤ 4611686018427387904)) (w : World) (hy : AsS.Ty w) (hB : Byt w v body) (hU : Byt w u more) :
    Calls Tryd.prog 3 #[.agg #[.int .u32 kind, v], .bool b, u, .int .i64 off, .int .u16 cut, .int .u8 harm] w fun e w' => e = .returned (.bool true) ∧ Below w.heap.size w w' := by
  obtain ⟨ad, c, rfl, hc, _⟩ := hB.open
  obtain ⟨ad2, c2, rfl, hc2, _⟩ := hU.open
  have S0 := Lib.hid (BkSt.new w (.cells #[.int .u32 kind, .slice ad body.length c] 25 (0, 0)) hy)
  have V : (decide ((300 : Int) < (body.length : Nat)) = true) ∨ (decide ((300 : Int) < (body.length : Nat)) = false ∧ decide ((300 : Int) < (more.length : Nat)) = true) ∨ (decide ((300 : Int) < (body.length : Nat)) = false ∧ decide ((300 : Int) < (more.length : Nat)) = false ∧ off < 0) ∨
      (decide ((300 : Int) < (body.length : Nat)) = false ∧ decide ((300 : Int) < (more.length : Nat)) = false ∧ ¬ off < 0 ∧ 4611686018427387904 < off) := by
    simp only [decide_eq_true_eq, decide_eq_false_iff_not]; omega
  clear hB hU hc hc2 hy h
  generalize body.length = n at *
  generalize more.length = n2 at *
  rcases V with g1 | ⟨g1, g2⟩ | ⟨g1, g2, g3⟩ | ⟨g1, g2, g3, g4⟩
  all_goals
    go_enter Tryd.func3, Tryd.ntmps3
    go_upto_region 1 with fail
    generalize hw0 : w.alloc (.cells _ 25 (0, 0)) = w0 at *
    clear hw0
    go_upto_region 3 with (go_at_call 4; refine (t_known9 _).mono ?_; rintro e w1 ⟨rfl, hb⟩; have S1 := Lib.hid (S0.out.on hb); clear hb S0)
    obtain ⟨⟨c0, c1⟩, _⟩ := row2 S1.out.2.1
    go_wp2
    go_ret
    exact ⟨rfl, S1.out.1⟩
theorem blockBack_any (kind : Nat) (v : Value) (body : List UInt8) (b : Bool) (u : Value) (more : List UInt8) (off cut harm : Int) (hk : kind < 4294967296) (hcut : 0 ≤ cut ∧ cut ≤ 65535) (hharm : 0 ≤ harm ∧ harm ≤ 255) (w : World) (hy : AsS.Ty w) (hB : Byt w v body) (hU : Byt w u more) :
    Calls Tryd.prog 3 #[.agg #[.int .u32 kind, v], .bool b, u, .int .i64 off, .int .u16 cut, .int .u8 harm] w fun e w' => e = .returned (.bool true) ∧ Below w.heap.size w w' := by
  by_cases h : body.length ≤ 300 ∧ more.length ≤ 300 ∧ 0 ≤ off ∧ off ≤ 4611686018427387904
  · by_cases h4 : body.length % 4 = 0
    · obtain ⟨cu, rfl⟩ := Int.eq_ofNat_of_zero_le hcut.1
      obtain ⟨ha, rfl⟩ := Int.eq_ofNat_of_zero_le hharm.1
      exact blockBack_even kind v body b u more off cu ha h.1 h.2.1 h.2.2 h4 (by omega) (by omega) w hy hB hU hk
    · exact blockBack_odd kind v body b u more off cut harm h.1 h.2.1 h.2.2 h4 w hy hB hU hk
  · exact blockBack_far kind v body b u more off cut harm h w hy hB hU
end Go.Proofs.YtjdnekkbmanmdaaDoor
