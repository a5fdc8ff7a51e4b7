/-
  PROVED HERE (the walk): the statement PcapBack: a file's header is opened as it was, whatever stands behind it; a record's moment is told as just its seconds and parts; a later record's moment is later; what is cut off of a header is ErrShort.
-/
import Derived.Test.YthmkfkmcamjnoaaDoorPKnown8
import Derived.Test.YthmkfkmcamjnoaaDoorPHead8
import Derived.Test.YthmkfkmcamjnoaaDoorPPut8
import Derived.Test.YthmkfkmcamjnoaaDoorOctF
namespace Go.Proofs.YthmkfkmcamjnoaaDoor
open Go.RowKit Go.Sort
set_option maxRecDepth 100000
theorem BytA.takeN {w : World} {a : Option Addr} {l : List UInt8} (h : BytA w a l) (m : Nat) : BytA w a (l.take m) := by
  rcases h with rfl | ⟨b, o, e, hb, hc⟩
  · left; simp
  · right
    refine ⟨b, o, e, hb, fun j hj => ?_⟩
    have hj' : j < l.length := by rw [List.length_take] at hj; omega
    rw [hc j hj']; simp
def bkVal (fv : Value) (ad : Option Addr) (d z m : Nat) (i p : Nat) : Value :=
  match i with
  | 0 => fv
  | 1 => .slice ad 16 d
  | 2 => .int .u8 z
  | 3 => .int .i64 z
  | 4 => .slice ad 16 d
  | 5 => .int .i64 16
  | 6 => .int .i64 m
  | 7 => .slice ad m d
  | 8 => .tuple #[.agg #[.int .u32 0, .int .u32 0, .int .u32 0, .int .u32 0], .int .i64 121]
  | 9 => .tuple #[.agg #[.int .u32 0, .int .u32 0, .int .u32 0, .int .u32 0], .int .i64 121]
  | 10 => .agg #[.int .u32 0, .int .u32 0, .int .u32 0, .int .u32 0]
  | 11 => .int .i64 121
  | 12 => .pointer (some ⟨p, 0, none⟩)
  | 14 => .int .i64 121
  | _ => undef
def bkObj (_i : Nat) : Obj := .cells #[.int .u32 0, .int .u32 0, .int .u32 0, .int .u32 0] 43 (0, 0)
theorem infoFile : (Tryd.prog.info? 26).map (·.size) = some 4 := by kernel_rfl
/-- What stays: the three structs that came in, the variables. -/
def BaSt (w wr : World) (fo go ho : Obj) : Prop := KeepP w wr ∧ wr.heap[w.heap.size]? = some fo ∧ wr.heap[w.heap.size + 1]? = some go ∧ wr.heap[w.heap.size + 1 + 1]? = some ho
theorem BaSt.on {w wr w2 : World} {fo go ho : Obj} (h : BaSt w wr fo go ho) (hb : Below wr.heap.size wr w2) : BaSt w w2 fo go ho := ⟨h.1.on hb, keepRow h.2.1 hb, keepRow h.2.2.1 hb, keepRow h.2.2.2 hb⟩
theorem BaSt.alloc {w wr : World} {fo go ho : Obj} (h : BaSt w wr fo go ho) (o : Obj) : BaSt w (wr.alloc o) fo go ho := h.on (below_alloc wr o)
set_option maxHeartbeats 8000000 in
theorem pcapBack_small (a b : Bool) (k s : Nat) (g0 g1 g2 g3 h0 h1 h2 h3 : Nat) (v : Value) (l : List UInt8) (z : Nat) (hk : k < 65536) (hs : s < 4294967296) (hg0 : g0 < 4294967296) (hg1 : g1 < 4294967296) (hh0 : h0 < 4294967296) (hh1 : h1 < 4294967296) (hh2 : h2 < 4294967296) (hh3 : h3 < 4294967296) (hz : z ≤ 255)
    (w : World) (hE : EnvP w) (hB : Byt w v l) (hl : l.length ≤ 300) :
    Calls Tryd.prog 6 #[(.agg #[.bool a, .bool b, .int .u16 k, .int .u32 s]), .agg #[.int .u32 g0, .int .u32 g1, .int .u32 g2, .int .u32 g3], .agg #[.int .u32 h0, .int .u32 h1, .int .u32 h2, .int .u32 h3], v, .int .u8 z] w fun e w' => e = .returned (.bool true) ∧ Below w.heap.size w w' := by
  have TB := Lib.hid (fun w => t_bytes a b k s hk hs w)
  have L24 : (bytesS a b k s).length = 24 := bytesS_length _ _ _ _
  have O1 := Lib.hid (fun v w hB hM => t_open v (bytesS a b k s ++ l) w hB hM (by simp; omega))
  rw [open_bytes a b k s hk hs l] at O1
  rw [show fileV ((a, b, k, s), 0) = .tuple #[.agg #[.bool a, .bool b, .int .u16 k, .int .u32 s], .int .i64 0] from rfl] at O1
  have O2 := Lib.hid (fun v w hB hM => t_open v ((bytesS a b k s).take (z % 24)) w hB hM (by rw [List.length_take]; omega))
  rw [open_cut a b k s (z % 24) (by omega)] at O2
  rw [show fileV ((false, false, 0, 0), 121) = .tuple #[.agg #[.bool false, .bool false, .int .u16 0, .int .u32 0], .int .i64 121] from rfl] at O2
  have TP := Lib.hid (fun w => t_putF a b k s h0 h1 h2 h3 hh0 hh1 hh2 hh3 w)
  have L16 : (putS a h0 h1 h2 h3).length = 16 := putS_length _ _ _ _ _
  have TH := Lib.hid (fun v w hB => t_head a b k s v ((putS a h0 h1 h2 h3).take (z % 16)) 4294967296 (by omega) w hB (by rw [List.length_take]; omega))
  rw [head_cut a b h0 h1 h2 h3 (z % 16) 4294967296 (by omega)] at TH
  rw [show headV ((0, 0, 0, 0), 121) = .tuple #[.agg #[.int .u32 0, .int .u32 0, .int .u32 0, .int .u32 0], .int .i64 121] from rfl] at TH
  have TD := Lib.hid (fun w => t_den a b k s w)
  have TAg := Lib.hid (fun w hg => t_at a b k s g0 g1 g2 g3 hg0 hg1 w hg)
  have TAh := Lib.hid (fun w hg => t_at a b k s h0 h1 h2 h3 hh0 hh1 w hg)
  have TW := Lib.hid (fun w hg => t_when a b k s (atS b h0 h1) (at_in b h0 h1 (by omega) (by omega)) w hg)
  have CM := Lib.hid (g_cmp (atS b g0 g1) (atS b h0 h1))
  have D : (den b ≤ g1) = True ∨ ((den b ≤ g1) = False ∧ (den b ≤ h1) = True) ∨ ((den b ≤ g1) = False ∧ (den b ≤ h1) = False ∧ (whenOk (atS b h0 h1) = true ∧ whenS (atS b h0 h1) = h0 ∧ whenP b (atS b h0 h1) = h1) ∧ (decide (0 < sgn (atS b g0 g1) (atS b h0 h1)) = true ↔ (h0 < g0 ∨ (h0 = g0 ∧ h1 < g1)))) := by
    by_cases D1 : den b ≤ g1
    · left; simp [D1]
    · right
      by_cases D2 : den b ≤ h1
      · left; simp [D1, D2]
      · right
        refine ⟨by simp; omega, by simp; omega, when_at b h0 h1 (by omega) (by omega) (by omega), ?_⟩
        have := at_lt b h0 h1 g0 g1 (by omega) (by omega)
        rw [decide_eq_true_eq]
        unfold sgn
        constructor
        · intro h
          have : atS b h0 h1 < atS b g0 g1 := by
            split at h
            · omega
            · split at h <;> omega
          omega
        · intro h
          have : atS b h0 h1 < atS b g0 g1 := by omega
          rw [if_neg (by omega)]
          split <;> omega
  generalize atS b g0 g1 = X at *
  generalize atS b h0 h1 = Y at *
  generalize whenS Y = ys at *
  generalize whenP b Y = yp at *
  generalize whenOk Y = yo at *
  generalize sgn X Y = cm at *
  unfold wideV at TAg TAh TW
  have HB := Lib.hid hB
  obtain ⟨ad, c, rfl, hc, hA⟩ := hB.open
  have HA := Lib.hid hA
  have g3' : decide ((300 : Int) < (l.length : Nat)) = false := by simp; omega
  obtain ⟨fo, hfo⟩ : ∃ o, o = Obj.cells #[.bool a, .bool b, .int .u16 k, .int .u32 s] 26 (0, 0) := ⟨_, rfl⟩
  obtain ⟨go, hgo⟩ : ∃ o, o = Obj.cells #[.int .u32 g0, .int .u32 g1, .int .u32 g2, .int .u32 g3] 43 (0, 0) := ⟨_, rfl⟩
  obtain ⟨ho, hho⟩ : ∃ o, o = Obj.cells #[.int .u32 h0, .int .u32 h1, .int .u32 h2, .int .u32 h3] 43 (0, 0) := ⟨_, rfl⟩
  have S0 := Lib.hid (show BaSt w (((w.alloc fo).alloc go).alloc ho) fo go ho from ⟨(((show KeepP w w from ⟨hE, Below.refl _ _⟩).alloc fo).alloc go).alloc ho, keepRow (keepRow (row_new w fo rfl) (below_alloc _ go)) (below_alloc _ ho), keepRow (row_new (w.alloc fo) go (by simp)) (below_alloc _ ho), row_new ((w.alloc fo).alloc go) ho (by simp)⟩)
  have HL := Lib.hid hl
  obtain ⟨n, hn⟩ : ∃ n, n = l.length := ⟨_, rfl⟩
  have HN := Lib.hid hn
  rw [← hn] at g3' HB hc HL ⊢
  clear hn hE hB hA hl
  have cz : IntKind.i64.wrap (z : Int) = (z : Int) := by rw [IntKind.wrap_i64]; omega
  have rz24 : (z : Int).tmod 24 = ((z % 24 : Nat) : Int) := by rw [Int.tmod_eq_emod_of_nonneg (by omega)]; omega
  have rz16 : (z : Int).tmod 16 = ((z % 16 : Nat) : Int) := by rw [Int.tmod_eq_emod_of_nonneg (by omega)]; omega
  have M24 : z % 24 < 24 := by omega
  have M16 : z % 16 < 16 := by omega
  generalize z % 24 = m24 at *
  generalize z % 16 = m16 at *
  generalize den b = dn at *
  have wg : IntKind.u64.wrap (g1 : Int) = (g1 : Int) := wrap_small g1 (by omega)
  have wh : IntKind.u64.wrap (h1 : Int) = (h1 : Int) := wrap_small h1 (by omega)
  go_enter Tryd.func6, Tryd.ntmps6
  go_upto_region 1 with fail
  rw [← hfo, ← hgo, ← hho]
  generalize ((w.alloc fo).alloc go).alloc ho = u0 at *
  rw [hfo, hgo, hho] at S0
  clear hfo hgo hho
  go_upto_region 5 with (go_at_call 7; refine (t_known _ S0.out.1.1).mono ?_; rintro e u1 ⟨rfl, hb⟩; have S1 := Lib.hid (S0.out.on hb); clear hb S0)
  obtain ⟨⟨c0, c1, c2, c3⟩, _⟩ := row4 S1.out.2.1
  go_upto_region 6 with (go_at_call 10; refine (TB.out _).mono ?_; rintro e u2 ⟨v2, rfl, hY, hb⟩; have S2 := Lib.hid (S1.out.on hb); have Y2 := Lib.hid hY; obtain ⟨a2, d2, rfl, hd2, hA2⟩ := hY.open; have A2 := Lib.hid hA2; clear hb S1 hY hA2 c0 c1 c2 c3)
  rw [L24] at hd2
  have OE := Lib.hid (ownB_empty u2)
  have E2 := Lib.hid (A2.out.on (below_alloc u2 (.cells #[] 5)))
  go_wp2_with (at_builtin; refine wp_append_bytes rfl (.tmp 31) (.tmp 32) rfl u2 _ [] _ rfl OE.out a2 (bytesS a b k s) 24 d2 L24.symm rfl E2.out (by rw [L24]; simp) ?_)
  intro v3 u3 O3
  have O3 := Lib.hid O3
  obtain ⟨a3, n3, d3, rfl⟩ := O3.out.slice
  have E3 := Lib.hid (HA.out.on (S2.out.1.2.trans (O3.out.below.mono S2.out.1.2.size)))
  clear OE E2
  go_wp2_with (at_builtin; refine wp_append_bytes rfl (.tmp 33) (.tmp 34) rfl u2 _ _ _ rfl O3.out ad l n c HN.out rfl E3.out (by have := HL.out; have := HN.out; simp; omega) ?_)
  intro v4 u4 O4
  have O4 := Lib.hid O4
  obtain ⟨a4, n4, d4, rfl⟩ := O4.out.slice
  have S4 := Lib.hid (S2.out.on O4.out.below)
  have A4 := Lib.hid (A2.out.on O4.out.below)
  have Y4 := Lib.hid (show Byt u4 (.slice a4 n4 d4) (bytesS a b k s ++ l) from by simpa using O4.out.byt)
  clear S2 A2 O3 E3 O4 HB
  go_wp2_with fail
  refine (O1.out _ _ Y4.out S4.out.1.1.2).mono ?_
  rintro e u5 ⟨rfl, hb⟩
  have S5 := Lib.hid (S4.out.on hb)
  have A5 := Lib.hid (A4.out.on hb)
  clear hb S4 A4 Y4
  go_upto_region 7 with fail
  have S6 := Lib.hid (S5.out.alloc (.cells #[.bool a, .bool b, .int .u16 k, .int .u32 s] 26))
  have A6 := Lib.hid (A5.out.on (below_alloc u5 (.cells #[.bool a, .bool b, .int .u16 k, .int .u32 s] 26)))
  have X6 := Lib.hid (row_new u5 (.cells #[.bool a, .bool b, .int .u16 k, .int .u32 s] 26) rfl)
  clear S5 A5
  generalize u5.alloc (.cells #[.bool a, .bool b, .int .u16 k, .int .u32 s] 26) = u6 at *
  generalize u5.heap.size = q1 at *
  obtain ⟨⟨c0, c1, c2, c3⟩, _⟩ := row4 S6.out.2.1
  obtain ⟨⟨e0, e1, e2, e3⟩, _⟩ := row4 X6.out
  go_upto_region 9 with fail
  clear c0 c1 c2 c3 e0 e1 e2 e3 X6
  go_wp2_with fail
  refine (O2.out _ _ ((A6.out.takeN m24).byt (by rw [List.length_take, L24]; omega) (by omega)) S6.out.1.1.2).mono ?_
  rintro e u7 ⟨rfl, hb⟩
  have S7 := Lib.hid (S6.out.on hb)
  clear hb S6 A6
  go_upto_region 12 with fail
  have S8 := Lib.hid (S7.out.alloc (.cells #[.bool false, .bool false, .int .u16 0, .int .u32 0] 26))
  clear S7
  generalize u7.alloc (.cells #[.bool false, .bool false, .int .u16 0, .int .u32 0] 26) = u8 at *
  obtain ⟨⟨c0, c1, c2, c3⟩, _⟩ := row4 S8.out.2.1
  obtain ⟨⟨e0, e1, e2, e3⟩, _⟩ := row4 S8.out.2.2.2
  go_upto_region 13 with (go_at_call 17; refine (TP.out _).mono ?_; rintro e u9 ⟨v9, rfl, hY, hb⟩; have S9 := Lib.hid (S8.out.on hb); obtain ⟨a9, d9, rfl, hd9, hA9⟩ := hY.open; have A9 := Lib.hid hA9; clear hb S8 hY hA9 c0 c1 c2 c3 e0 e1 e2 e3)
  rw [L16] at hd9
  have hmd : m16 ≤ d9 := by omega
  refine wp_region_turns [.gives, .gives, .gives, .gives, .gives, .gives, .gives, .gives, .gives, .gives, .gives, .gives, .makes (some 13), .stores 12, .gives] (bkVal (.agg #[.bool a, .bool b, .int .u16 k, .int .u32 s]) a9 d9 z m16) bkObj (by kernel_rfl) (by kernel_rfl) rfl ?_ ?_
  · refine EachOp.cons (fun D own a' w' I hn hd => ?_) ?_
    · exact does_load rfl rfl 26 (.tmp 5) rfl _ ((I.was (by kernel_rfl)).trans rfl) 26 _ _ _ (I.blk S9.out.2.1) Tryd.underlying26 rfl infoFile rfl
    refine EachOp.cons (fun D own a' w' I hn hd => ?_) ?_
    · have e16 : a'.eval (.tmp 16) = .slice a9 16 d9 := (I.was (by kernel_rfl)).trans rfl
      have e16p : a'.tmps[16]?.getD undef = .slice a9 16 d9 := by simpa [Act.eval] using e16
      exact does_value rfl rfl (by go_simp; rfl)
    refine EachOp.cons (fun D own a' w' I hn hd => ?_) ?_
    · have e4 : a'.eval (.tmp 4) = .int .u8 z := (I.was (by kernel_rfl)).trans rfl
      have e4p : a'.tmps[4]?.getD undef = .int .u8 z := by simpa [Act.eval] using e4
      exact does_value rfl rfl (by go_simp; rfl)
    refine EachOp.cons (fun D own a' w' I hn hd => ?_) ?_
    · have e70 : a'.eval (.tmp 70) = .int .u8 z := I.get (i := 2) rfl (hd 2 (by kernel_rfl)) rfl rfl
      have e70p : a'.tmps[70]?.getD undef = .int .u8 z := by simpa [Act.eval] using e70
      exact does_value rfl rfl (by go_simp; rfl)
    refine EachOp.cons (fun D own a' w' I hn hd => ?_) ?_
    · have e16 : a'.eval (.tmp 16) = .slice a9 16 d9 := (I.was (by kernel_rfl)).trans rfl
      have e16p : a'.tmps[16]?.getD undef = .slice a9 16 d9 := by simpa [Act.eval] using e16
      exact does_value rfl rfl (by go_simp; rfl)
    refine EachOp.cons (fun D own a' w' I hn hd => ?_) ?_
    · have e72 : a'.eval (.tmp 72) = .slice a9 16 d9 := I.get (i := 4) rfl (hd 4 (by kernel_rfl)) rfl rfl
      have e72p : a'.tmps[72]?.getD undef = .slice a9 16 d9 := by simpa [Act.eval] using e72
      exact does_value rfl rfl (by go_simp; rfl)
    refine EachOp.cons (fun D own a' w' I hn hd => ?_) ?_
    · have e71 : a'.eval (.tmp 71) = .int .i64 z := I.get (i := 3) rfl (hd 3 (by kernel_rfl)) rfl rfl
      have e71p : a'.tmps[71]?.getD undef = .int .i64 z := by simpa [Act.eval] using e71
      have e73 : a'.eval (.tmp 73) = .int .i64 16 := I.get (i := 5) rfl (hd 5 (by kernel_rfl)) rfl rfl
      have e73p : a'.tmps[73]?.getD undef = .int .i64 16 := by simpa [Act.eval] using e73
      exact does_value rfl rfl (by go_simp; rfl)
    refine EachOp.cons (fun D own a' w' I hn hd => ?_) ?_
    · have e69 : a'.eval (.tmp 69) = .slice a9 16 d9 := I.get (i := 1) rfl (hd 1 (by kernel_rfl)) rfl rfl
      have e69p : a'.tmps[69]?.getD undef = .slice a9 16 d9 := by simpa [Act.eval] using e69
      have e74 : a'.eval (.tmp 74) = .int .i64 m16 := I.get (i := 6) rfl (hd 6 (by kernel_rfl)) rfl rfl
      have e74p : a'.tmps[74]?.getD undef = .int .i64 m16 := by simpa [Act.eval] using e74
      exact does_value rfl rfl (by go_simp; rfl)
    refine EachOp.cons (fun D own a' w' I hn hd => ?_) ?_
    · have e68 : a'.eval (.tmp 68) = (.agg #[.bool a, .bool b, .int .u16 k, .int .u32 s]) := I.get (i := 0) rfl (hd 0 (by kernel_rfl)) rfl rfl
      have e75 : a'.eval (.tmp 75) = .slice a9 m16 d9 := I.get (i := 7) rfl (hd 7 (by kernel_rfl)) rfl rfl
      exact does_go rfl rfl rfl rfl Tryd.func15 (by kernel_rfl) (by kernel_rfl) #[(.agg #[.bool a, .bool b, .int .u16 k, .int .u32 s]), .slice a9 m16 d9, .int .i64 4294967296] (by simp [e68, e75] <;> rfl) (TH.out _ w' (((A9.out.takeN m16).byt (by rw [List.length_take, L16]; omega) (by omega)).on I.below))
    refine EachOp.cons (fun D own a' w' I hn hd => ?_) ?_
    · have e76 : a'.eval (.tmp 76) = .tuple #[.agg #[.int .u32 0, .int .u32 0, .int .u32 0, .int .u32 0], .int .i64 121] := I.get (i := 8) rfl (hd 8 (by kernel_rfl)) rfl rfl
      have e76p : a'.tmps[76]?.getD undef = .tuple #[.agg #[.int .u32 0, .int .u32 0, .int .u32 0, .int .u32 0], .int .i64 121] := by simpa [Act.eval] using e76
      exact does_value rfl rfl (by go_simp; rfl)
    refine EachOp.cons (fun D own a' w' I hn hd => ?_) ?_
    · have e67 : a'.eval (.tmp 67) = .tuple #[.agg #[.int .u32 0, .int .u32 0, .int .u32 0, .int .u32 0], .int .i64 121] := I.get (i := 9) rfl (hd 9 (by kernel_rfl)) rfl rfl
      have e67p : a'.tmps[67]?.getD undef = .tuple #[.agg #[.int .u32 0, .int .u32 0, .int .u32 0, .int .u32 0], .int .i64 121] := by simpa [Act.eval] using e67
      exact does_value rfl rfl (by go_simp; rfl)
    refine EachOp.cons (fun D own a' w' I hn hd => ?_) ?_
    · have e67 : a'.eval (.tmp 67) = .tuple #[.agg #[.int .u32 0, .int .u32 0, .int .u32 0, .int .u32 0], .int .i64 121] := I.get (i := 9) rfl (hd 9 (by kernel_rfl)) rfl rfl
      have e67p : a'.tmps[67]?.getD undef = .tuple #[.agg #[.int .u32 0, .int .u32 0, .int .u32 0, .int .u32 0], .int .i64 121] := by simpa [Act.eval] using e67
      exact does_value rfl rfl (by go_simp; rfl)
    refine EachOp.cons (fun D own a' w' I hn hd => ?_) ?_
    · exact does_alloc rfl rfl (by go_simp; exact ⟨rfl, rfl⟩)
    refine EachOp.cons (fun D own a' w' I hn hd => ?_) ?_
    · have e17 : a'.eval (.tmp 17) = .pointer (some ⟨own 12, 0, none⟩) := I.get (i := 12) rfl (hd 12 (by kernel_rfl)) rfl rfl
      have e77 : a'.eval (.tmp 77) = .agg #[.int .u32 0, .int .u32 0, .int .u32 0, .int .u32 0] := I.get (i := 10) rfl (hd 10 (by kernel_rfl)) rfl rfl
      exact does_store rfl rfl rfl 43 (.tmp 17) (.tmp 77) rfl _ e17 e77 43 _ (I.fresh (hd 12 (by kernel_rfl)) rfl hn) infoHead rfl (by kernel_rfl) rfl
    refine EachOp.cons (fun D own a' w' I hn hd => ?_) EachOp.nil
    · have e78 : a'.eval (.tmp 78) = .int .i64 121 := I.get (i := 11) rfl (hd 11 (by kernel_rfl)) rfl rfl
      have e78p : a'.tmps[78]?.getD undef = .int .i64 121 := by simpa [Act.eval] using e78
      exact does_value rfl rfl (by go_simp; rfl)
  · intro own u10 H
    have S10 := Lib.hid (S9.out.on H.below)
    refine (by assumption : ∀ (a : Act) (w : World), Code.wp Tryd.prog _ _ a w → _) _ _ ?_
    simp only [putAll, Act.put, List.setIfInBounds_toArray, List.set_cons_zero, List.set_cons_succ, Nat.zero_add, Nat.reduceAdd, bkVal]
    generalize own 12 = r at *
    clear H S9 A9
    go_upto_region 16 with fail
    clear TB O1 O2 TP TH HL HN HA g3' cz rz24 rz16 M24 M16 hd9 hmd hd2 L24 L16 hc
    obtain ⟨⟨c0, c1, c2, c3⟩, _⟩ := row4 S10.out.2.1
    obtain ⟨⟨d0, d1, d2', d3⟩, _⟩ := row4 S10.out.2.2.1
    obtain ⟨⟨e0, e1, e2, e3⟩, _⟩ := row4 S10.out.2.2.2
    have c0 := cell_regrown c0
    have c1 := cell_regrown c1
    have c2 := cell_regrown c2
    have c3 := cell_regrown c3
    have d1 := cell_regrown d1
    have e1 := cell_regrown e1
    rcases D with D1 | ⟨D1, D2⟩ | ⟨D1, D2, D3⟩
    · refine wp_region_quiet_below (by kernel_rfl) (by kernel_rfl) ?_
      repeat (go_big_quiet_step (first | (with_reducible exact (Calls.regrown_of (TD.out _)))))
      (refine wpQuiet_nil ?_; intro _ hw'; obtain ⟨⟨dq, osq⟩, hw''⟩ := hw'; subst hw'')
      go_wp2
      go_ret
      exact ⟨rfl, S10.out.1.2.trans ((below_regrown u10 dq osq).mono S10.out.1.2.size)⟩
    · refine wp_region_quiet_below (by kernel_rfl) (by kernel_rfl) ?_
      repeat (go_big_quiet_step (first | (with_reducible exact (Calls.regrown_of (TD.out _)))))
      (refine wpQuiet_nil ?_; intro _ hw'; obtain ⟨⟨dq, osq⟩, hw''⟩ := hw'; subst hw'')
      go_wp2
      go_ret
      exact ⟨rfl, S10.out.1.2.trans ((below_regrown u10 dq osq).mono S10.out.1.2.size)⟩
    · refine wp_region_quiet_below (by kernel_rfl) (by kernel_rfl) ?_
      repeat (go_big_quiet_step (first | (with_reducible exact (Calls.regrown_of (TD.out _)))))
      (refine wpQuiet_nil ?_; intro _ hw'; obtain ⟨⟨dq, osq⟩, hw''⟩ := hw'; subst hw'')
      have S11 := Lib.hid (S10.out.on (below_regrown u10 dq osq))
      clear S10 c0 c1 c2 c3 d1 e1
      generalize grow (redrawn u10 dq) osq = u11 at *
      go_upto_region 18 with fail
      obtain ⟨⟨c0, c1, c2, c3⟩, _⟩ := row4 S11.out.2.1
      obtain ⟨⟨d0, d1, d2', d3⟩, _⟩ := row4 S11.out.2.2.1
      obtain ⟨⟨e0, e1, e2, e3⟩, _⟩ := row4 S11.out.2.2.2
      have c0 := cell_regrown c0
      have c1 := cell_regrown c1
      have c2 := cell_regrown c2
      have c3 := cell_regrown c3
      have d0 := cell_regrown d0
      have d1 := cell_regrown d1
      have d2' := cell_regrown d2'
      have d3 := cell_regrown d3
      have e0 := cell_regrown e0
      have e1 := cell_regrown e1
      have e2 := cell_regrown e2
      have e3 := cell_regrown e3
      obtain ⟨⟨rfl, rfl, rfl⟩, D4⟩ := D3
      have G11 := Lib.hid (show Glob u11 from S11.out.1.1.1)
      refine wp_region_quiet_below (by kernel_rfl) (by kernel_rfl) ?_
      repeat (go_big_quiet_step (first | (with_reducible exact (Calls.regrown_of (TAh.out _ (G11.out.regrown _ _)))) | (with_reducible exact (Calls.regrown_of (TW.out _ (G11.out.regrown _ _))))))
      (refine wpQuiet_nil ?_; intro _ hw'; obtain ⟨⟨dq, osq⟩, hw''⟩ := hw'; subst hw'')
      have S12 := Lib.hid (S11.out.on (below_regrown u11 dq osq))
      clear S11 c0 c1 c2 c3 d0 d1 d2' d3 e0 e1 e2 e3
      generalize grow (redrawn u11 dq) osq = u12 at *
      obtain ⟨⟨c0, c1, c2, c3⟩, _⟩ := row4 S12.out.2.1
      obtain ⟨⟨d0, d1, d2', d3⟩, _⟩ := row4 S12.out.2.2.1
      obtain ⟨⟨e0, e1, e2, e3⟩, _⟩ := row4 S12.out.2.2.2
      go_upto_region 21 with fail
      have G12 := Lib.hid (show Glob u12 from S12.out.1.1.1)
      have CE := Lib.hid D4
      clear D4 D1 D2
      rcases (show h0 < g0 ∨ (g0 = h0 ∧ h1 < g1) ∨ (g0 = h0 ∧ ¬ h1 < g1) ∨ g0 < h0 by omega) with g | ⟨rfl, g⟩ | ⟨rfl, g⟩ | g
      case' inl =>
        have n1 : (h0 < g0) = True := by simp; omega
        have n2 : (0 < cm) = True := by have := CE.out.2 (Or.inl g); simpa using this
      case' inr.inl =>
        have n1 : (h1 < g1) = True := by simp; omega
        have n2 : (0 < cm) = True := by have := CE.out.2 (Or.inr ⟨rfl, g⟩); simpa using this
      case' inr.inr.inl =>
        have n1 : (h1 < g1) = False := by simp; omega
        have n2 : (0 < cm) = False := by
          refine eq_false fun hc => ?_
          have := CE.out.1 (by simpa using hc)
          omega
      case' inr.inr.inr =>
        have n1 : (h0 < g0) = False := by simp; omega
        have n3 : (g0 = h0) = False := by simp; omega
        have n4 : (((g0 : Int) == (h0 : Nat)) : Bool) = false := by simp; omega
        have n2 : (0 < cm) = False := by
          refine eq_false fun hc => ?_
          have := CE.out.1 (by simpa using hc)
          omega
      all_goals
        clear g CE
        go_upto_region 22 with fail
        clear c0 c1 c2 c3 d0 d1 d2' d3 e0 e1 e2 e3
        obtain ⟨⟨c0, c1, c2, c3⟩, _⟩ := row4 S12.out.2.1
        obtain ⟨⟨d0, d1, d2', d3⟩, _⟩ := row4 S12.out.2.2.1
        obtain ⟨⟨e0, e1, e2, e3⟩, _⟩ := row4 S12.out.2.2.2
        have c0 := cell_regrown c0
        have c1 := cell_regrown c1
        have c2 := cell_regrown c2
        have c3 := cell_regrown c3
        have d0 := cell_regrown d0
        have d1 := cell_regrown d1
        have d2' := cell_regrown d2'
        have d3 := cell_regrown d3
        have e0 := cell_regrown e0
        have e1 := cell_regrown e1
        have e2 := cell_regrown e2
        have e3 := cell_regrown e3
        refine wp_region_quiet_below (by kernel_rfl) (by kernel_rfl) ?_
        repeat (go_big_quiet_step (first | (with_reducible exact (CM.out.quiet G12.out _ _)) | (with_reducible exact (Calls.regrown_of (TAg.out _ (G12.out.regrown _ _)))) | (with_reducible exact (Calls.regrown_of (TAh.out _ (G12.out.regrown _ _))))))
        (refine wpQuiet_nil ?_; intro _ hw'; obtain ⟨⟨dq, osq⟩, hw''⟩ := hw'; subst hw'')
        go_wp2
        go_ret
        exact ⟨rfl, S12.out.1.2.trans ((below_regrown u12 dq osq).mono S12.out.1.2.size)⟩
set_option maxHeartbeats 1000000 in
theorem pcapBack_any (a b : Bool) (k s : Nat) (g0 g1 g2 g3 h0 h1 h2 h3 : Nat) (v : Value) (l : List UInt8) (x : Int) (hf : k < 65536 ∧ s < 4294967296) (hg : g0 < 4294967296 ∧ g1 < 4294967296 ∧ g2 < 4294967296 ∧ g3 < 4294967296) (hh : h0 < 4294967296 ∧ h1 < 4294967296 ∧ h2 < 4294967296 ∧ h3 < 4294967296) (hx : 0 ≤ x ∧ x ≤ 255)
    (w : World) (hE : EnvP w) (hB : Byt w v l) :
    Calls Tryd.prog 6 #[(.agg #[.bool a, .bool b, .int .u16 k, .int .u32 s]), .agg #[.int .u32 g0, .int .u32 g1, .int .u32 g2, .int .u32 g3], .agg #[.int .u32 h0, .int .u32 h1, .int .u32 h2, .int .u32 h3], v, .int .u8 x] w fun e w' => e = .returned (.bool true) ∧ Below w.heap.size w w' := by
  obtain ⟨z, rfl⟩ := Int.eq_ofNat_of_zero_le hx.1
  by_cases hl : l.length ≤ 300
  · exact pcapBack_small a b k s g0 g1 g2 g3 h0 h1 h2 h3 v l z hf.1 hf.2 hg.1 hg.2.1 hh.1 hh.2.1 hh.2.2.1 hh.2.2.2 (by omega) w hE hB hl
  · obtain ⟨ad, c, rfl, hc, _⟩ := hB.open
    have g : decide ((300 : Int) < (l.length : Nat)) = true := by simp; omega
    have S0 := Lib.hid ((((show KeepP w w from ⟨hE, Below.refl _ _⟩).alloc (.cells #[.bool a, .bool b, .int .u16 k, .int .u32 s] 26 (0, 0))).alloc (.cells #[.int .u32 g0, .int .u32 g1, .int .u32 g2, .int .u32 g3] 43 (0, 0))).alloc (.cells #[.int .u32 h0, .int .u32 h1, .int .u32 h2, .int .u32 h3] 43 (0, 0)))
    clear hl hB hE
    generalize l.length = n at *
    go_enter Tryd.func6, Tryd.ntmps6
    go_wp2_with (go_at_call 7; refine (t_known _ S0.out.1).mono ?_; rintro e w1 ⟨rfl, hb⟩)
    go_ret
    exact ⟨rfl, (S0.out.on hb).2⟩
end Go.Proofs.YthmkfkmcamjnoaaDoor
