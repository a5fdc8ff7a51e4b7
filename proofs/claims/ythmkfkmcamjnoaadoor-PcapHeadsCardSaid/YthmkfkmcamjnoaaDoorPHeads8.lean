/-
  PROVED HERE (the walk): the statement PcapHeads: what any bytes are as a record's header, and the bytes of any header, are the document's.
-/
import Derived.Test.YthmkfkmcamjnoaaDoorPKnown8
import Derived.Test.YthmkfkmcamjnoaaDoorPRHead8
import Derived.Test.YthmkfkmcamjnoaaDoorPPut8
namespace Go.Proofs.YthmkfkmcamjnoaaDoor
open Go.RowKit Go.Sort
set_option maxRecDepth 100000
/-- What stays: the two structs that came in, the variables. -/
def HeSt (w wr : World) (fo ho : Obj) : Prop := KeepP w wr ∧ wr.heap[w.heap.size]? = some fo ∧ wr.heap[w.heap.size + 1]? = some ho
theorem HeSt.on {w wr w2 : World} {fo ho : Obj} (h : HeSt w wr fo ho) (hb : Below wr.heap.size wr w2) : HeSt w w2 fo ho := ⟨h.1.on hb, keepRow h.2.1 hb, keepRow h.2.2 hb⟩
theorem HeSt.alloc {w wr : World} {fo ho : Obj} (h : HeSt w wr fo ho) (o : Obj) : HeSt w (wr.alloc o) fo ho := h.on (below_alloc wr o)
set_option maxHeartbeats 4000000 in
theorem pcapHeads_small (a b : Bool) (k s : Nat) (v : Value) (l : List UInt8) (most : Int) (y0 y1 y2 y3 : Nat) (hm : -9223372036854775808 ≤ most ∧ most ≤ 9223372036854775807) (h0 : y0 < 4294967296) (h1 : y1 < 4294967296) (h2 : y2 < 4294967296) (h3 : y3 < 4294967296)
    (w : World) (hE : EnvP w) (hB : Byt w v l) (hl : l.length ≤ 300) :
    Calls Tryd.prog 4 #[(.agg #[.bool a, .bool b, .int .u16 k, .int .u32 s]), v, .int .i64 most, (.agg #[.int .u32 y0, .int .u32 y1, .int .u32 y2, .int .u32 y3])] w fun e w' => e = .returned (.bool true) ∧ Below w.heap.size w w' := by
  have TH := Lib.hid (fun w hB => t_head a b k s v l most hm w hB (by omega))
  have RH := Lib.hid (fun w hB => r_head a b k s v l most hm w hB (by omega))
  have TP := Lib.hid (fun w => t_putF a b k s y0 y1 y2 y3 h0 h1 h2 h3 w)
  have hL : (putS a y0 y1 y2 y3).length = 16 := putS_length _ _ _ _ _
  have T2 := Lib.hid (fun v w hB => t_head a b k s v (putS a y0 y1 y2 y3) 4294967296 (by omega) w hB (by omega))
  rw [head_put a b y0 y1 y2 y3 h0 h1 h2 h3] at T2
  have TD := Lib.hid (fun w => t_den a b k s w)
  have HB := Lib.hid hB
  obtain ⟨⟨⟨z0, z1, z2, z3⟩, zn⟩, hz⟩ : ∃ z, z = headS a b l most := ⟨_, rfl⟩
  rw [← hz] at TH RH
  unfold headV at TH RH
  simp only at TH RH
  clear hz
  have wy : IntKind.u64.wrap (y1 : Int) = (y1 : Int) := wrap_small y1 (by omega)
  generalize putS a y0 y1 y2 y3 = q at *
  unfold headV at T2
  generalize den b = dn at *
  obtain ⟨ad, c, rfl, hc, _⟩ := hB.open
  have g3 : decide ((300 : Int) < (l.length : Nat)) = false := by simp; omega
  obtain ⟨fo, hfo⟩ : ∃ o, o = Obj.cells #[.bool a, .bool b, .int .u16 k, .int .u32 s] 26 (0, 0) := ⟨_, rfl⟩
  obtain ⟨ho, hho⟩ : ∃ o, o = Obj.cells #[.int .u32 y0, .int .u32 y1, .int .u32 y2, .int .u32 y3] 43 (0, 0) := ⟨_, rfl⟩
  have S0 := Lib.hid (show HeSt w ((w.alloc fo).alloc ho) fo ho from ⟨((show KeepP w w from ⟨hE, Below.refl _ _⟩).alloc fo).alloc ho, keepRow (row_new w fo rfl) (below_alloc _ ho), row_new (w.alloc fo) ho (by simp)⟩)
  have C : (decide (dn ≤ y1) = true ∧ (if dn ≤ y1 then (((0, 0, 0, 0), 8) : (Nat × Nat × Nat × Nat) × Nat) else ((y0, y1, y2, y3), 0)) = ((0, 0, 0, 0), 8)) ∨ (decide (dn ≤ y1) = false ∧ (if dn ≤ y1 then (((0, 0, 0, 0), 8) : (Nat × Nat × Nat × Nat) × Nat) else ((y0, y1, y2, y3), 0)) = ((y0, y1, y2, y3), 0)) := by
    by_cases g : dn ≤ y1
    · left; simp [g]
    · right; simp [g]
  generalize l.length = n at *
  clear hE hB h0 h1 h2 h3 hm
  rcases C with ⟨e1, C⟩ | ⟨e1, C⟩
  all_goals
    rw [C] at T2
    clear C
    go_enter Tryd.func4, Tryd.ntmps4
    go_upto_region 1 with fail
    rw [← hfo, ← hho]
    generalize (w.alloc fo).alloc ho = u0 at *
    rw [hfo, hho] at S0
    clear hfo hho
    go_upto_region 5 with (go_at_call 7; refine (t_known _ S0.out.1.1).mono ?_; rintro e u1 ⟨rfl, hb⟩; have S1 := Lib.hid (S0.out.on hb); clear hb S0)
    obtain ⟨⟨c0, c1, c2, c3⟩, _⟩ := row4 S1.out.2.1
    go_upto_region 6 with (go_at_call 15; refine (TH.out _ (HB.out.on S1.out.1.2)).mono ?_; rintro e u2 ⟨rfl, hb⟩; have S2 := Lib.hid (S1.out.on hb); clear hb S1 c0 c1 c2 c3)
    have S3 := Lib.hid (S2.out.alloc (.cells #[.int .u32 z0, .int .u32 z1, .int .u32 z2, .int .u32 z3] 43))
    have G3 := Lib.hid (row_new u2 (.cells #[.int .u32 z0, .int .u32 z1, .int .u32 z2, .int .u32 z3] 43) rfl)
    clear S2
    generalize u2.alloc (.cells #[.int .u32 z0, .int .u32 z1, .int .u32 z2, .int .u32 z3] 43) = u3 at *
    generalize u2.heap.size = q1 at *
    obtain ⟨⟨c0, c1, c2, c3⟩, _⟩ := row4 S3.out.2.1
    go_upto_region 7 with (go_at_call 16; refine (RH.out _ (HB.out.on S3.out.1.2)).mono ?_; rintro e u4 ⟨rfl, hb⟩; have S4 := Lib.hid (S3.out.on hb); have G4 := Lib.hid (keepRow G3.out hb); clear hb S3 G3 c0 c1 c2 c3)
    have S5 := Lib.hid (S4.out.alloc (.cells #[.int .u32 z0, .int .u32 z1, .int .u32 z2, .int .u32 z3] 46))
    have G5 := Lib.hid (keepRow G4.out (below_alloc u4 (.cells #[.int .u32 z0, .int .u32 z1, .int .u32 z2, .int .u32 z3] 46)))
    have K5 := Lib.hid (row_new u4 (.cells #[.int .u32 z0, .int .u32 z1, .int .u32 z2, .int .u32 z3] 46) rfl)
    clear S4 G4
    generalize u4.alloc (.cells #[.int .u32 z0, .int .u32 z1, .int .u32 z2, .int .u32 z3] 46) = u5 at *
    generalize u4.heap.size = q2 at *
    obtain ⟨⟨c0, c1, c2, c3⟩, _⟩ := row4 S5.out.2.1
    obtain ⟨⟨h0, h1, h2, h3⟩, _⟩ := row4 S5.out.2.2
    obtain ⟨⟨d0, d1, d2, d3⟩, _⟩ := row4 G5.out
    obtain ⟨⟨e0, e1, e2, e3⟩, _⟩ := row4 K5.out
    go_upto_region 10 with (go_at_call 17; refine (TP.out _).mono ?_; rintro e u6 ⟨v6, rfl, hY, hb⟩; have S6 := Lib.hid (S5.out.on hb); have Y6 := Lib.hid hY; obtain ⟨a6, d6, rfl, _, _⟩ := hY.open; clear hb S5 G5 K5 hY c0 c1 c2 c3 d0 d1 d2 d3 e0 e1 e2 e3 h0 h1 h2 h3)
    rw [hL] at Y6
    obtain ⟨⟨c0, c1, c2, c3⟩, _⟩ := row4 S6.out.2.1
    go_upto_region 11 with (go_at_call 15; refine (T2.out _ _ Y6.out).mono ?_; rintro e u7 ⟨rfl, hb⟩; have S7 := Lib.hid (S6.out.on hb); clear hb S6 c0 c1 c2 c3)
  · have S8 := Lib.hid (S7.out.alloc (.cells #[.int .u32 0, .int .u32 0, .int .u32 0, .int .u32 0] 43))
    have G8 := Lib.hid (row_new u7 (.cells #[.int .u32 0, .int .u32 0, .int .u32 0, .int .u32 0] 43) rfl)
    clear S7
    generalize u7.alloc (.cells #[.int .u32 0, .int .u32 0, .int .u32 0, .int .u32 0] 43) = u8 at *
    generalize u7.heap.size = q3 at *
    obtain ⟨⟨c0, c1, c2, c3⟩, _⟩ := row4 S8.out.2.1
    obtain ⟨⟨h0, h1, h2, h3⟩, _⟩ := row4 S8.out.2.2
    go_region_held3 (fun W' => (W'.cell? ⟨w.heap.size, 0, none⟩ = some (.bool a) ∧ W'.cell? ⟨w.heap.size, 1, none⟩ = some (.bool b) ∧ W'.cell? ⟨w.heap.size, 2, none⟩ = some (.int .u16 k) ∧ W'.cell? ⟨w.heap.size, 3, none⟩ = some (.int .u32 s)) ∧ W'.cell? ⟨w.heap.size + 1, 1, none⟩ = some (.int .u32 y1))
      (first
        | exact ⟨⟨c0, c1, c2, c3⟩, h1⟩
        | exact ⟨⟨x0, x1, x2, x3⟩, x4⟩
        | go_keep)
      (first
        | (go_at_call 12; refine (TD.out _).mono ?_; rintro e u9 ⟨rfl, hb0⟩; have hb := Below.trans (Below.refl u8.heap.size _).drew (hb0.mono (by simp)); have S9 := Lib.hid (S8.out.on hb); have G9 := Lib.hid (keepRow G8.out hb); obtain ⟨⟨x0, x1, x2, x3⟩, _⟩ := row4 S9.out.2.1; obtain ⟨⟨_, x4, _, _⟩, _⟩ := row4 S9.out.2.2))
    clear S8 G8 c0 c1 c2 c3 h0 h1 h2 h3 x0 x1 x2 x3 x4 hb hb0
    obtain ⟨⟨h0, h1, h2, h3⟩, _⟩ := row4 S9.out.2.2
    obtain ⟨⟨d0, d1, d2, d3⟩, _⟩ := row4 G9.out
    generalize decide (dn ≤ y1) = b1 at *
    subst e1
    go_wp2
    go_ret
    exact ⟨rfl, S9.out.1.2⟩
  · have S8 := Lib.hid (S7.out.alloc (.cells #[.int .u32 y0, .int .u32 y1, .int .u32 y2, .int .u32 y3] 43))
    have G8 := Lib.hid (row_new u7 (.cells #[.int .u32 y0, .int .u32 y1, .int .u32 y2, .int .u32 y3] 43) rfl)
    clear S7
    generalize u7.alloc (.cells #[.int .u32 y0, .int .u32 y1, .int .u32 y2, .int .u32 y3] 43) = u8 at *
    generalize u7.heap.size = q3 at *
    obtain ⟨⟨c0, c1, c2, c3⟩, _⟩ := row4 S8.out.2.1
    obtain ⟨⟨h0, h1, h2, h3⟩, _⟩ := row4 S8.out.2.2
    go_region_held3 (fun W' => (W'.cell? ⟨w.heap.size, 0, none⟩ = some (.bool a) ∧ W'.cell? ⟨w.heap.size, 1, none⟩ = some (.bool b) ∧ W'.cell? ⟨w.heap.size, 2, none⟩ = some (.int .u16 k) ∧ W'.cell? ⟨w.heap.size, 3, none⟩ = some (.int .u32 s)) ∧ W'.cell? ⟨w.heap.size + 1, 1, none⟩ = some (.int .u32 y1))
      (first
        | exact ⟨⟨c0, c1, c2, c3⟩, h1⟩
        | exact ⟨⟨x0, x1, x2, x3⟩, x4⟩
        | go_keep)
      (first
        | (go_at_call 12; refine (TD.out _).mono ?_; rintro e u9 ⟨rfl, hb0⟩; have hb := Below.trans (Below.refl u8.heap.size _).drew (hb0.mono (by simp)); have S9 := Lib.hid (S8.out.on hb); have G9 := Lib.hid (keepRow G8.out hb); obtain ⟨⟨x0, x1, x2, x3⟩, _⟩ := row4 S9.out.2.1; obtain ⟨⟨_, x4, _, _⟩, _⟩ := row4 S9.out.2.2))
    clear S8 G8 c0 c1 c2 c3 h0 h1 h2 h3 x0 x1 x2 x3 x4 hb hb0
    obtain ⟨⟨h0, h1, h2, h3⟩, _⟩ := row4 S9.out.2.2
    obtain ⟨⟨d0, d1, d2, d3⟩, _⟩ := row4 G9.out
    generalize decide (dn ≤ y1) = b1 at *
    subst e1
    go_wp2
    go_ret
    exact ⟨rfl, S9.out.1.2⟩
set_option maxHeartbeats 1000000 in
theorem pcapHeads_any (a b : Bool) (k s : Nat) (v : Value) (l : List UInt8) (most : Int) (y0 y1 y2 y3 : Nat) (hm : -9223372036854775808 ≤ most ∧ most ≤ 9223372036854775807) (hy : y0 < 4294967296 ∧ y1 < 4294967296 ∧ y2 < 4294967296 ∧ y3 < 4294967296)
    (w : World) (hE : EnvP w) (hB : Byt w v l) :
    Calls Tryd.prog 4 #[(.agg #[.bool a, .bool b, .int .u16 k, .int .u32 s]), v, .int .i64 most, (.agg #[.int .u32 y0, .int .u32 y1, .int .u32 y2, .int .u32 y3])] w fun e w' => e = .returned (.bool true) ∧ Below w.heap.size w w' := by
  by_cases hl : l.length ≤ 300
  · exact pcapHeads_small a b k s v l most y0 y1 y2 y3 hm hy.1 hy.2.1 hy.2.2.1 hy.2.2.2 w hE hB hl
  · obtain ⟨ad, c, rfl, hc, _⟩ := hB.open
    have g : decide ((300 : Int) < (l.length : Nat)) = true := by simp; omega
    have S0 := Lib.hid (((show KeepP w w from ⟨hE, Below.refl _ _⟩).alloc (.cells #[.bool a, .bool b, .int .u16 k, .int .u32 s] 26 (0, 0))).alloc (.cells #[.int .u32 y0, .int .u32 y1, .int .u32 y2, .int .u32 y3] 43 (0, 0)))
    clear hl hB hE
    generalize l.length = n at *
    go_enter Tryd.func4, Tryd.ntmps4
    go_wp2_with (go_at_call 7; refine (t_known _ S0.out.1).mono ?_; rintro e w1 ⟨rfl, hb⟩)
    go_ret
    exact ⟨rfl, (S0.out.on hb).2⟩
end Go.Proofs.YthmkfkmcamjnoaaDoor
