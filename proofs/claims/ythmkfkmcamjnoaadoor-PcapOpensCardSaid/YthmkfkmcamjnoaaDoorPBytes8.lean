/-
  Package pcap: Bytes.
-/
import Derived.Test.YthmkfkmcamjnoaaDoorPOpen8
import Derived.Test.YthmkfkmcamjnoaaDoorOctD
namespace Go.Proofs.YthmkfkmcamjnoaaDoor
open Go.RowKit Go.Sort
set_option maxRecDepth 8000
def BytOut (w : World) (l : List UInt8) (e : Ending) (w' : World) : Prop := ∃ v, e = .returned v ∧ Byt w' v l ∧ Below w.heap.size w w'
theorem Byt.slice {w : World} {v : Value} {l : List UInt8} (h : Byt w v l) : ∃ a n c, v = .slice a n c := let ⟨a, c, e, _⟩ := h; ⟨a, _, c, e⟩
/-- A row of bytes is put to. -/
theorem put_next (b : Bool) (v : Value) (l l' : List UInt8) (n many : Nat) (h8 : many ≤ 8) (hn : n < 18446744073709551616) (hz : l.length ≤ 1000000) (hl : l' = l ++ ord b (lowB n many)) (zn zm : Int) (en : zn = n) (em : zm = many) (w : World) (hB : Byt w v l) :
    Calls Tryd.prog 30 #[.agg #[v, .bool b], .int .u64 zn, .int .i64 zm] w (PutOut w b l') := by subst hl en em; exact t_put_byt v l b n many h8 hn hz w hB
theorem byt_nil (w : World) : Byt w (.slice none 0 0) [] := ⟨none, 0, rfl, Nat.le_refl _, Or.inl rfl⟩
theorem run_field_B (a : Option Addr) (n c : Nat) (b : Bool) (w : World) : (Instr.field 64 (.agg #[.slice a n c, .bool b]) 0).run Tryd.prog w = .ok (.slice a n c) w := by kernel_rfl
set_option maxHeartbeats 4000000 in
theorem t_bytes (a b : Bool) (k s : Nat) (hk : k < 65536) (hs : s < 4294967296) (w : World) :
    Calls Tryd.prog 10 #[(.agg #[.bool a, .bool b, .int .u16 k, .int .u32 s])] w (BytOut w (bytesS a b k s)) := by
  have S0 := Lib.hid (KSt.new w (.cells #[.bool a, .bool b, .int .u16 k, .int .u32 s] 26 (0, 0)))
  have RW := Lib.hid (fun w => t_row a b k s none 0 0 w)
  obtain ⟨M, hM⟩ : ∃ M, M = magN b := ⟨_, rfl⟩
  have hM9 : M < 18446744073709551616 := by subst hM; cases b <;> simp [magN]
  obtain ⟨l1, e1⟩ : ∃ l1, l1 = [] ++ ord a (lowB M 4) := ⟨_, rfl⟩
  obtain ⟨l2, e2⟩ : ∃ l2, l2 = l1 ++ ord a (lowB 2 2) := ⟨_, rfl⟩
  obtain ⟨l3, e3⟩ : ∃ l3, l3 = l2 ++ ord a (lowB 4 2) := ⟨_, rfl⟩
  obtain ⟨l4, e4⟩ : ∃ l4, l4 = l3 ++ ord a (lowB 0 4) := ⟨_, rfl⟩
  obtain ⟨l5, e5⟩ : ∃ l5, l5 = l4 ++ ord a (lowB 0 4) := ⟨_, rfl⟩
  obtain ⟨l6, e6⟩ : ∃ l6, l6 = l5 ++ ord a (lowB s 4) := ⟨_, rfl⟩
  obtain ⟨l7, e7⟩ : ∃ l7, l7 = l6 ++ ord a (lowB k 4) := ⟨_, rfl⟩
  have E : l7 = bytesS a b k s := by
    subst e7 e6 e5 e4 e3 e2 e1 hM
    unfold bytesS magicL
    have z : ord a (lowB 0 4) ++ ord a (lowB 0 4) = List.replicate 8 0 := by cases a <;> decide
    simp only [List.nil_append, List.append_assoc]
    rw [← z]
    simp only [List.append_assoc]
  have L : l1.length = 4 ∧ l2.length = 6 ∧ l3.length = 8 ∧ l4.length = 12 ∧ l5.length = 16 ∧ l6.length = 20 := by
    subst e6 e5 e4 e3 e2 e1; simp [ord_length, low_length]
  obtain ⟨L1, L2, L3, L4, L5, L6⟩ := L
  rw [← E]
  have P1 := Lib.hid (fun v w hB => put_next a v [] l1 M 4 (by omega) hM9 (by simp) e1 M 4 rfl rfl w hB)
  have P2 := Lib.hid (fun v w hB => put_next a v l1 l2 2 2 (by omega) (by omega) (by omega) e2 2 2 rfl rfl w hB)
  have P3 := Lib.hid (fun v w hB => put_next a v l2 l3 4 2 (by omega) (by omega) (by omega) e3 4 2 rfl rfl w hB)
  have P4 := Lib.hid (fun v w hB => put_next a v l3 l4 0 4 (by omega) (by omega) (by omega) e4 0 4 rfl rfl w hB)
  have P5 := Lib.hid (fun v w hB => put_next a v l4 l5 0 4 (by omega) (by omega) (by omega) e5 0 4 rfl rfl w hB)
  have P6 := Lib.hid (fun v w hB => put_next a v l5 l6 s 4 (by omega) (by omega) (by omega) e6 s 4 rfl rfl w hB)
  have P7 := Lib.hid (fun v w hB => put_next a v l6 l7 k 4 (by omega) (by omega) (by omega) e7 k 4 rfl rfl w hB)
  have cs : IntKind.u64.wrap (s : Int) = (s : Int) := wrap_small s (by omega)
  have ck : IntKind.u64.wrap (k : Int) = (k : Int) := wrap_small k (by omega)
  have HM := Lib.hid hM
  clear E e1 e2 e3 e4 e5 e6 e7 L1 L2 L3 L4 L5 L6 hM
  cases b
  all_goals
    have hM : M = _ := HM.out
    unfold magN at hM
    simp only [Bool.false_eq_true, if_false, if_true] at hM
    subst hM
    clear HM
    go_enter Tryd.func10, Tryd.ntmps10
    go_upto_region 1 with fail
    generalize hw0 : w.alloc (.cells _ 26 (0, 0)) = w0 at *
    clear hw0
    obtain ⟨⟨c0, c1, c2, c3⟩, _⟩ := row4 S0.out.1
    go_upto_region 4 with fail
    go_wp2_with fail
    refine (RW.out _).mono ?_
    rintro e w1 ⟨rfl, hb⟩
    have S1 := Lib.hid (S0.out.on hb)
    clear hb S0 c0 c1 c2 c3
    go_wp2_with fail
    refine (P1.out _ _ (byt_nil _)).mono ?_
    rintro e w2 ⟨v2, rfl, hY, hb⟩
    have S2 := Lib.hid (S1.out.on hb)
    have Y2 := Lib.hid hY
    obtain ⟨a2, n2, d2, rfl⟩ := hY.slice
    clear hb S1 hY
    go_wp2_with fail
    refine (P2.out _ _ Y2.out).mono ?_
    rintro e w3 ⟨v3, rfl, hY, hb⟩
    have S3 := Lib.hid (S2.out.on hb)
    have Y3 := Lib.hid hY
    obtain ⟨a3, n3, d3, rfl⟩ := hY.slice
    clear hb S2 hY Y2
    go_wp2_with fail
    refine (P3.out _ _ Y3.out).mono ?_
    rintro e w4 ⟨v4, rfl, hY, hb⟩
    have S4 := Lib.hid (S3.out.on hb)
    have Y4 := Lib.hid hY
    obtain ⟨a4, n4, d4, rfl⟩ := hY.slice
    clear hb S3 hY Y3
    go_upto_region 5 with fail
    have QP := Lib.hid (Array.getElem?_eq_some_iff.1 S4.out.1).1
    have S5 := Lib.hid (S4.out.on (below_alloc w4 (.cells #[.slice a4 n4 d4, .bool a] 64)))
    have Y5 := Lib.hid (Y4.out.on (below_alloc w4 (.cells #[.slice a4 n4 d4, .bool a] 64)))
    have G5 := Lib.hid (row_new w4 (.cells #[.slice a4 n4 d4, .bool a] 64) rfl)
    clear S4 Y4
    generalize w4.alloc (.cells #[.slice a4 n4 d4, .bool a] 64) = w5 at *
    generalize w4.heap.size = q at *
    have c0 := cell_of_row _ q 0 _ _ _ G5.out
    have c1 := cell_of_row _ q 1 _ _ _ G5.out
    go_wp2_with fail
    refine (P4.out _ _ Y5.out).mono ?_
    rintro e w6 ⟨v6, rfl, hY, hb⟩
    have S6 := Lib.hid (S5.out.on hb)
    have G6 := Lib.hid (keepRow G5.out hb)
    have Y6 := Lib.hid hY
    obtain ⟨a6, n6, d6, rfl⟩ := hY.slice
    clear hb S5 hY Y5 G5 c0 c1
    go_wp2_with fail
    refine (P5.out _ _ Y6.out).mono ?_
    rintro e w7 ⟨v7, rfl, hY, hb⟩
    have S7 := Lib.hid (S6.out.on hb)
    have G7 := Lib.hid (keepRow G6.out hb)
    have Y7 := Lib.hid hY
    obtain ⟨a7, n7, d7, rfl⟩ := hY.slice
    clear hb S6 hY Y6 G6
    have c0 := cell_of_row _ q 0 _ _ _ G7.out
    have c1 := cell_of_row _ q 1 _ _ _ G7.out
    have f0 := frozen_of_row _ q 0 _ _ G7.out
    have f1 := frozen_of_row _ q 1 _ _ G7.out
    go_upto_region 6 with fail
    have S8 := Lib.hid ((S7.out.far (q := q) QP.out 0 (.slice a7 n7 d7)).far (q := q) QP.out 1 (.bool a))
    have G8 := Lib.hid (two_row G7.out (.slice a7 n7 d7) (.bool a))
    have Y8 := Lib.hid (Y7.out.stored G7.out (.slice a7 n7 d7) (.bool a))
    clear S7 G7 Y7 c0 c1 f0 f1
    generalize (w7.setCell ⟨q, 0, none⟩ (.slice a7 n7 d7)).setCell ⟨q, 1, none⟩ (.bool a) = w8 at *
    obtain ⟨⟨x0, x1, x2, x3⟩, _⟩ := row4 S8.out.1
    have c0 := cell_of_row _ q 0 _ _ _ G8.out
    have c1 := cell_of_row _ q 1 _ _ _ G8.out
    have FLD := run_field_B
    go_region_held3 (fun W' => (W'.cell? ⟨w.heap.size, 2, none⟩ = some (.int .u16 k) ∧ W'.cell? ⟨w.heap.size, 3, none⟩ = some (.int .u32 s)) ∧ W'.cell? ⟨q, 0, none⟩ = some (.slice a7 n7 d7) ∧ W'.cell? ⟨q, 1, none⟩ = some (.bool a))
      (first
        | exact ⟨⟨x2, x3⟩, c0, c1⟩
        | exact ⟨⟨y2, y3⟩, e0, e1⟩
        | exact ⟨⟨z2, z3⟩, g0, g1⟩
        | go_keep)
      (first
        | (go_at_call 30; refine (P7.out _ _ Y9.out).mono ?_; rintro e w10 ⟨v10, rfl, hY, hb⟩; have Y10 := Lib.hid hY; have S10 := Lib.hid (S9.out.on hb); have G10 := Lib.hid (keepRow G9.out hb); obtain ⟨a10, n10, d10, rfl⟩ := hY.slice; obtain ⟨⟨z0, z1, z2, z3⟩, _⟩ := row4 S10.out.1; have g0 := cell_of_row _ q 0 _ _ _ G10.out; have g1 := cell_of_row _ q 1 _ _ _ G10.out)
        | (go_at_call 30; refine (P6.out _ _ (Y8.out.on (Below.refl _ _).drew)).mono ?_; rintro e w9 ⟨v9, rfl, hY, hb⟩; have Y9 := Lib.hid hY; have S9 := Lib.hid (S8.out.on (Below.trans (Below.refl _ _).drew (hb.mono (by simp)))); have G9 := Lib.hid (keepRow G8.out (Below.trans (Below.refl _ _).drew (hb.mono (by simp)))); obtain ⟨a9, n9, d9, rfl⟩ := hY.slice; obtain ⟨⟨y0, y1, y2, y3⟩, _⟩ := row4 S9.out.1; have e0 := cell_of_row _ q 0 _ _ _ G9.out; have e1 := cell_of_row _ q 1 _ _ _ G9.out))
    go_wp2
    go_ret
    exact ⟨_, rfl, Y10.out, S10.out.2⟩
end Go.Proofs.YthmkfkmcamjnoaaDoor
