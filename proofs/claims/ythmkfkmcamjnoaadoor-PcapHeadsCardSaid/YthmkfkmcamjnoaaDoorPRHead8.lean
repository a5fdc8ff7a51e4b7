/-
  The document's answers of layer 8: Head (horologeref08).
-/
import Derived.Test.YthmkfkmcamjnoaaDoorPHead8
import Derived.Test.YthmkfkmcamjnoaaDoorORef7
namespace Go.Proofs.YthmkfkmcamjnoaaDoor
open Go.RowKit Go.Sort
set_option maxRecDepth 8000
set_option maxHeartbeats 1000000 in
theorem r_den (b : Bool) (w : World) : Calls Tryd.prog 13 #[.bool b] w fun e w' => e = .returned (.int .u64 (den b)) ∧ w = w' := by
  cases b
  all_goals
    go_enter Tryd.func13, Tryd.ntmps13
    go_wp2
    go_ret
    exact ⟨rfl, rfl⟩
/-- The row of four numbers, when k of them are there. -/
def hk (x0 x1 x2 x3 : Nat) : Nat → Array Value
  | 0 => #[.int .u32 0, .int .u32 0, .int .u32 0, .int .u32 0]
  | 1 => #[.int .u32 x0, .int .u32 0, .int .u32 0, .int .u32 0]
  | 2 => #[.int .u32 x0, .int .u32 x1, .int .u32 0, .int .u32 0]
  | 3 => #[.int .u32 x0, .int .u32 x1, .int .u32 x2, .int .u32 0]
  | _ => #[.int .u32 x0, .int .u32 x1, .int .u32 x2, .int .u32 x3]
/-- The blocks of the call: the file, the result, the row. -/
def HSt (w wr : World) (fo ro : Obj) (hs : Array Value) : Prop :=
  Below w.heap.size w wr ∧ wr.heap[w.heap.size]? = some fo ∧ wr.heap[w.heap.size + 1]? = some ro ∧ wr.heap[w.heap.size + 1 + 1]? = some (.cells hs 46 (0, 0))
theorem HSt.put {w wr : World} {fo ro : Obj} {hs : Array Value} (h : HSt w wr fo ro hs) (j : Nat) (u : Value) : HSt w (wr.setCell ⟨w.heap.size + 1 + 1, j, none⟩ u) fo ro (hs.setIfInBounds j u) :=
  ⟨h.1.setCell (by simp; omega) _, (heap_setCell_other _ _ _ _ (by simp; omega)).trans h.2.1, (heap_setCell_other _ _ _ _ (by simp)).trans h.2.2.1, heap_setCell_same _ _ j _ _ _ h.2.2.2⟩
theorem HSt.on {w wr w2 : World} {fo ro : Obj} {hs : Array Value} (h : HSt w wr fo ro hs) (hb : Below wr.heap.size wr w2) : HSt w w2 fo ro hs :=
  ⟨h.1.trans (hb.mono h.1.size), keepRow h.2.1 hb, keepRow h.2.2.1 hb, keepRow h.2.2.2 hb⟩
set_option maxHeartbeats 4000000 in
theorem r_head (a b : Bool) (k s : Nat) (v : Value) (l : List UInt8) (most : Int) (hm : -9223372036854775808 ≤ most ∧ most ≤ 9223372036854775807) (w : World) (hB : Byt w v l) (hz : l.length ≤ 140737488355328) :
    Calls Tryd.prog 16 #[(.agg #[.bool a, .bool b, .int .u16 k, .int .u32 s]), v, .int .i64 most] w fun e w' => e = .returned (headV (headS a b l most)) ∧ Below w.heap.size w w' := by
  obtain ⟨ad, c, rfl, hc, hA⟩ := hB.open
  have HA := Lib.hid hA
  have TD := Lib.hid (fun w => r_den b w)
  have G4 := Lib.hid (fun at_ ha w hB => r_get ad l c a at_ 4 ha (by omega) hz w hB)
  obtain ⟨o0, ho0⟩ : ∃ o, o = Obj.cells #[.bool a, .bool b, .int .u16 k, .int .u32 s] 31 (0, 0) := ⟨_, rfl⟩
  obtain ⟨o1, ho1⟩ : ∃ o, o = Obj.cells #[.int .u32 0, .int .u32 0, .int .u32 0, .int .u32 0] 46 (0, 0) := ⟨_, rfl⟩
  have S0 := Lib.hid (show HSt w (((w.alloc o0).alloc o1).alloc o1) o0 o1 (hk 0 0 0 0 0) from
    ⟨((below_alloc w o0).trans ((below_alloc _ o1).mono (by simp))).trans ((below_alloc _ o1).mono (by simp; omega)), keepRow (keepRow (row_new w o0 rfl) (below_alloc _ o1)) (below_alloc _ o1), keepRow (row_new (w.alloc o0) o1 (by simp)) (below_alloc _ o1), by rw [row_new ((w.alloc o0).alloc o1) o1 (by simp), ho1]; rfl⟩)
  clear hA hB
  have V : (l.length < 16 ∧ headS a b l most = ((0, 0, 0, 0), 121)) ∨ (¬ l.length < 16 ∧ den b ≤ gv l a 4 4 ∧ headS a b l most = ((0, 0, 0, 0), 8)) ∨ (¬ l.length < 16 ∧ ¬ den b ≤ gv l a 4 4 ∧ (most < 0 ∨ most < gv l a 8 4) ∧ headS a b l most = ((0, 0, 0, 0), 122)) ∨
      (¬ l.length < 16 ∧ ¬ den b ≤ gv l a 4 4 ∧ ¬ (most < 0 ∨ most < gv l a 8 4) ∧ headS a b l most = ((gv l a 0 4, gv l a 4 4, gv l a 8 4, gv l a 12 4), 0)) := by
    unfold headS
    by_cases h1 : l.length < 16
    · left; exact ⟨h1, by rw [if_pos h1]⟩
    · right
      by_cases h2 : den b ≤ gv l a 4 4
      · left; exact ⟨h1, h2, by rw [if_neg h1, if_pos h2]⟩
      · right
        by_cases h3 : most < 0 ∨ most < gv l a 8 4
        · left; exact ⟨h1, h2, h3, by rw [if_neg h1, if_neg h2, if_pos h3]⟩
        · right; exact ⟨h1, h2, h3, by rw [if_neg h1, if_neg h2, if_neg h3]⟩
  have U0 := Lib.hid (fun w hB => G4.out 0 (by omega) w hB)
  have U1 := Lib.hid (fun w hB => G4.out 4 (by omega) w hB)
  have U2 := Lib.hid (fun w hB => G4.out 8 (by omega) w hB)
  have U3 := Lib.hid (fun w hB => G4.out 12 (by omega) w hB)
  have bd0 := gv_u32 l a 0
  have bd1 := gv_u32 l a 4
  have bd2 := gv_u32 l a 8
  have bd3 := gv_u32 l a 12
  clear G4
  generalize headS a b l most = out at *
  generalize gv l a 0 4 = x0 at *
  generalize gv l a 4 4 = x1 at *
  generalize gv l a 8 4 = x2 at *
  generalize gv l a 12 4 = x3 at *
  generalize gok l.length 0 4 = k0 at *
  generalize gok l.length 4 4 = k1 at *
  generalize gok l.length 8 4 = k2 at *
  generalize gok l.length 12 4 = k3 at *
  generalize l.length = n at *
  generalize den b = dn at *
  rcases V with ⟨g1, rfl⟩ | V
  · have g1 : decide ((n : Int) < 16) = true := by simp; omega
    unfold headV
    go_enter Tryd.func16, Tryd.ntmps16
    go_upto_region 2 with fail
    rw [← ho0, ← ho1]
    generalize ((w.alloc o0).alloc o1).alloc o1 = u0 at *
    rw [ho1] at S0
    clear ho1
    obtain ⟨⟨c0, c1, c2, c3⟩, f⟩ := row4 S0.out.2.2.1
    obtain ⟨⟨d0, d1, d2, d3⟩, _⟩ := row4 (show u0.heap[w.heap.size + 1 + 1]? = some (.cells #[.int .u32 0, .int .u32 0, .int .u32 0, .int .u32 0] 46 (0, 0)) from S0.out.2.2.2)
    have f0 := f 0
    have f1 := f 1
    have f2 := f 2
    have f3 := f 3
    clear f
    go_wp2
    refine bodyPost_ret (by simp [results, Tryd.results16, go_sem, c0, c1, c2, c3]) rfl ⟨rfl, ?_⟩
    have B2 := S0.out.1
    (repeat (first | (with_reducible exact Below.refl _ _) | (with_reducible assumption) | (with_reducible refine Below.drew ?_) | (with_reducible refine below_drewN ?_ _) | ((with_reducible refine Below.alloc ?_ ?_ _); rotate_left; (focus (first | (simp; done) | (simp; omega) | omega))) | ((with_reducible refine Below.setCell ?_ ?_ _); rotate_left; (focus (first | (simp; done) | (simp; omega) | omega))) | ((with_reducible refine Below.trans ?_ (Below.mono (by assumption) ?_)); rotate_left; (focus (first | (simp; done) | (simp; omega) | omega)))))
  · have g1 : decide ((n : Int) < 16) = false := by simp; omega
    have w0 : IntKind.u32.wrap (x0 : Int) = (x0 : Int) := by rw [IntKind.wrap_u32]; omega
    have w1 : IntKind.u32.wrap (x1 : Int) = (x1 : Int) := by rw [IntKind.wrap_u32]; omega
    have w2 : IntKind.u32.wrap (x2 : Int) = (x2 : Int) := by rw [IntKind.wrap_u32]; omega
    have w3 : IntKind.u32.wrap (x3 : Int) = (x3 : Int) := by rw [IntKind.wrap_u32]; omega
    have v1 : IntKind.u64.wrap (x1 : Int) = (x1 : Int) := wrap_small x1 (by omega)
    have v2 : IntKind.u64.wrap (x2 : Int) = (x2 : Int) := wrap_small x2 (by omega)
    go_enter Tryd.func16, Tryd.ntmps16
    go_upto_region 2 with fail
    rw [← ho0, ← ho1]
    generalize ((w.alloc o0).alloc o1).alloc o1 = u0 at *
    rw [ho1, ho0] at S0
    clear ho1 ho0
    go_wp2
    go_loopw [9, 10, 11] (fun i _ _ wr => ∃ j : Nat, j ≤ 4 ∧ i = .int .i64 j ∧ Hid (HSt w wr (.cells #[.bool a, .bool b, .int .u16 k, .int .u32 s] 31 (0, 0)) (.cells #[.int .u32 0, .int .u32 0, .int .u32 0, .int .u32 0] 46 (0, 0)) (hk x0 x1 x2 x3 j))) (fun i _ _ _ => 4 - (intOf i).toNat)
    case atStart => exact ⟨0, by omega, rfl, S0⟩
    case round =>
      obtain ⟨j, hj, rfl, S1⟩ := hrel
      clear S0
      obtain ⟨⟨c0, c1, c2, c3⟩, _⟩ := row4 S1.out.2.1
      rcases (show j = 0 ∨ j = 1 ∨ j = 2 ∨ j = 3 ∨ j = 4 by omega) with rfl | rfl | rfl | rfl | rfl
      · obtain ⟨⟨d0, d1, d2, d3⟩, f⟩ := row4 (show _ = some (Obj.cells #[.int .u32 0, .int .u32 0, .int .u32 0, .int .u32 0] 46 (0, 0)) from S1.out.2.2.2)
        have f0 := f 0
        clear f
        go_wp2_with (go_at_call 29; refine (U0.out _ (HA.out.on S1.out.1)).mono ?_; rintro e w2 ⟨rfl, rfl⟩)
        go_roundw
        case rel => exact ⟨1, by omega, rfl, Lib.hid (S1.out.put 0 (.int .u32 x0))⟩
        case measure => simp [intOf]
      · obtain ⟨⟨d0, d1, d2, d3⟩, f⟩ := row4 (show _ = some (Obj.cells #[.int .u32 x0, .int .u32 0, .int .u32 0, .int .u32 0] 46 (0, 0)) from S1.out.2.2.2)
        have f1 := f 1
        clear f
        go_wp2_with (go_at_call 29; refine (U1.out _ (HA.out.on S1.out.1)).mono ?_; rintro e w2 ⟨rfl, rfl⟩)
        go_roundw
        case rel => exact ⟨2, by omega, rfl, Lib.hid (S1.out.put 1 (.int .u32 x1))⟩
        case measure => simp [intOf]
      · obtain ⟨⟨d0, d1, d2, d3⟩, f⟩ := row4 (show _ = some (Obj.cells #[.int .u32 x0, .int .u32 x1, .int .u32 0, .int .u32 0] 46 (0, 0)) from S1.out.2.2.2)
        have f2 := f 2
        clear f
        go_wp2_with (go_at_call 29; refine (U2.out _ (HA.out.on S1.out.1)).mono ?_; rintro e w2 ⟨rfl, rfl⟩)
        go_roundw
        case rel => exact ⟨3, by omega, rfl, Lib.hid (S1.out.put 2 (.int .u32 x2))⟩
        case measure => simp [intOf]
      · obtain ⟨⟨d0, d1, d2, d3⟩, f⟩ := row4 (show _ = some (Obj.cells #[.int .u32 x0, .int .u32 x1, .int .u32 x2, .int .u32 0] 46 (0, 0)) from S1.out.2.2.2)
        have f3 := f 3
        clear f
        go_wp2_with (go_at_call 29; refine (U3.out _ (HA.out.on S1.out.1)).mono ?_; rintro e w2 ⟨rfl, rfl⟩)
        go_roundw
        case rel => exact ⟨4, by omega, rfl, Lib.hid (S1.out.put 3 (.int .u32 x3))⟩
        case measure => simp [intOf]
      · obtain ⟨⟨d0, d1, d2, d3⟩, _⟩ := row4 (show _ = some (Obj.cells #[.int .u32 x0, .int .u32 x1, .int .u32 x2, .int .u32 x3] 46 (0, 0)) from S1.out.2.2.2)
        go_wp2
        have V2 : (decide (dn ≤ x1) = true ∧ out = ((0, 0, 0, 0), 8)) ∨ (decide (dn ≤ x1) = false ∧ decide (most < 0) = true ∧ out = ((0, 0, 0, 0), 122)) ∨ (decide (dn ≤ x1) = false ∧ decide (most < 0) = false ∧ IntKind.u64.wrap most = most ∧ decide (most < (x2 : Nat)) = true ∧ out = ((0, 0, 0, 0), 122)) ∨ (decide (dn ≤ x1) = false ∧ decide (most < 0) = false ∧ IntKind.u64.wrap most = most ∧ decide (most < (x2 : Nat)) = false ∧ out = ((x0, x1, x2, x3), 0)) := by
          have wm : 0 ≤ most → IntKind.u64.wrap most = most := fun h => by rw [IntKind.wrap_u64]; omega
          rcases V with ⟨_, h, e⟩ | ⟨_, h, h', e⟩ | ⟨_, h, h', e⟩
          · exact Or.inl ⟨by simp; omega, e⟩
          · by_cases g : most < 0
            · exact Or.inr (Or.inl ⟨by simp; omega, by simp; omega, e⟩)
            · exact Or.inr (Or.inr (Or.inl ⟨by simp; omega, by simp; omega, wm (by omega), by simp; omega, e⟩))
          · exact Or.inr (Or.inr (Or.inr ⟨by simp; omega, by simp; omega, wm (by omega), by simp; omega, e⟩))
        clear V
        go_region_held3 (fun W' => W'.cell? ⟨w.heap.size, 1, none⟩ = some (.bool b) ∧ W'.cell? ⟨w.heap.size + 1 + 1, 1, none⟩ = some (.int .u32 x1))
          (first
            | exact ⟨c1, d1⟩
            | go_keep)
          (first
            | (go_at_call 13; refine (TD.out _).mono ?_; rintro e u4 ⟨rfl, rfl⟩))
        have S2 := Lib.hid (S1.out.on (Below.refl wr.heap.size wr).drew)
        clear S1 c0 c1 c2 c3 d0 d1 d2 d3
        generalize wr.drew = w2 at *
        obtain ⟨⟨c0, c1, c2, c3⟩, f⟩ := row4 S2.out.2.2.1
        have f0 := f 0
        have f1 := f 1
        have f2 := f 2
        have f3 := f 3
        clear f
        obtain ⟨⟨d0, d1, d2, d3⟩, _⟩ := row4 (show _ = some (Obj.cells #[.int .u32 x0, .int .u32 x1, .int .u32 x2, .int .u32 x3] 46 (0, 0)) from S2.out.2.2.2)
        generalize decide (dn ≤ x1) = b1 at *
        rcases V2 with ⟨rfl, rfl⟩ | ⟨rfl, e2, rfl⟩ | ⟨rfl, e2, e3, e4, rfl⟩ | ⟨rfl, e2, e3, e4, rfl⟩
        all_goals
          go_wp2
          refine bodyPost_ret (by simp [results, Tryd.results16, go_sem, headV, c0, c1, c2, c3]) rfl ⟨rfl, ?_⟩
          have B5 := S2.out.1
          (repeat (first | (with_reducible exact Below.refl _ _) | (with_reducible assumption) | (with_reducible refine Below.drew ?_) | (with_reducible refine below_drewN ?_ _) | ((with_reducible refine Below.alloc ?_ ?_ _); rotate_left; (focus (first | (simp; done) | (simp; omega) | omega))) | ((with_reducible refine Below.setCell ?_ ?_ _); rotate_left; (focus (first | (simp; done) | (simp; omega) | omega))) | ((with_reducible refine Below.trans ?_ (Below.mono (by assumption) ?_)); rotate_left; (focus (first | (simp; done) | (simp; omega) | omega)))))
end Go.Proofs.YthmkfkmcamjnoaaDoor
