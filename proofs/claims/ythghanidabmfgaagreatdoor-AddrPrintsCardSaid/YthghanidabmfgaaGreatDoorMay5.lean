/-
  May, Less; an IPv6 address's groups.
-/
import Derived.Test.YthghanidabmfgaaGreatDoorStd5
import Derived.Lib.BytesEntry
import Derived.Lib.Bytealg
namespace Go.Proofs.YthghanidabmfgaaGreatDoor
open Go.RowKit Go.Sort
set_option maxRecDepth 8000
section
variable {ops : Array Oper} {rest : List Oper} {o : Oper} {a : Act} {w : World} {Q : Exit → Act → World → Prop}
/-- A load whose run is known. -/
theorem wl_load (hw : Region.wanted o (yielded ops a.tmps) = true) (ty : TypeId) (x : Operand) (ho : o.op = .load ty x) (p : Addr) (hx : a.eval x = .pointer (some p)) (V : Value) (hV : (Instr.loadAt ty (.pointer (some p))).run Tryz.prog w = .ok V w)
    (h : wpList Tryz.prog ops Q rest (a.put o.dst V) w) : wpList Tryz.prog ops Q (o :: rest) a w :=
  BigFrame.wpList_want hw fun _ hK => by
    unfold Oper.wp execOp
    simp only [ho, hx, Sem.run_bind, hV, Result.andThen_ok, Sem.run_pure]
    exact hK _ _ h
/-- A store whose run is known. -/
theorem wl_store (hw : Region.wanted o (yielded ops a.tmps) = true) (ty : TypeId) (x y : Operand) (ho : o.op = .store ty x y) (p : Addr) (hx : a.eval x = .pointer (some p)) (V : Value) (hy : a.eval y = V) (w' : World) (hV : (Instr.storeAt ty (.pointer (some p)) V).run Tryz.prog w = .ok () w')
    (h : wpList Tryz.prog ops Q rest (a.put o.dst undef) w') : wpList Tryz.prog ops Q (o :: rest) a w :=
  BigFrame.wpList_want hw fun _ hK => by
    unfold Oper.wp execOp
    simp only [ho, hx, hy, Sem.run_bind, hV, Result.andThen_ok, Sem.run_pure]
    exact hK _ _ h
end
/-! ### Rows of noughts, as the walk writes them -/
def n12 : List Int := List.replicate 12 0
def n16 : List Int := List.replicate 16 0
def n8 : List Int := List.replicate 8 0
def n4 : List Int := List.replicate 4 0
theorem z12 : u8C n12 = #[.int .u8 0, .int .u8 0, .int .u8 0, .int .u8 0, .int .u8 0, .int .u8 0, .int .u8 0, .int .u8 0, .int .u8 0, .int .u8 0, .int .u8 0, .int .u8 0] := rfl
theorem z4 : u8C n4 = #[.int .u8 0, .int .u8 0, .int .u8 0, .int .u8 0] := rfl
theorem z8 : u16C n8 = #[.int .u16 0, .int .u16 0, .int .u16 0, .int .u16 0, .int .u16 0, .int .u16 0, .int .u16 0, .int .u16 0] := rfl
theorem zA : adC false n16 = #[.bool false, .int .u8 0, .int .u8 0, .int .u8 0, .int .u8 0, .int .u8 0, .int .u8 0, .int .u8 0, .int .u8 0, .int .u8 0, .int .u8 0, .int .u8 0, .int .u8 0, .int .u8 0, .int .u8 0, .int .u8 0, .int .u8 0] := rfl
theorem zE : enC false n16 0 = #[.bool false, .int .u8 0, .int .u8 0, .int .u8 0, .int .u8 0, .int .u8 0, .int .u8 0, .int .u8 0, .int .u8 0, .int .u8 0, .int .u8 0, .int .u8 0, .int .u8 0, .int .u8 0, .int .u8 0, .int .u8 0, .int .u8 0, .int .u16 0] := rfl
theorem q12 (b : List Int) (hb : b.length = 12) (W : World) : (Op.equalIn 10000 61 (.agg (u8C b)) (.agg #[.int .u8 0, .int .u8 0, .int .u8 0, .int .u8 0, .int .u8 0, .int .u8 0, .int .u8 0, .int .u8 0, .int .u8 0, .int .u8 0, .int .u8 0, .int .u8 0])).run Tryz.prog W = .ok (decide (b = n12)) W := by
  rw [← z12]
  exact eq_rows .u8 5 9998 Tryz.underlying5 b n12 W 61 12 Tryz.underlying61 (by kernel_rfl) hb rfl
theorem qA (v v' : Bool) (b b' : List Int) (hb : b.length = 16) (hb' : b'.length = 16) (W : World) : (Op.equalIn 10000 24 (.agg (adC v b)) (.agg (adC v' b'))).run Tryz.prog W = .ok (decide (v = v' ∧ b = b')) W := in_addr 9996 v v' b b' hb hb' W
theorem qA0 (v : Bool) (b : List Int) (hb : b.length = 16) (W : World) : (Op.equalIn 10000 24 (.agg (adC v b)) (.agg #[.bool false, .int .u8 0, .int .u8 0, .int .u8 0, .int .u8 0, .int .u8 0, .int .u8 0, .int .u8 0, .int .u8 0, .int .u8 0, .int .u8 0, .int .u8 0, .int .u8 0, .int .u8 0, .int .u8 0, .int .u8 0, .int .u8 0])).run Tryz.prog W = .ok (decide (v = false ∧ b = n16)) W := by
  rw [← zA]; exact qA v false b n16 hb rfl W
theorem qE (v v' : Bool) (b b' : List Int) (p p' : Int) (hb : b.length = 16) (hb' : b'.length = 16) (W : World) : (Op.equalIn 10000 32 (.agg (enC v b p)) (.agg (enC v' b' p'))).run Tryz.prog W = .ok (decide ((v = v' ∧ b = b') ∧ p = p')) W := in_ends 9995 v v' b b' p p' hb hb' W
def mayB (v : Bool) (b : List Int) : Bool := v || decide (b.drop 4 = n12)
theorem arr_12 (g : Nat) (W : World) : (Instr.arrayAt 61 (.slice (some ⟨g, 5, none⟩) 12 12)).run Tryz.prog W = .ok (.pointer (some ⟨g, 5, none⟩)) W := by
  simp [Instr.arrayAt, run_underlying Tryz.underlying61]
theorem arr_4 (g : Nat) (W : World) : (Instr.arrayAt 57 (.slice (some ⟨g, 1, none⟩) 4 16)).run Tryz.prog W = .ok (.pointer (some ⟨g, 1, none⟩)) W := by
  simp [Instr.arrayAt, run_underlying Tryz.underlying57]
theorem t_may (v : Bool) (b : List Int) (hl : b.length = 16) (w : World) : Calls Tryz.prog 11 #[.agg (adC v b)] w fun e w' => e = .returned (.bool (mayB v b)) ∧ Below w.heap.size w w' := by
  have B0 : Hid (Blk (w.alloc (.cells (adC v b) 24)) w.heap.size 24 (adC v b)) := Lib.hid (Blk.new _ _ _ rfl)
  have S0 := Lib.hid (below_alloc w (.cells (adC v b) 24))
  have c0 := B0.out.cell (ad_head v b)
  have l0 := ld_part 4 Tryz.underlying61 rfl inf12 (by simp [hl]) B0.out
  rw [List.take_of_length_le (by simp [hl])] at l0
  have e0 := q12 (b.drop 4) (by simp [hl])
  have M := Lib.hid (show mayB false b = decide (b.drop 4 = n12) from Bool.false_or _)
  have a0 := arr_12 w.heap.size
  rw [show 1 + 4 = 5 from rfl] at l0
  generalize b.drop 4 = x at l0 e0 M
  generalize decide (x = n12) = r at *
  go_enter Tryz.func11, Tryz.ntmps11
  go_upto_region 1 with fail
  generalize w.alloc (.cells (adC v b) 24) = w1 at *
  cases v
  · go_wp2_with (refine wl_load rfl _ _ rfl _ rfl _ l0 ?_)
    rw [M.out]
    cases r
    all_goals
      go_ret
      exact ⟨rfl, S0.out⟩
  · go_wp2
    go_ret
    exact ⟨rfl, S0.out⟩
/-! ### Less -/
def lessB (v : Bool) (b : List Int) (v' : Bool) (b' : List Int) : Bool := if v = v' then decide (Lib.compareBytes (Lib.bytesOf b) (Lib.bytesOf b') < 0) else v'
theorem compare_any (xs ys : List Int) (n m : Nat) (hn : xs.length = n) (hm : ys.length = m) (p q : Addr) (w : World) (hx : ∀ j x, xs[j]? = some x → w.cell? (p.add j) = some (.int .u8 x)) (hy : ∀ j x, ys[j]? = some x → w.cell? (q.add j) = some (.int .u8 x)) :
    Calls Tryz.prog 24 #[.slice (some p) n n, .slice (some q) m m] w fun e w' => e = .returned (.int .i64 (Lib.compareBytes (Lib.bytesOf xs) (Lib.bytesOf ys))) ∧ w' = w := by
  have X := Lib.run_loadBytesX (P := Tryz.prog) w xs p .empty hx
  have Y := Lib.run_loadBytesX (P := Tryz.prog) w ys q .empty hy
  rw [hn] at X
  rw [hm] at Y
  have C : (Extern.BytealgCompare.compare #[.slice (some p) n n, .slice (some q) m m]).run Tryz.prog w = .ok (.int .i64 (Lib.compareBytes (Lib.bytesOf xs) (Lib.bytesOf ys))) w := by
    change Sem.run Tryz.prog (do pure (goInt (Extern.BytealgCompare.cmp (← Extern.Bytes.bytesOf (.slice (some p) n n)) (← Extern.Bytes.bytesOf (.slice (some q) m m))))) w = _
    simp only [Extern.Bytes.bytesOf, Sem.run_bind, X, Y, Sem.run_pure, Result.andThen]
    rw [Lib.cmp_eq]
    simp [goInt, ByteArray.empty, ByteArray.emptyWithCapacity]
    rfl
  generalize Lib.compareBytes (Lib.bytesOf xs) (Lib.bytesOf ys) = r at *
  clear X Y hx hy
  go_enter Tryz.func24, Tryz.ntmps24
  go_wp2
  rw [run_callFunc_extern Tryz.func48 (by kernel_rfl) (by kernel_rfl) (by kernel_rfl) (e := Extern.BytealgCompare.compare) (by kernel_rfl), C]
  simp only [Result.andThen]
  rw [Oper.upon_value]
  go_wp2
  go_ret
  exact ⟨rfl, rfl⟩
set_option maxHeartbeats 1000000 in
theorem t_less (v v' : Bool) (b b' : List Int) (hl : b.length = 16) (hl' : b'.length = 16) (w : World) : Calls Tryz.prog 10 #[.agg (adC v b), .agg (adC v' b')] w fun e w' => e = .returned (.bool (lessB v b v' b')) ∧ Below w.heap.size w w' := by
  have B0 : Hid (Blk ((w.alloc (.cells (adC v b) 24)).alloc (.cells (adC v' b') 24)) w.heap.size 24 (adC v b)) := Lib.hid ((Blk.new _ _ _ rfl).alloc _)
  have B1 : Hid (Blk ((w.alloc (.cells (adC v b) 24)).alloc (.cells (adC v' b') 24)) (w.heap.size + 1) 24 (adC v' b')) := Lib.hid (Blk.new _ _ _ (by simp))
  have S0 : Hid (Below w.heap.size w ((w.alloc (.cells (adC v b) 24)).alloc (.cells (adC v' b') 24))) := Lib.hid (by (repeat (first | (with_reducible exact Below.refl _ _) | (with_reducible assumption) | (with_reducible refine Below.drew ?_) | (with_reducible refine below_drewN ?_ _) | ((with_reducible refine Below.alloc ?_ ?_ _); rotate_left; (focus (first | (simp; done) | (simp; omega) | omega))) | ((with_reducible refine Below.setCell ?_ ?_ _); rotate_left; (focus (first | (simp; done) | (simp; omega) | omega))) | ((with_reducible refine Below.trans ?_ (Below.mono (by assumption) ?_)); rotate_left; (focus (first | (simp; done) | (simp; omega) | omega))))))
  go_enter Tryz.func10, Tryz.ntmps10
  go_upto_region 1 with fail
  generalize (w.alloc (.cells (adC v b) 24)).alloc (.cells (adC v' b') 24) = w1 at *
  have c0 := B0.out.cell (ad_head v b)
  have c1 := B1.out.cell (ad_head v' b')
  by_cases hv : v = v'
  · subst hv
    have L := Lib.hid (show lessB v b v b' = decide (Lib.compareBytes (Lib.bytesOf b) (Lib.bytesOf b') < 0) from if_pos rfl)
    have CQ := Lib.hid (fun d os => Calls.regrown_of (os := os) (d := d) ((compare_any b b' 16 16 hl hl' ⟨w.heap.size, 1, none⟩ ⟨w.heap.size + 1, 1, none⟩ (grow (redrawn w1 d) os) (fun j x hj => by
        rw [Lib.add_plain]; exact (B0.out.on (below_quiet d os)).cell (by rw [Nat.add_comm]; exact ad_get hj)) (fun j x hj => by
        rw [Lib.add_plain]; exact (B1.out.on (below_quiet d os)).cell (by rw [Nat.add_comm]; exact ad_get hj))).mono fun e w' ⟨he, hw⟩ => ⟨he, by subst hw; exact Below.refl _ _⟩))
    generalize Lib.compareBytes (Lib.bytesOf b) (Lib.bytesOf b') = r at *
    go_upto_region 3 with fail
    refine wp_region_quiet_below (by kernel_rfl) (by kernel_rfl) ?_
    repeat (go_big_quiet_step (with_reducible exact (CQ.out _ _)))
    (refine wpQuiet_nil ?_; intro _ hw'; obtain ⟨⟨dq, osq⟩, hw''⟩ := hw'; subst hw'')
    go_wp2
    rw [L.out]
    go_ret
    exact ⟨rfl, S0.out.trans ((below_quiet dq osq).mono S0.out.size)⟩
  · have L := Lib.hid (show lessB v b v' b' = v' from if_neg hv)
    cases v <;> cases v'
    · exact absurd rfl hv
    · go_wp2; rw [L.out]; go_ret; exact ⟨rfl, S0.out⟩
    · go_wp2; rw [L.out]; go_ret; exact ⟨rfl, S0.out⟩
    · exact absurd rfl hv
end Go.Proofs.YthghanidabmfgaaGreatDoor
