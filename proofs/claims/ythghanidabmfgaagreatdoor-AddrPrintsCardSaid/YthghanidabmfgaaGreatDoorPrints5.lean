/-
  The law AddrPrints.
-/
import Derived.Test.YthghanidabmfgaaGreatDoorRPrint5
import Derived.Test.YthghanidabmfgaaGreatDoorKnown5
namespace Go.Proofs.YthghanidabmfgaaGreatDoor
open Go.RowKit Go.Sort
set_option maxRecDepth 100000
theorem less_cmp : ∀ x y : List UInt8, Op.bytesLess x y = decide (Lib.compareBytes x y < 0)
  | [], [] => by simp [Op.bytesLess, Lib.compareBytes]
  | [], _ :: _ => by simp [Op.bytesLess, Lib.compareBytes]
  | _ :: _, [] => by simp [Op.bytesLess, Lib.compareBytes]
  | a :: x, b :: y => by
    rw [Op.bytesLess, less_cmp x y, Lib.compareBytes]
    by_cases h : a < b
    · simp [h]
    · by_cases h2 : b < a
      · have : ¬ a = b := fun e => by subst e; exact h h2
        simp [h, h2, this]
      · have : a = b := UInt8.le_antisymm (UInt8.not_lt.1 h2) (UInt8.not_lt.1 h)
        simp [this]
theorem q_convert {ops : Array Oper} {C : World → Prop} {Q : Act → Prop} {a : Act} {o : Oper} {rest : List Oper} (hw : Region.wanted o (yielded ops a.tmps) = true) (s d : TypeId) (x : Operand) (ho : o.op = .convert s d x)
    (v : Value) (hx : a.eval x = v) (V : Value) (hS : ∀ w, C w → (convert s d v).run Tryz.prog w = .ok V w) (h : wpQuiet Tryz.prog ops C Q rest (a.put o.dst V)) : wpQuiet Tryz.prog ops C Q (o :: rest) a :=
  BigFrame.wpQuiet_want hw fun K hK => ⟨V, fun w hw => by
    have e : (execOp a.eval o).run Tryz.prog w = .ok (.value V) w := by
      unfold execOp
      simp only [ho, hx, Sem.run_bind, hS w hw, Result.andThen_ok, Sem.run_pure]
    unfold Oper.quietAt
    rw [e]
    exact ⟨rfl, rfl⟩, hK _ h⟩
theorem q_move {ops : Array Oper} {C : World → Prop} {Q : Act → Prop} {a : Act} {o : Oper} {rest : List Oper} (hw : Region.wanted o (yielded ops a.tmps) = true) (x : Operand) (ho : o.op = .move x)
    (v : Value) (hx : a.eval x = v) (h : wpQuiet Tryz.prog ops C Q rest (a.put o.dst v)) : wpQuiet Tryz.prog ops C Q (o :: rest) a :=
  BigFrame.wpQuiet_want hw fun K hK => BigFrame.quiet_move x ho (by rw [hx]; exact hK _ h)
theorem Blk.q_conv {w : World} {g : Nat} {t : TypeId} {v : Bool} {b : List Int} (h : Blk w g t (adC v b)) (hb : IsA b) : ∀ w', (∃ p : Regrown, w' = grow (redrawn w p.d) p.os) → (convert 33 9 (.slice (some ⟨g, 1, none⟩) 16 16)).run Tryz.prog w' = .ok (.string (str (Lib.bytesOf b))) w' := by
  rintro w' ⟨p, rfl⟩
  have hl : (Lib.bytesOf b).length = 16 := by simp [Lib.bytesOf, hb.1]
  have := run_convert_bytes_back (P := Tryz.prog) (grow (redrawn w p.d) p.os) 33 9 5 ⟨g, 1, none⟩ 16 (Lib.bytesOf b) Tryz.underlying33 Tryz.underlying5 Tryz.underlying9 (fun j hj => by
    rw [Lib.add_plain]
    refine (h.on (below_regrown w p.d p.os)).cell ?_
    have hj' : j < b.length := by rw [hb.1]; omega
    have e : b[j]? = some b[j] := List.getElem?_eq_getElem hj'
    rw [Nat.add_comm, ad_get e]
    have y := hb.2 _ (List.getElem_mem hj')
    unfold Byte at y
    simp [Lib.bytesOf]
    omega)
  rw [hl] at this
  exact this
/-- The law's two addresses in their variables. -/
def Ab (w wr : World) (va : Bool) (ba : List Int) (vb : Bool) (bb : List Int) : Prop := Blk wr w.heap.size 24 (adC va ba) ∧ Blk wr (w.heap.size + 1) 24 (adC vb bb) ∧ Below w.heap.size w wr
theorem Ab.on {w w1 w2 : World} {va vb : Bool} {ba bb : List Int} (h : Ab w w1 va ba vb bb) (hb : Below w1.heap.size w1 w2) : Ab w w2 va ba vb bb := ⟨h.1.on hb, h.2.1.on hb, h.2.2.trans (hb.mono h.2.2.size)⟩
theorem Blk.q_addr2 {w : World} {g : Nat} {t : TypeId} {v : Bool} {b : List Int} (h : Blk w g t (adC v b)) (hl : b.length = 16) : ∀ w', (∃ p : Regrown, w' = grow (redrawn w p.d) p.os) → (Instr.loadAt 24 (.pointer (some ⟨g, 0, none⟩))).run Tryz.prog w' = .ok (.agg (adC v b)) w' := by
  rintro w' ⟨p, rfl⟩
  exact ld_addr hl (h.on (below_regrown w p.d p.os))
theorem Blk.q_head {w : World} {g : Nat} {t : TypeId} {v : Bool} {b : List Int} (h : Blk w g t (adC v b)) : ∀ w', (∃ p : Regrown, w' = grow (redrawn w p.d) p.os) → (Instr.loadAt 4 (.pointer (some ⟨g, 0, none⟩))).run Tryz.prog w' = .ok (.bool v) w' := by
  rintro w' ⟨p, rfl⟩
  have c := (h.on (below_regrown w p.d p.os)).cell (ad_head v b)
  generalize grow (redrawn w p.d) p.os = w1 at *
  clear h
  simp [Instr.loadAt, go_sem, c]
theorem bytes_less (a b : List UInt8) : Op.bytesLess (str a).toList (str b).toList = decide (Lib.compareBytes a b < 0) := by
  rw [ByteArray.toList_eq, ByteArray.toList_eq, str_list, str_list, less_cmp]
set_option maxHeartbeats 4000000 in
theorem addrPrints_any (va : Bool) (ba : List Int) (vb : Bool) (bb : List Int) (p : Int) (ha : IsA ba) (hb : IsA bb) (hp : 0 ≤ p ∧ p ≤ 65535) (w : World) (hw : Env5 w) :
    Calls Tryz.prog 3 #[.agg (adC va ba), .agg (adC vb bb), .int .u16 p] w fun e w' => e = .returned (.bool true) ∧ Below w.heap.size w w' := by
  have G := Lib.hid hw
  have K := Lib.hid (fun w hw => known_any w hw)
  have A0 : Hid (Ab w ((w.alloc (.cells (adC va ba) 24)).alloc (.cells (adC vb bb) 24)) va ba vb bb) := Lib.hid ⟨(Blk.new _ _ _ rfl).alloc _, Blk.new _ _ _ (by simp), by (repeat (first | (with_reducible exact Below.refl _ _) | (with_reducible assumption) | (with_reducible refine Below.drew ?_) | (with_reducible refine below_drewN ?_ _) | ((with_reducible refine Below.alloc ?_ ?_ _); rotate_left; (focus (first | (simp; done) | (simp; omega) | omega))) | ((with_reducible refine Below.setCell ?_ ?_ _); rotate_left; (focus (first | (simp; done) | (simp; omega) | omega))) | ((with_reducible refine Below.trans ?_ (Below.mono (by assumption) ?_)); rotate_left; (focus (first | (simp; done) | (simp; omega) | omega)))))⟩
  have la := ha.1
  have lb := hb.1
  have P := Lib.hid (fun w hw => t_print va ba ha w hw)
  have E := Lib.hid (fun w hw => t_ends va ba p ha hp w hw)
  have L := Lib.hid (fun w => t_less va vb ba bb la lb w)
  have M := Lib.hid (fun w => t_may va ba la w)
  have RM := Lib.hid (fun w => r_may va ba ha w)
  have RP := Lib.hid (fun w => r_print va ba ha w)
  have RE := Lib.hid (fun w => r_ends va ba p ha hp w)
  have LB := Lib.hid (show lessB va ba vb bb = if va = vb then Op.bytesLess (str (Lib.bytesOf ba)).toList (str (Lib.bytesOf bb)).toList else vb by rw [bytes_less]; rfl)
  have HA := Lib.hid ha
  have HB := Lib.hid hb
  clear hw ha hb
  obtain ⟨p0, p1⟩ := hp
  go_enter Tryz.func3, Tryz.ntmps3
  go_upto_region 1 with fail
  generalize (w.alloc (.cells (adC va ba) 24)).alloc (.cells (adC vb bb) 24) = w1 at *
  go_upto_region 3 with (go_at_call 7; refine (K.out _ (G.out.below A0.out.2.2)).mono ?_; rintro e w2 ⟨rfl, hb⟩; have A2 := Lib.hid (A0.out.on hb); clear hb A0)
  clear K
  cases hm : mayB va ba
  · rw [show prV va ba = .tuple #[.string ⟨#[]⟩, .int .i64 2] by unfold prV; rw [hm]; rfl] at P
    rw [show enV va ba p = .tuple #[.string ⟨#[]⟩, .int .i64 2] by unfold enV; rw [hm]; rfl] at E
    rw [hm] at M RM
    clear hm RP RE
    go_upto_region 4 with (first
      | (refine wl_load rfl _ _ rfl _ rfl _ (ld_addr la A2.out.1) ?_)
      | (go_at_call 8; refine (P.out _ (G.out.below A2.out.2.2)).mono ?_; rintro e w3 ⟨rfl, hb⟩; have A3 := Lib.hid (A2.out.on hb); clear hb A2))
    clear P
    go_upto_region 5 with (first
      | (refine wl_load rfl _ _ rfl _ rfl _ (ld_addr la A3.out.1) ?_)
      | (refine wl_build rfl _ _ rfl [(0, .agg (adC va ba)), (1, .int .u16 p)] rfl _ (built_ends (v := va) (p := p) la) ?_)
      | (go_at_call 9; refine (E.out _ (G.out.below A3.out.2.2)).mono ?_; rintro e w4 ⟨rfl, hb⟩; have A4 := Lib.hid (A3.out.on hb); clear hb A3))
    clear E
    have q0 := A4.out.1.q_head
    have q1 := A4.out.2.1.q_head
    have q2 := A4.out.1.q_conv HA.out
    have q3 := A4.out.2.1.q_conv HB.out
    generalize str (Lib.bytesOf ba) = sa at *
    generalize str (Lib.bytesOf bb) = sb at *
    go_cut [11] from 26 to 49 (fun v wr => v = .bool (lessB va ba vb bb) ∧ Hid (Ab w wr va ba vb bb))
    case first =>
      cases va <;> cases vb
      case false.false =>
        refine wp_region_quiet_below (by kernel_rfl) (by kernel_rfl) ?_
        repeat (first
            | ((first | refine q_load rfl _ _ rfl _ rfl _ q0 ?_ | refine q_load rfl _ _ rfl _ rfl _ q1 ?_); (try simp only [Act.put, List.setIfInBounds_toArray, List.set_cons_zero, List.set_cons_succ]))
            | (go_big_quiet_step (fail)))
        refine q_convert rfl 33 9 (.tmp 41) rfl (.slice (some ⟨w.heap.size, 1, none⟩) 16 16) rfl (.string sa) q2 ?_
        (try simp only [Act.put, List.setIfInBounds_toArray, List.set_cons_zero, List.set_cons_succ])
        repeat (first
            | ((first | refine q_load rfl _ _ rfl _ rfl _ q0 ?_ | refine q_load rfl _ _ rfl _ rfl _ q1 ?_); (try simp only [Act.put, List.setIfInBounds_toArray, List.set_cons_zero, List.set_cons_succ]))
            | (go_big_quiet_step (fail)))
        refine q_convert rfl 33 9 (.tmp 44) rfl (.slice (some ⟨w.heap.size + 1, 1, none⟩) 16 16) rfl (.string sb) q3 ?_
        (try simp only [Act.put, List.setIfInBounds_toArray, List.set_cons_zero, List.set_cons_succ])
        repeat (first
            | ((first | refine q_load rfl _ _ rfl _ rfl _ q0 ?_ | refine q_load rfl _ _ rfl _ rfl _ q1 ?_); (try simp only [Act.put, List.setIfInBounds_toArray, List.set_cons_zero, List.set_cons_succ]))
            | (go_big_quiet_step (fail)))
        (refine wpQuiet_nil ?_; intro _ hw'; obtain ⟨⟨dq, osq⟩, hw''⟩ := hw'; subst hw'')
        have A5 := Lib.hid (A4.out.on (below_quiet dq osq))
        go_wp2
        go_meet
        exact ⟨by rw [LB.out]; simp, A5⟩
      case true.true =>
        refine wp_region_quiet_below (by kernel_rfl) (by kernel_rfl) ?_
        repeat (first
            | ((first | refine q_load rfl _ _ rfl _ rfl _ q0 ?_ | refine q_load rfl _ _ rfl _ rfl _ q1 ?_); (try simp only [Act.put, List.setIfInBounds_toArray, List.set_cons_zero, List.set_cons_succ]))
            | (go_big_quiet_step (fail)))
        refine q_convert rfl 33 9 (.tmp 41) rfl (.slice (some ⟨w.heap.size, 1, none⟩) 16 16) rfl (.string sa) q2 ?_
        (try simp only [Act.put, List.setIfInBounds_toArray, List.set_cons_zero, List.set_cons_succ])
        repeat (first
            | ((first | refine q_load rfl _ _ rfl _ rfl _ q0 ?_ | refine q_load rfl _ _ rfl _ rfl _ q1 ?_); (try simp only [Act.put, List.setIfInBounds_toArray, List.set_cons_zero, List.set_cons_succ]))
            | (go_big_quiet_step (fail)))
        refine q_convert rfl 33 9 (.tmp 44) rfl (.slice (some ⟨w.heap.size + 1, 1, none⟩) 16 16) rfl (.string sb) q3 ?_
        (try simp only [Act.put, List.setIfInBounds_toArray, List.set_cons_zero, List.set_cons_succ])
        repeat (first
            | ((first | refine q_load rfl _ _ rfl _ rfl _ q0 ?_ | refine q_load rfl _ _ rfl _ rfl _ q1 ?_); (try simp only [Act.put, List.setIfInBounds_toArray, List.set_cons_zero, List.set_cons_succ]))
            | (go_big_quiet_step (fail)))
        (refine wpQuiet_nil ?_; intro _ hw'; obtain ⟨⟨dq, osq⟩, hw''⟩ := hw'; subst hw'')
        have A5 := Lib.hid (A4.out.on (below_quiet dq osq))
        go_wp2
        go_meet
        exact ⟨by rw [LB.out]; simp, A5⟩
      case true.false =>
        refine wp_region_quiet_below (by kernel_rfl) (by kernel_rfl) ?_
        go_big_quiet_step (fail)
        refine q_load rfl _ _ rfl _ rfl _ q0 ?_
        (try simp only [Act.put, List.setIfInBounds_toArray, List.set_cons_zero, List.set_cons_succ])
        go_big_quiet_step (fail)
        go_big_quiet_step (fail)
        go_big_quiet_step (fail)
        go_big_quiet_step (fail)
        go_big_quiet_step (fail)
        go_big_quiet_step (fail)
        go_big_quiet_step (fail)
        refine q_load rfl _ _ rfl _ rfl _ q0 ?_
        (try simp only [Act.put, List.setIfInBounds_toArray, List.set_cons_zero, List.set_cons_succ])
        go_big_quiet_step (fail)
        refine q_load rfl _ _ rfl _ rfl _ q1 ?_
        (try simp only [Act.put, List.setIfInBounds_toArray, List.set_cons_zero, List.set_cons_succ])
        go_big_quiet_step (fail)
        refine q_move rfl (.tmp 38) rfl (.bool false) rfl ?_
        (try simp only [Act.put, List.setIfInBounds_toArray, List.set_cons_zero, List.set_cons_succ])
        go_big_quiet_step (fail)
        go_big_quiet_step (fail)
        go_big_quiet_step (fail)
        go_big_quiet_step (fail)
        go_big_quiet_step (fail)
        go_big_quiet_step (fail)
        go_big_quiet_step (fail)
        go_big_quiet_step (fail)
        go_big_quiet_step (fail)
        go_big_quiet_step (fail)
        (refine wpQuiet_nil ?_; intro _ hw'; obtain ⟨⟨dq, osq⟩, hw''⟩ := hw'; subst hw'')
        have A5 := Lib.hid (A4.out.on (below_quiet dq osq))
        go_wp2
        go_meet
        exact ⟨by rw [LB.out]; simp, A5⟩
      case false.true =>
        refine wp_region_quiet_below (by kernel_rfl) (by kernel_rfl) ?_
        go_big_quiet_step (fail)
        refine q_load rfl _ _ rfl _ rfl _ q0 ?_
        (try simp only [Act.put, List.setIfInBounds_toArray, List.set_cons_zero, List.set_cons_succ])
        go_big_quiet_step (fail)
        go_big_quiet_step (fail)
        go_big_quiet_step (fail)
        refine q_load rfl _ _ rfl _ rfl _ q1 ?_
        (try simp only [Act.put, List.setIfInBounds_toArray, List.set_cons_zero, List.set_cons_succ])
        go_big_quiet_step (fail)
        go_big_quiet_step (fail)
        go_big_quiet_step (fail)
        go_big_quiet_step (fail)
        go_big_quiet_step (fail)
        go_big_quiet_step (fail)
        go_big_quiet_step (fail)
        go_big_quiet_step (fail)
        go_big_quiet_step (fail)
        go_big_quiet_step (fail)
        go_big_quiet_step (fail)
        go_big_quiet_step (fail)
        go_big_quiet_step (fail)
        go_big_quiet_step (fail)
        go_big_quiet_step (fail)
        go_big_quiet_step (fail)
        go_big_quiet_step (fail)
        go_big_quiet_step (fail)
        (refine wpQuiet_nil ?_; intro _ hw'; obtain ⟨⟨dq, osq⟩, hw''⟩ := hw'; subst hw'')
        have A5 := Lib.hid (A4.out.on (below_quiet dq osq))
        go_wp2
        go_meet
        exact ⟨by rw [LB.out]; simp, A5⟩
    case rest =>
    obtain ⟨rfl, A5⟩ := hcut
    obtain ⟨w5, rfl⟩ : ∃ v : World, v = wc := ⟨_, rfl⟩
    clear A4 q0 q1 q2 q3 LB
    generalize lessB va ba vb bb = l at *
    have q0 := A5.out.1.q_addr2 la
    have q1 := A5.out.2.1.q_addr2 lb
    go_upto_region 6 with fail
    refine wp_region_quiet_below (by kernel_rfl) (by kernel_rfl) ?_
    repeat (first
      | ((first | refine q_load rfl _ _ rfl _ rfl _ q0 ?_ | refine q_load rfl _ _ rfl _ rfl _ q1 ?_); (try simp only [Act.put, List.setIfInBounds_toArray, List.set_cons_zero, List.set_cons_succ]))
      | (go_big_quiet_step (first | (with_reducible exact (Calls.regrown_of (L.out _))) | (with_reducible exact (Calls.regrown_of (M.out _))) | (with_reducible exact (Calls.regrown_of (RM.out _))))))
    (refine wpQuiet_nil ?_; intro _ hw'; obtain ⟨⟨dq, osq⟩, hw''⟩ := hw'; subst hw'')
    have A6 := Lib.hid (A5.out.on (below_quiet dq osq))
    clear A5 q0 q1 L M
    generalize grow (redrawn w5 dq) osq = w6 at *
    go_upto_region 8 with fail
    go_wp2_with (first
      | (refine wl_load rfl _ _ rfl _ rfl _ (ld_addr la A6.out.1) ?_)
      | (go_at_call 12; refine (RM.out _).mono ?_; rintro e w7 ⟨rfl, hb⟩; have A7 := Lib.hid (A6.out.on hb); clear hb A6))
    go_ret
    exact ⟨rfl, A7.out.2.2⟩
  · rw [prV_ok hm] at P
    rw [enV_ok hm] at E
    rw [hm] at M RM
    clear hm
    generalize str (tx va ba) = s at *
    generalize str (te va ba p) = q at *
    go_upto_region 4 with (first
      | (refine wl_load rfl _ _ rfl _ rfl _ (ld_addr la A2.out.1) ?_)
      | (go_at_call 8; refine (P.out _ (G.out.below A2.out.2.2)).mono ?_; rintro e w3 ⟨rfl, hb⟩; have A3 := Lib.hid (A2.out.on hb); clear hb A2))
    clear P
    go_upto_region 5 with (first
      | (refine wl_load rfl _ _ rfl _ rfl _ (ld_addr la A3.out.1) ?_)
      | (refine wl_build rfl _ _ rfl [(0, .agg (adC va ba)), (1, .int .u16 p)] rfl _ (built_ends (v := va) (p := p) la) ?_)
      | (go_at_call 9; refine (E.out _ (G.out.below A3.out.2.2)).mono ?_; rintro e w4 ⟨rfl, hb⟩; have A4 := Lib.hid (A3.out.on hb); clear hb A3))
    clear E
    have q0 := A4.out.1.q_head
    have q1 := A4.out.2.1.q_head
    have q2 := A4.out.1.q_conv HA.out
    have q3 := A4.out.2.1.q_conv HB.out
    generalize str (Lib.bytesOf ba) = sa at *
    generalize str (Lib.bytesOf bb) = sb at *
    go_cut [11] from 26 to 49 (fun v wr => v = .bool (lessB va ba vb bb) ∧ Hid (Ab w wr va ba vb bb))
    case first =>
      cases va <;> cases vb
      case false.false =>
        refine wp_region_quiet_below (by kernel_rfl) (by kernel_rfl) ?_
        repeat (first
            | ((first | refine q_load rfl _ _ rfl _ rfl _ q0 ?_ | refine q_load rfl _ _ rfl _ rfl _ q1 ?_); (try simp only [Act.put, List.setIfInBounds_toArray, List.set_cons_zero, List.set_cons_succ]))
            | (go_big_quiet_step (fail)))
        refine q_convert rfl 33 9 (.tmp 41) rfl (.slice (some ⟨w.heap.size, 1, none⟩) 16 16) rfl (.string sa) q2 ?_
        (try simp only [Act.put, List.setIfInBounds_toArray, List.set_cons_zero, List.set_cons_succ])
        repeat (first
            | ((first | refine q_load rfl _ _ rfl _ rfl _ q0 ?_ | refine q_load rfl _ _ rfl _ rfl _ q1 ?_); (try simp only [Act.put, List.setIfInBounds_toArray, List.set_cons_zero, List.set_cons_succ]))
            | (go_big_quiet_step (fail)))
        refine q_convert rfl 33 9 (.tmp 44) rfl (.slice (some ⟨w.heap.size + 1, 1, none⟩) 16 16) rfl (.string sb) q3 ?_
        (try simp only [Act.put, List.setIfInBounds_toArray, List.set_cons_zero, List.set_cons_succ])
        repeat (first
            | ((first | refine q_load rfl _ _ rfl _ rfl _ q0 ?_ | refine q_load rfl _ _ rfl _ rfl _ q1 ?_); (try simp only [Act.put, List.setIfInBounds_toArray, List.set_cons_zero, List.set_cons_succ]))
            | (go_big_quiet_step (fail)))
        (refine wpQuiet_nil ?_; intro _ hw'; obtain ⟨⟨dq, osq⟩, hw''⟩ := hw'; subst hw'')
        have A5 := Lib.hid (A4.out.on (below_quiet dq osq))
        go_wp2
        go_meet
        exact ⟨by rw [LB.out]; simp, A5⟩
      case true.true =>
        refine wp_region_quiet_below (by kernel_rfl) (by kernel_rfl) ?_
        repeat (first
            | ((first | refine q_load rfl _ _ rfl _ rfl _ q0 ?_ | refine q_load rfl _ _ rfl _ rfl _ q1 ?_); (try simp only [Act.put, List.setIfInBounds_toArray, List.set_cons_zero, List.set_cons_succ]))
            | (go_big_quiet_step (fail)))
        refine q_convert rfl 33 9 (.tmp 41) rfl (.slice (some ⟨w.heap.size, 1, none⟩) 16 16) rfl (.string sa) q2 ?_
        (try simp only [Act.put, List.setIfInBounds_toArray, List.set_cons_zero, List.set_cons_succ])
        repeat (first
            | ((first | refine q_load rfl _ _ rfl _ rfl _ q0 ?_ | refine q_load rfl _ _ rfl _ rfl _ q1 ?_); (try simp only [Act.put, List.setIfInBounds_toArray, List.set_cons_zero, List.set_cons_succ]))
            | (go_big_quiet_step (fail)))
        refine q_convert rfl 33 9 (.tmp 44) rfl (.slice (some ⟨w.heap.size + 1, 1, none⟩) 16 16) rfl (.string sb) q3 ?_
        (try simp only [Act.put, List.setIfInBounds_toArray, List.set_cons_zero, List.set_cons_succ])
        repeat (first
            | ((first | refine q_load rfl _ _ rfl _ rfl _ q0 ?_ | refine q_load rfl _ _ rfl _ rfl _ q1 ?_); (try simp only [Act.put, List.setIfInBounds_toArray, List.set_cons_zero, List.set_cons_succ]))
            | (go_big_quiet_step (fail)))
        (refine wpQuiet_nil ?_; intro _ hw'; obtain ⟨⟨dq, osq⟩, hw''⟩ := hw'; subst hw'')
        have A5 := Lib.hid (A4.out.on (below_quiet dq osq))
        go_wp2
        go_meet
        exact ⟨by rw [LB.out]; simp, A5⟩
      case true.false =>
        refine wp_region_quiet_below (by kernel_rfl) (by kernel_rfl) ?_
        go_big_quiet_step (fail)
        refine q_load rfl _ _ rfl _ rfl _ q0 ?_
        (try simp only [Act.put, List.setIfInBounds_toArray, List.set_cons_zero, List.set_cons_succ])
        go_big_quiet_step (fail)
        go_big_quiet_step (fail)
        go_big_quiet_step (fail)
        go_big_quiet_step (fail)
        go_big_quiet_step (fail)
        go_big_quiet_step (fail)
        go_big_quiet_step (fail)
        refine q_load rfl _ _ rfl _ rfl _ q0 ?_
        (try simp only [Act.put, List.setIfInBounds_toArray, List.set_cons_zero, List.set_cons_succ])
        go_big_quiet_step (fail)
        refine q_load rfl _ _ rfl _ rfl _ q1 ?_
        (try simp only [Act.put, List.setIfInBounds_toArray, List.set_cons_zero, List.set_cons_succ])
        go_big_quiet_step (fail)
        refine q_move rfl (.tmp 38) rfl (.bool false) rfl ?_
        (try simp only [Act.put, List.setIfInBounds_toArray, List.set_cons_zero, List.set_cons_succ])
        go_big_quiet_step (fail)
        go_big_quiet_step (fail)
        go_big_quiet_step (fail)
        go_big_quiet_step (fail)
        go_big_quiet_step (fail)
        go_big_quiet_step (fail)
        go_big_quiet_step (fail)
        go_big_quiet_step (fail)
        go_big_quiet_step (fail)
        go_big_quiet_step (fail)
        (refine wpQuiet_nil ?_; intro _ hw'; obtain ⟨⟨dq, osq⟩, hw''⟩ := hw'; subst hw'')
        have A5 := Lib.hid (A4.out.on (below_quiet dq osq))
        go_wp2
        go_meet
        exact ⟨by rw [LB.out]; simp, A5⟩
      case false.true =>
        refine wp_region_quiet_below (by kernel_rfl) (by kernel_rfl) ?_
        go_big_quiet_step (fail)
        refine q_load rfl _ _ rfl _ rfl _ q0 ?_
        (try simp only [Act.put, List.setIfInBounds_toArray, List.set_cons_zero, List.set_cons_succ])
        go_big_quiet_step (fail)
        go_big_quiet_step (fail)
        go_big_quiet_step (fail)
        refine q_load rfl _ _ rfl _ rfl _ q1 ?_
        (try simp only [Act.put, List.setIfInBounds_toArray, List.set_cons_zero, List.set_cons_succ])
        go_big_quiet_step (fail)
        go_big_quiet_step (fail)
        go_big_quiet_step (fail)
        go_big_quiet_step (fail)
        go_big_quiet_step (fail)
        go_big_quiet_step (fail)
        go_big_quiet_step (fail)
        go_big_quiet_step (fail)
        go_big_quiet_step (fail)
        go_big_quiet_step (fail)
        go_big_quiet_step (fail)
        go_big_quiet_step (fail)
        go_big_quiet_step (fail)
        go_big_quiet_step (fail)
        go_big_quiet_step (fail)
        go_big_quiet_step (fail)
        go_big_quiet_step (fail)
        go_big_quiet_step (fail)
        (refine wpQuiet_nil ?_; intro _ hw'; obtain ⟨⟨dq, osq⟩, hw''⟩ := hw'; subst hw'')
        have A5 := Lib.hid (A4.out.on (below_quiet dq osq))
        go_wp2
        go_meet
        exact ⟨by rw [LB.out]; simp, A5⟩
    case rest =>
    obtain ⟨rfl, A5⟩ := hcut
    obtain ⟨w5, rfl⟩ : ∃ v : World, v = wc := ⟨_, rfl⟩
    clear A4 q0 q1 q2 q3 LB
    generalize lessB va ba vb bb = l at *
    have q0 := A5.out.1.q_addr2 la
    have q1 := A5.out.2.1.q_addr2 lb
    go_upto_region 6 with fail
    refine wp_region_quiet_below (by kernel_rfl) (by kernel_rfl) ?_
    repeat (first
      | ((first | refine q_load rfl _ _ rfl _ rfl _ q0 ?_ | refine q_load rfl _ _ rfl _ rfl _ q1 ?_); (try simp only [Act.put, List.setIfInBounds_toArray, List.set_cons_zero, List.set_cons_succ]))
      | (go_big_quiet_step (first | (with_reducible exact (Calls.regrown_of (L.out _))) | (with_reducible exact (Calls.regrown_of (M.out _))) | (with_reducible exact (Calls.regrown_of (RM.out _))))))
    (refine wpQuiet_nil ?_; intro _ hw'; obtain ⟨⟨dq, osq⟩, hw''⟩ := hw'; subst hw'')
    have A6 := Lib.hid (A5.out.on (below_quiet dq osq))
    clear A5 q0 q1 L M
    generalize grow (redrawn w5 dq) osq = w6 at *
    go_upto_region 8 with fail
    go_upto_region 10 with (first
      | (refine wl_load rfl _ _ rfl _ rfl _ (ld_addr la A6.out.1) ?_)
      | (go_at_call 12; refine (RM.out _).mono ?_; rintro e w7 ⟨rfl, hb⟩; have A7 := Lib.hid (A6.out.on hb); clear hb A6))
    go_wp2_with (first
      | (refine wl_load rfl _ _ rfl _ rfl _ (ld_addr la A7.out.1) ?_)
      | (refine wl_load rfl _ _ rfl _ rfl _ (ld_addr la A8.out.1) ?_)
      | (refine wl_build rfl _ _ rfl [(0, .agg (adC va ba)), (1, .int .u16 p)] rfl _ (built_ends (v := va) (p := p) la) ?_)
      | (go_at_call 13; refine (RP.out _).mono ?_; rintro e w8 ⟨rfl, hb⟩; have A8 := Lib.hid (A7.out.on hb); clear hb A7)
      | (go_at_call 14; refine (RE.out _).mono ?_; rintro e w9 ⟨rfl, hb⟩; have A9 := Lib.hid (A8.out.on hb); clear hb A8))
    go_ret
    exact ⟨rfl, A9.out.2.2⟩
end Go.Proofs.YthghanidabmfgaaGreatDoor
