/-
  PROVED HERE (the walk): the statement AddrOrder: of two addresses that are not one just one is less; what is less than a lesser one is less; texts of addresses that are not one are not one.
-/
import Derived.Test.YthghanidabmfgaaGreatDoorKnown5
import Derived.BigQuiet
namespace Go.Proofs.YthghanidabmfgaaGreatDoor
open Go.RowKit Go.Sort
set_option maxRecDepth 8000
/-! ### Plain -/
theorem cb_refl (l : List UInt8) : Lib.compareBytes l l = 0 := by
  induction l with
  | nil => rfl
  | cons a r ih =>
    have : ¬ a < a := UInt8.lt_irrefl a
    rw [Lib.compareBytes, if_neg this, if_neg this, ih]
theorem cb_eq : ∀ (l m : List UInt8), Lib.compareBytes l m = 0 → l = m
  | [], [], _ => rfl
  | [], _ :: _, h => by simp [Lib.compareBytes] at h
  | _ :: _, [], h => by simp [Lib.compareBytes] at h
  | a :: l, b :: m, h => by
    rw [Lib.compareBytes] at h
    by_cases c : a < b
    · rw [if_pos c] at h; cases h
    · by_cases d : b < a
      · rw [if_neg c, if_pos d] at h; cases h
      · rw [if_neg c, if_neg d] at h
        have : a = b := UInt8.le_antisymm (UInt8.not_lt.1 d) (UInt8.not_lt.1 c)
        rw [this, cb_eq l m h]
theorem cb_swap : ∀ (l m : List UInt8), Lib.compareBytes m l = - Lib.compareBytes l m
  | [], [] => rfl
  | [], _ :: _ => rfl
  | _ :: _, [] => rfl
  | a :: l, b :: m => by
    rw [Lib.compareBytes, Lib.compareBytes]
    by_cases c : a < b
    · have d : ¬ b < a := fun d => UInt8.lt_irrefl a (UInt8.lt_trans c d)
      rw [if_neg d, if_pos c, if_pos c]; rfl
    · by_cases d : b < a
      · rw [if_pos d, if_neg c, if_pos d]
      · rw [if_neg d, if_neg c, if_neg c, if_neg d, cb_swap l m]
theorem cb_trans : ∀ (l m n : List UInt8), Lib.compareBytes l m < 0 → Lib.compareBytes m n < 0 → Lib.compareBytes l n < 0
  | [], _, [], h1, h2 => by
    rename_i m
    cases m with
    | nil => exact h1
    | cons b m => simp [Lib.compareBytes] at h2
  | [], _, _ :: _, _, _ => by simp [Lib.compareBytes]
  | _ :: _, [], _, h1, _ => by simp [Lib.compareBytes] at h1
  | _ :: _, _ :: _, [], _, h2 => by simp [Lib.compareBytes] at h2
  | a :: l, b :: m, c :: n, h1, h2 => by
    rw [Lib.compareBytes] at h1 h2 ⊢
    by_cases ab : a < b
    · by_cases bc : b < c
      · rw [if_pos (UInt8.lt_trans ab bc)]; decide
      · by_cases cb : c < b
        · rw [if_neg bc, if_pos cb] at h2; exact absurd h2 (by decide)
        · have : b = c := UInt8.le_antisymm (UInt8.not_lt.1 cb) (UInt8.not_lt.1 bc)
          rw [← this, if_pos ab]; decide
    · by_cases ba : b < a
      · rw [if_neg ab, if_pos ba] at h1; exact absurd h1 (by decide)
      · have e : a = b := UInt8.le_antisymm (UInt8.not_lt.1 ba) (UInt8.not_lt.1 ab)
        rw [if_neg ab, if_neg ba] at h1
        rw [e]
        by_cases bc : b < c
        · rw [if_pos bc]; decide
        · by_cases cb : c < b
          · rw [if_neg bc, if_pos cb] at h2; exact absurd h2 (by decide)
          · rw [if_neg bc, if_neg cb] at h2 ⊢
            exact cb_trans l m n h1 h2
theorem bytesOf_inj : ∀ {b b' : List Int}, (∀ n ∈ b, Byte n) → (∀ n ∈ b', Byte n) → Lib.bytesOf b = Lib.bytesOf b' → b = b'
  | [], [], _, _, _ => rfl
  | [], _ :: _, _, _, h => by simp [Lib.bytesOf] at h
  | _ :: _, [], _, _, h => by simp [Lib.bytesOf] at h
  | x :: b, y :: b', h1, h2, h => by
    simp only [Lib.bytesOf, List.map_cons, List.cons.injEq] at h
    have a1 := h1 x (by simp)
    have a2 := h2 y (by simp)
    unfold Byte at a1 a2
    have e : x = y := by
      have := congrArg UInt8.toNat h.1
      simp only [UInt8.toNat_ofNat'] at this
      omega
    rw [e, bytesOf_inj (fun n hn => h1 n (by simp [hn])) (fun n hn => h2 n (by simp [hn])) h.2]
theorem less_self (v : Bool) (b : List Int) : lessB v b v b = false := by unfold lessB; rw [if_pos rfl, cb_refl]; rfl
/-- Of two addresses that are not one just one is less. -/
theorem less_one {v v' : Bool} {b b' : List Int} (h : IsA b) (h' : IsA b') :
    (decide (v = v' ∧ b = b') = true ∧ lessB v b v' b' = false ∧ lessB v' b' v b = false) ∨ (decide (v = v' ∧ b = b') = false ∧ lessB v b v' b' = true ∧ lessB v' b' v b = false) ∨ (decide (v = v' ∧ b = b') = false ∧ lessB v b v' b' = false ∧ lessB v' b' v b = true) := by
  by_cases e : v = v' ∧ b = b'
  · obtain ⟨rfl, rfl⟩ := e
    left; exact ⟨by simp, less_self _ _, less_self _ _⟩
  · right
    rw [decide_eq_false e]
    by_cases c : v = v'
    · subst c
      have hb : b ≠ b' := fun k => e ⟨rfl, k⟩
      have hn : Lib.compareBytes (Lib.bytesOf b) (Lib.bytesOf b') ≠ 0 := fun k => hb (bytesOf_inj h.2 h'.2 (cb_eq _ _ k))
      have s := cb_swap (Lib.bytesOf b) (Lib.bytesOf b')
      unfold lessB
      rw [if_pos rfl, if_pos rfl, s]
      rcases Int.lt_or_gt_of_ne hn with k | k
      · left; exact ⟨rfl, by simpa using k, by simp; omega⟩
      · right; exact ⟨rfl, by simp; omega, by simp; omega⟩
    · unfold lessB
      rw [if_neg c, if_neg (fun k => c k.symm)]
      cases v <;> cases v' <;> simp_all
theorem less_trans {v v' v'' : Bool} {b b' b'' : List Int} (h1 : lessB v b v' b' = true) (h2 : lessB v' b' v'' b'' = true) : lessB v b v'' b'' = true := by
  unfold lessB at *
  by_cases c : v = v'
  · subst c
    rw [if_pos rfl] at h1
    by_cases d : v = v''
    · subst d
      rw [if_pos rfl] at h2 ⊢
      simp only [decide_eq_true_eq] at *
      exact cb_trans _ _ _ h1 h2
    · rw [if_neg d] at h2 ⊢; exact h2
  · rw [if_neg c] at h1
    by_cases d : v' = v''
    · subst d; rw [if_neg c]; exact h1
    · rw [if_neg d] at h2
      subst h1 h2; exact absurd rfl d
/-! ### A load, in a region that only reads -/
theorem q_load {ops : Array Oper} {C : World → Prop} {Q : Act → Prop} {a : Act} {o : Oper} {rest : List Oper} (hw : Region.wanted o (yielded ops a.tmps) = true) (ty : TypeId) (x : Operand) (ho : o.op = .load ty x)
    (p : Addr) (hx : a.eval x = .pointer (some p)) (V : Value) (hS : ∀ w, C w → (Instr.loadAt ty (.pointer (some p))).run Tryz.prog w = .ok V w) (h : wpQuiet Tryz.prog ops C Q rest (a.put o.dst V)) : wpQuiet Tryz.prog ops C Q (o :: rest) a :=
  BigFrame.wpQuiet_want hw fun K hK => ⟨V, fun w hw => by
    have e : (execOp a.eval o).run Tryz.prog w = .ok (.value V) w := by
      unfold execOp
      simp only [ho, hx, Sem.run_bind, hS w hw, Result.andThen_ok, Sem.run_pure]
    unfold Oper.quietAt
    rw [e]
    exact ⟨rfl, rfl⟩, hK _ h⟩
theorem Blk.q_addr {w : World} {g : Nat} {t : TypeId} {v : Bool} {b : List Int} (h : Blk w g t (adC v b)) (hl : b.length = 16) : ∀ w', (∃ p : Regrown, w' = grow (redrawn w p.d) p.os) → (Instr.loadAt 24 (.pointer (some ⟨g, 0, none⟩))).run Tryz.prog w' = .ok (.agg (adC v b)) w' := by
  rintro w' ⟨p, rfl⟩
  exact ld_addr hl (h.on (below_regrown w p.d p.os))
/-! ### The law -/
def Abc (w wr : World) (va : Bool) (ba : List Int) (vb : Bool) (bb : List Int) (vc : Bool) (bc : List Int) : Prop := Blk wr w.heap.size 24 (adC va ba) ∧ Blk wr (w.heap.size + 1) 24 (adC vb bb) ∧ Blk wr (w.heap.size + 1 + 1) 24 (adC vc bc) ∧ Below w.heap.size w wr
theorem Abc.on {w w1 w2 : World} {va vb vc : Bool} {ba bb bc : List Int} (h : Abc w w1 va ba vb bb vc bc) (hb : Below w1.heap.size w1 w2) : Abc w w2 va ba vb bb vc bc := ⟨h.1.on hb, h.2.1.on hb, h.2.2.1.on hb, h.2.2.2.trans (hb.mono h.2.2.2.size)⟩
set_option maxHeartbeats 4000000 in
theorem addrOrder_any (va : Bool) (ba : List Int) (vb : Bool) (bb : List Int) (vc : Bool) (bc : List Int) (ha : IsA ba) (hb : IsA bb) (hc : IsA bc) (w : World) (hw : Env5 w) :
    Calls Tryz.prog 6 #[.agg (adC va ba), .agg (adC vb bb), .agg (adC vc bc)] w fun e w' => e = .returned (.bool true) ∧ Below w.heap.size w w' := by
  have G := Lib.hid hw
  have K := Lib.hid (fun w hw => known_any w hw)
  have A0 : Hid (Abc w (((w.alloc (.cells (adC va ba) 24)).alloc (.cells (adC vb bb) 24)).alloc (.cells (adC vc bc) 24)) va ba vb bb vc bc) := Lib.hid ⟨((Blk.new _ _ _ rfl).alloc _).alloc _, (Blk.new _ _ _ (by simp)).alloc _, Blk.new _ _ _ (by simp), by (repeat (first | (with_reducible exact Below.refl _ _) | (with_reducible assumption) | (with_reducible refine Below.drew ?_) | (with_reducible refine below_drewN ?_ _) | ((with_reducible refine Below.alloc ?_ ?_ _); rotate_left; (focus (first | (simp; done) | (simp; omega) | omega))) | ((with_reducible refine Below.setCell ?_ ?_ _); rotate_left; (focus (first | (simp; done) | (simp; omega) | omega))) | ((with_reducible refine Below.trans ?_ (Below.mono (by assumption) ?_)); rotate_left; (focus (first | (simp; done) | (simp; omega) | omega)))))⟩
  have la := ha.1
  have lb := hb.1
  have lc := hc.1
  have L1 := Lib.hid (fun w => (less_self va ba) ▸ t_less va va ba ba la la w)
  have L2 := Lib.hid (fun w => t_less va vb ba bb la lb w)
  have L3 := Lib.hid (fun w => t_less vb va bb ba lb la w)
  have L4 := Lib.hid (fun w => t_less vb vc bb bc lb lc w)
  have L5 := Lib.hid (fun w => t_less va vc ba bc la lc w)
  have ONE := less_one (v := va) (v' := vb) ha hb
  have TR := Lib.hid (fun h1 h2 => (less_trans (v := va) (v' := vb) (v'' := vc) (b := ba) (b' := bb) (b'' := bc) h1 h2))
  have P1 := Lib.hid (fun w hw => t_print va ba ha w hw)
  have P2 := Lib.hid (fun w hw => t_print vb bb hb w hw)
  have e1 := qA va vb ba bb la lb
  have IN := Lib.hid (fun m m' (e : tx va ba = tx vb bb) => tx_inj ha m hb m' e)
  clear hw
  go_enter Tryz.func6, Tryz.ntmps6
  go_upto_region 1 with fail
  generalize ((w.alloc (.cells (adC va ba) 24)).alloc (.cells (adC vb bb) 24)).alloc (.cells (adC vc bc) 24) = w1 at *
  go_upto_region 3 with (go_at_call 7; refine (K.out _ (G.out.below A0.out.2.2.2)).mono ?_; rintro e w2 ⟨rfl, hb⟩; have A2 := Lib.hid (A0.out.on hb); clear hb A0)
  clear K
  have PV := Lib.hid (show prV vb bb = if mayB vb bb = true then .tuple #[.string (str (tx vb bb)), .int .i64 0] else .tuple #[.string ⟨#[]⟩, .int .i64 2] from rfl)
  have KE := Lib.hid (fun (m : mayB va ba = true) (m' : mayB vb bb = true) => (show ((str (tx va ba)).toList == (str (tx vb bb)).toList) = decide (va = vb ∧ ba = bb) by
    rw [ByteArray.toList_eq, ByteArray.toList_eq, str_list, str_list]
    by_cases e : va = vb ∧ ba = bb
    · obtain ⟨rfl, rfl⟩ := e; simp
    · rw [decide_eq_false e]
      exact beq_eq_false_iff_ne.2 fun q => e (IN.out m m' q)))
  rcases ONE with ⟨d, x1, x2⟩ | ⟨d, x1, x2⟩ | ⟨d, x1, x2⟩
  · rw [d] at e1
    rw [x1] at L2
    rw [x2] at L3
    clear TR x1 x2
    refine wp_region_quiet_below (by kernel_rfl) (by kernel_rfl) ?_
    repeat (first
      | ((first | refine q_load rfl _ _ rfl _ rfl _ (A2.out.1.q_addr la) ?_ | refine q_load rfl _ _ rfl _ rfl _ (A2.out.2.1.q_addr lb) ?_ | refine q_load rfl _ _ rfl _ rfl _ (A2.out.2.2.1.q_addr lc) ?_); (try simp only [Act.put, List.setIfInBounds_toArray, List.set_cons_zero, List.set_cons_succ]))
      | (go_big_quiet_step (first | (with_reducible exact (Calls.regrown_of (L1.out _))) | (with_reducible exact (Calls.regrown_of (L2.out _))) | (with_reducible exact (Calls.regrown_of (L3.out _))) | (with_reducible exact (Calls.regrown_of (L4.out _))) | (with_reducible exact (Calls.regrown_of (L5.out _))))))
    (refine wpQuiet_nil ?_; intro _ hw'; obtain ⟨⟨dq, osq⟩, hw''⟩ := hw'; subst hw'')
    have A3 := Lib.hid (A2.out.on (below_quiet dq osq))
    clear A2 L1 L2 L3
    generalize grow (redrawn w2 dq) osq = w3 at *
    cases ma : mayB va ba
    · rw [show prV va ba = .tuple #[.string ⟨#[]⟩, .int .i64 2] by unfold prV; rw [ma]; rfl] at P1
      rw [PV.out] at P2
      clear ma IN KE PV
      go_upto_region 6 with (first
        | (refine wl_load rfl _ _ rfl _ rfl _ (ld_addr la A3.out.1) ?_)
        | (go_at_call 8; refine (P1.out _ (G.out.below A3.out.2.2.2)).mono ?_; rintro e w4 ⟨rfl, hb⟩; have A4 := Lib.hid (A3.out.on hb); clear hb))
      clear A3
      go_wp2_with (first
        | (refine wl_load rfl _ _ rfl _ rfl _ (ld_addr lb A4.out.2.1) ?_)
        | (go_at_call 8; refine (P2.out _ (G.out.below A4.out.2.2.2)).mono ?_; rintro e w5 ⟨rfl, hb⟩; have A5 := Lib.hid (A4.out.on hb); clear hb))
      all_goals
        go_ret
        exact ⟨rfl, A5.out.2.2.2⟩
    · have KE := Lib.hid (KE.out ma)
      rw [prV_ok ma] at P1
      clear ma IN
      cases mb : mayB vb bb
      · rw [show prV vb bb = .tuple #[.string ⟨#[]⟩, .int .i64 2] by unfold prV; rw [mb]; rfl] at P2
        clear mb PV KE
        go_upto_region 6 with (first
          | (refine wl_load rfl _ _ rfl _ rfl _ (ld_addr la A3.out.1) ?_)
          | (go_at_call 8; refine (P1.out _ (G.out.below A3.out.2.2.2)).mono ?_; rintro e w4 ⟨rfl, hb⟩; have A4 := Lib.hid (A3.out.on hb); clear hb))
        clear A3
        go_wp2_with (first
          | (refine wl_load rfl _ _ rfl _ rfl _ (ld_addr lb A4.out.2.1) ?_)
          | (go_at_call 8; refine (P2.out _ (G.out.below A4.out.2.2.2)).mono ?_; rintro e w5 ⟨rfl, hb⟩; have A5 := Lib.hid (A4.out.on hb); clear hb))
        go_ret
        exact ⟨rfl, A5.out.2.2.2⟩
      · have k := KE.out mb
        rw [prV_ok mb] at P2
        rw [d] at k
        clear mb PV KE d
        generalize str (tx va ba) = sa at *
        generalize str (tx vb bb) = sb at *
        go_upto_region 6 with (first
          | (refine wl_load rfl _ _ rfl _ rfl _ (ld_addr la A3.out.1) ?_)
          | (go_at_call 8; refine (P1.out _ (G.out.below A3.out.2.2.2)).mono ?_; rintro e w4 ⟨rfl, hb⟩; have A4 := Lib.hid (A3.out.on hb); clear hb))
        clear A3
        go_upto_region 7 with (first
          | (refine wl_load rfl _ _ rfl _ rfl _ (ld_addr lb A4.out.2.1) ?_)
          | (go_at_call 8; refine (P2.out _ (G.out.below A4.out.2.2.2)).mono ?_; rintro e w5 ⟨rfl, hb⟩; have A5 := Lib.hid (A4.out.on hb); clear hb))
        clear A4
        go_wp2_with (first
          | (refine wl_load rfl _ _ rfl _ rfl _ (ld_addr la A5.out.1) ?_)
          | (refine wl_load rfl _ _ rfl _ rfl _ (ld_addr lb A5.out.2.1) ?_))
        go_ret
        exact ⟨rfl, A5.out.2.2.2⟩
  · rw [d] at e1
    have TR := Lib.hid (TR.out x1)
    rw [x1] at L2
    rw [x2] at L3
    clear x1 x2
    cases x3 : lessB vb bb vc bc
    · rw [x3] at L4
      clear TR x3
      refine wp_region_quiet_below (by kernel_rfl) (by kernel_rfl) ?_
      repeat (first
        | ((first | refine q_load rfl _ _ rfl _ rfl _ (A2.out.1.q_addr la) ?_ | refine q_load rfl _ _ rfl _ rfl _ (A2.out.2.1.q_addr lb) ?_ | refine q_load rfl _ _ rfl _ rfl _ (A2.out.2.2.1.q_addr lc) ?_); (try simp only [Act.put, List.setIfInBounds_toArray, List.set_cons_zero, List.set_cons_succ]))
        | (go_big_quiet_step (first | (with_reducible exact (Calls.regrown_of (L1.out _))) | (with_reducible exact (Calls.regrown_of (L2.out _))) | (with_reducible exact (Calls.regrown_of (L3.out _))) | (with_reducible exact (Calls.regrown_of (L4.out _))) | (with_reducible exact (Calls.regrown_of (L5.out _))))))
      (refine wpQuiet_nil ?_; intro _ hw'; obtain ⟨⟨dq, osq⟩, hw''⟩ := hw'; subst hw'')
      have A3 := Lib.hid (A2.out.on (below_quiet dq osq))
      clear A2 L1 L2 L3
      generalize grow (redrawn w2 dq) osq = w3 at *
      cases ma : mayB va ba
      · rw [show prV va ba = .tuple #[.string ⟨#[]⟩, .int .i64 2] by unfold prV; rw [ma]; rfl] at P1
        rw [PV.out] at P2
        clear ma IN KE PV
        go_upto_region 6 with (first
          | (refine wl_load rfl _ _ rfl _ rfl _ (ld_addr la A3.out.1) ?_)
          | (go_at_call 8; refine (P1.out _ (G.out.below A3.out.2.2.2)).mono ?_; rintro e w4 ⟨rfl, hb⟩; have A4 := Lib.hid (A3.out.on hb); clear hb))
        clear A3
        go_wp2_with (first
          | (refine wl_load rfl _ _ rfl _ rfl _ (ld_addr lb A4.out.2.1) ?_)
          | (go_at_call 8; refine (P2.out _ (G.out.below A4.out.2.2.2)).mono ?_; rintro e w5 ⟨rfl, hb⟩; have A5 := Lib.hid (A4.out.on hb); clear hb))
        all_goals
          go_ret
          exact ⟨rfl, A5.out.2.2.2⟩
      · have KE := Lib.hid (KE.out ma)
        rw [prV_ok ma] at P1
        clear ma IN
        cases mb : mayB vb bb
        · rw [show prV vb bb = .tuple #[.string ⟨#[]⟩, .int .i64 2] by unfold prV; rw [mb]; rfl] at P2
          clear mb PV KE
          go_upto_region 6 with (first
            | (refine wl_load rfl _ _ rfl _ rfl _ (ld_addr la A3.out.1) ?_)
            | (go_at_call 8; refine (P1.out _ (G.out.below A3.out.2.2.2)).mono ?_; rintro e w4 ⟨rfl, hb⟩; have A4 := Lib.hid (A3.out.on hb); clear hb))
          clear A3
          go_wp2_with (first
            | (refine wl_load rfl _ _ rfl _ rfl _ (ld_addr lb A4.out.2.1) ?_)
            | (go_at_call 8; refine (P2.out _ (G.out.below A4.out.2.2.2)).mono ?_; rintro e w5 ⟨rfl, hb⟩; have A5 := Lib.hid (A4.out.on hb); clear hb))
          go_ret
          exact ⟨rfl, A5.out.2.2.2⟩
        · have k := KE.out mb
          rw [prV_ok mb] at P2
          rw [d] at k
          clear mb PV KE d
          generalize str (tx va ba) = sa at *
          generalize str (tx vb bb) = sb at *
          go_upto_region 6 with (first
            | (refine wl_load rfl _ _ rfl _ rfl _ (ld_addr la A3.out.1) ?_)
            | (go_at_call 8; refine (P1.out _ (G.out.below A3.out.2.2.2)).mono ?_; rintro e w4 ⟨rfl, hb⟩; have A4 := Lib.hid (A3.out.on hb); clear hb))
          clear A3
          go_upto_region 7 with (first
            | (refine wl_load rfl _ _ rfl _ rfl _ (ld_addr lb A4.out.2.1) ?_)
            | (go_at_call 8; refine (P2.out _ (G.out.below A4.out.2.2.2)).mono ?_; rintro e w5 ⟨rfl, hb⟩; have A5 := Lib.hid (A4.out.on hb); clear hb))
          clear A4
          go_wp2_with (first
            | (refine wl_load rfl _ _ rfl _ rfl _ (ld_addr la A5.out.1) ?_)
            | (refine wl_load rfl _ _ rfl _ rfl _ (ld_addr lb A5.out.2.1) ?_))
          go_ret
          exact ⟨rfl, A5.out.2.2.2⟩
    · rw [x3] at L4
      have x4 := TR.out x3
      rw [x4] at L5
      clear TR x3 x4
      refine wp_region_quiet_below (by kernel_rfl) (by kernel_rfl) ?_
      repeat (first
        | ((first | refine q_load rfl _ _ rfl _ rfl _ (A2.out.1.q_addr la) ?_ | refine q_load rfl _ _ rfl _ rfl _ (A2.out.2.1.q_addr lb) ?_ | refine q_load rfl _ _ rfl _ rfl _ (A2.out.2.2.1.q_addr lc) ?_); (try simp only [Act.put, List.setIfInBounds_toArray, List.set_cons_zero, List.set_cons_succ]))
        | (go_big_quiet_step (first | (with_reducible exact (Calls.regrown_of (L1.out _))) | (with_reducible exact (Calls.regrown_of (L2.out _))) | (with_reducible exact (Calls.regrown_of (L3.out _))) | (with_reducible exact (Calls.regrown_of (L4.out _))) | (with_reducible exact (Calls.regrown_of (L5.out _))))))
      (refine wpQuiet_nil ?_; intro _ hw'; obtain ⟨⟨dq, osq⟩, hw''⟩ := hw'; subst hw'')
      have A3 := Lib.hid (A2.out.on (below_quiet dq osq))
      clear A2 L1 L2 L3
      generalize grow (redrawn w2 dq) osq = w3 at *
      cases ma : mayB va ba
      · rw [show prV va ba = .tuple #[.string ⟨#[]⟩, .int .i64 2] by unfold prV; rw [ma]; rfl] at P1
        rw [PV.out] at P2
        clear ma IN KE PV
        go_upto_region 6 with (first
          | (refine wl_load rfl _ _ rfl _ rfl _ (ld_addr la A3.out.1) ?_)
          | (go_at_call 8; refine (P1.out _ (G.out.below A3.out.2.2.2)).mono ?_; rintro e w4 ⟨rfl, hb⟩; have A4 := Lib.hid (A3.out.on hb); clear hb))
        clear A3
        go_wp2_with (first
          | (refine wl_load rfl _ _ rfl _ rfl _ (ld_addr lb A4.out.2.1) ?_)
          | (go_at_call 8; refine (P2.out _ (G.out.below A4.out.2.2.2)).mono ?_; rintro e w5 ⟨rfl, hb⟩; have A5 := Lib.hid (A4.out.on hb); clear hb))
        all_goals
          go_ret
          exact ⟨rfl, A5.out.2.2.2⟩
      · have KE := Lib.hid (KE.out ma)
        rw [prV_ok ma] at P1
        clear ma IN
        cases mb : mayB vb bb
        · rw [show prV vb bb = .tuple #[.string ⟨#[]⟩, .int .i64 2] by unfold prV; rw [mb]; rfl] at P2
          clear mb PV KE
          go_upto_region 6 with (first
            | (refine wl_load rfl _ _ rfl _ rfl _ (ld_addr la A3.out.1) ?_)
            | (go_at_call 8; refine (P1.out _ (G.out.below A3.out.2.2.2)).mono ?_; rintro e w4 ⟨rfl, hb⟩; have A4 := Lib.hid (A3.out.on hb); clear hb))
          clear A3
          go_wp2_with (first
            | (refine wl_load rfl _ _ rfl _ rfl _ (ld_addr lb A4.out.2.1) ?_)
            | (go_at_call 8; refine (P2.out _ (G.out.below A4.out.2.2.2)).mono ?_; rintro e w5 ⟨rfl, hb⟩; have A5 := Lib.hid (A4.out.on hb); clear hb))
          go_ret
          exact ⟨rfl, A5.out.2.2.2⟩
        · have k := KE.out mb
          rw [prV_ok mb] at P2
          rw [d] at k
          clear mb PV KE d
          generalize str (tx va ba) = sa at *
          generalize str (tx vb bb) = sb at *
          go_upto_region 6 with (first
            | (refine wl_load rfl _ _ rfl _ rfl _ (ld_addr la A3.out.1) ?_)
            | (go_at_call 8; refine (P1.out _ (G.out.below A3.out.2.2.2)).mono ?_; rintro e w4 ⟨rfl, hb⟩; have A4 := Lib.hid (A3.out.on hb); clear hb))
          clear A3
          go_upto_region 7 with (first
            | (refine wl_load rfl _ _ rfl _ rfl _ (ld_addr lb A4.out.2.1) ?_)
            | (go_at_call 8; refine (P2.out _ (G.out.below A4.out.2.2.2)).mono ?_; rintro e w5 ⟨rfl, hb⟩; have A5 := Lib.hid (A4.out.on hb); clear hb))
          clear A4
          go_wp2_with (first
            | (refine wl_load rfl _ _ rfl _ rfl _ (ld_addr la A5.out.1) ?_)
            | (refine wl_load rfl _ _ rfl _ rfl _ (ld_addr lb A5.out.2.1) ?_))
          go_ret
          exact ⟨rfl, A5.out.2.2.2⟩
  · rw [d] at e1
    rw [x1] at L2
    rw [x2] at L3
    clear TR x1 x2
    refine wp_region_quiet_below (by kernel_rfl) (by kernel_rfl) ?_
    repeat (first
      | ((first | refine q_load rfl _ _ rfl _ rfl _ (A2.out.1.q_addr la) ?_ | refine q_load rfl _ _ rfl _ rfl _ (A2.out.2.1.q_addr lb) ?_ | refine q_load rfl _ _ rfl _ rfl _ (A2.out.2.2.1.q_addr lc) ?_); (try simp only [Act.put, List.setIfInBounds_toArray, List.set_cons_zero, List.set_cons_succ]))
      | (go_big_quiet_step (first | (with_reducible exact (Calls.regrown_of (L1.out _))) | (with_reducible exact (Calls.regrown_of (L2.out _))) | (with_reducible exact (Calls.regrown_of (L3.out _))) | (with_reducible exact (Calls.regrown_of (L4.out _))) | (with_reducible exact (Calls.regrown_of (L5.out _))))))
    (refine wpQuiet_nil ?_; intro _ hw'; obtain ⟨⟨dq, osq⟩, hw''⟩ := hw'; subst hw'')
    have A3 := Lib.hid (A2.out.on (below_quiet dq osq))
    clear A2 L1 L2 L3
    generalize grow (redrawn w2 dq) osq = w3 at *
    cases ma : mayB va ba
    · rw [show prV va ba = .tuple #[.string ⟨#[]⟩, .int .i64 2] by unfold prV; rw [ma]; rfl] at P1
      rw [PV.out] at P2
      clear ma IN KE PV
      go_upto_region 6 with (first
        | (refine wl_load rfl _ _ rfl _ rfl _ (ld_addr la A3.out.1) ?_)
        | (go_at_call 8; refine (P1.out _ (G.out.below A3.out.2.2.2)).mono ?_; rintro e w4 ⟨rfl, hb⟩; have A4 := Lib.hid (A3.out.on hb); clear hb))
      clear A3
      go_wp2_with (first
        | (refine wl_load rfl _ _ rfl _ rfl _ (ld_addr lb A4.out.2.1) ?_)
        | (go_at_call 8; refine (P2.out _ (G.out.below A4.out.2.2.2)).mono ?_; rintro e w5 ⟨rfl, hb⟩; have A5 := Lib.hid (A4.out.on hb); clear hb))
      all_goals
        go_ret
        exact ⟨rfl, A5.out.2.2.2⟩
    · have KE := Lib.hid (KE.out ma)
      rw [prV_ok ma] at P1
      clear ma IN
      cases mb : mayB vb bb
      · rw [show prV vb bb = .tuple #[.string ⟨#[]⟩, .int .i64 2] by unfold prV; rw [mb]; rfl] at P2
        clear mb PV KE
        go_upto_region 6 with (first
          | (refine wl_load rfl _ _ rfl _ rfl _ (ld_addr la A3.out.1) ?_)
          | (go_at_call 8; refine (P1.out _ (G.out.below A3.out.2.2.2)).mono ?_; rintro e w4 ⟨rfl, hb⟩; have A4 := Lib.hid (A3.out.on hb); clear hb))
        clear A3
        go_wp2_with (first
          | (refine wl_load rfl _ _ rfl _ rfl _ (ld_addr lb A4.out.2.1) ?_)
          | (go_at_call 8; refine (P2.out _ (G.out.below A4.out.2.2.2)).mono ?_; rintro e w5 ⟨rfl, hb⟩; have A5 := Lib.hid (A4.out.on hb); clear hb))
        go_ret
        exact ⟨rfl, A5.out.2.2.2⟩
      · have k := KE.out mb
        rw [prV_ok mb] at P2
        rw [d] at k
        clear mb PV KE d
        generalize str (tx va ba) = sa at *
        generalize str (tx vb bb) = sb at *
        go_upto_region 6 with (first
          | (refine wl_load rfl _ _ rfl _ rfl _ (ld_addr la A3.out.1) ?_)
          | (go_at_call 8; refine (P1.out _ (G.out.below A3.out.2.2.2)).mono ?_; rintro e w4 ⟨rfl, hb⟩; have A4 := Lib.hid (A3.out.on hb); clear hb))
        clear A3
        go_upto_region 7 with (first
          | (refine wl_load rfl _ _ rfl _ rfl _ (ld_addr lb A4.out.2.1) ?_)
          | (go_at_call 8; refine (P2.out _ (G.out.below A4.out.2.2.2)).mono ?_; rintro e w5 ⟨rfl, hb⟩; have A5 := Lib.hid (A4.out.on hb); clear hb))
        clear A4
        go_wp2_with (first
          | (refine wl_load rfl _ _ rfl _ rfl _ (ld_addr la A5.out.1) ?_)
          | (refine wl_load rfl _ _ rfl _ rfl _ (ld_addr lb A5.out.2.1) ?_))
        go_ret
        exact ⟨rfl, A5.out.2.2.2⟩
end Go.Proofs.YthghanidabmfgaaGreatDoor
