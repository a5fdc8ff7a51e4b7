/-
  errors.Join of two errors; whether what a note unwraps to is what it was.
-/
import Derived.Test.YtcipgagpmglikaaGreatDoorPeel6
import Derived.Test.YtcipgagpmglikaaGreatDoorIs
namespace Go.Proofs.YtcipgagpmglikaaGreatDoor
open Go.RowKit Go.Sort
set_option maxRecDepth 8000
/-! ### Not equal -/
section
variable (w : World)
theorem ne_iface (ti tx : TypeId) (ms : Array (String × TypeId)) (vx vy : Value) (hi : Tryz.prog.underlying ti = some (.interface ms)) (hc : (Tryz.prog.info? tx).map (·.comparable) = some true) (b : Bool)
    (h : ∀ d, (Op.equalIn (d + 5) tx vx vy).run Tryz.prog w = .ok b w) : (binOp .neq ti (.iface tx vx) (.iface tx vy)).run Tryz.prog w = .ok (.bool (!b)) w := by
  obtain ⟨i, hi', hcmp⟩ := Option.map_eq_some_iff.1 hc
  have hI : ∀ d, (Op.equalIn (d + 5 + 1) ti (.iface tx vx) (.iface tx vy)).run Tryz.prog w = .ok b w := by
    intro d
    have hd := h d
    generalize d + 5 = e at *
    simp [Op.equalIn, run_underlying hi, typeInfo, hi', hcmp, hd]
  have := hI 9994
  simp only [binOp]
  simp [Op.equal, Op.maxDepth, this]
theorem run_equalIn_ptr_same' (d : Nat) (a : Addr) {j : TypeInfo} (hj : Tryz.prog.info? 79 = some j) : (Op.equalIn (d + 5) 77 (.pointer (some a)) (.pointer (some a))).run Tryz.prog w = .ok true w := by
  have e : d + 5 = (d + 4) + 1 := rfl
  rw [e]
  generalize d + 4 = k
  simp [Op.equalIn, run_underlying Tryz.underlying77, typeInfo, sizeOf, run_sameAddr_same, hj]
theorem ne_note (a : Addr) : (binOp .neq 27 (.iface 77 (.pointer (some a))) (.iface 77 (.pointer (some a)))).run Tryz.prog w = .ok (.bool false) w := by
  refine ne_iface w _ _ _ _ _ Tryz.underlying27 (by kernel_rfl) true fun d => ?_
  have hs : (Tryz.prog.info? 79).map (·.size) = some 2 := by kernel_rfl
  obtain ⟨j, hj, -⟩ := Option.map_eq_some_iff.1 hs
  exact run_equalIn_ptr_same' w d a hj
end
theorem mk2 (W : World) : (Instr.makeSlice 83 (.int .i64 0) (.int .i64 2)).run Tryz.prog W = .ok (.slice (some ⟨W.heap.size, 0, none⟩) 0 2) (W.alloc (.cells #[.nilIface, .nilIface] 27)) := by kernel_rfl
theorem infoE : (Tryz.prog.info? 27).map (fun i => (i.zero, i.size, i.bytes)) = some (some .nilIface, 1, 16) := by kernel_rfl
/-- A row of one value, appended in memory of the call's own; block b stays. -/
def Jo (w W : World) (b : Nat) (xs : List Value) (v : Value) : Prop := Own w W 27 xs v ∧ Blk W b 86 #[v] ∧ v.ownBlock ≠ some b ∧ w.heap.size ≤ b
theorem owns_set {w : World} {B : Nat} {e : TypeId} {v : Value} {n : Nat} {xs : List Value} (h : w.ownsRow B e 1 v n xs) {a : Addr} (ha : v.ownBlock ≠ some a.block) (x : Value) : (w.setCell a x).ownsRow B e 1 v n xs := by
  obtain ⟨h1, h⟩ := h
  refine ⟨h1, h.imp id ?_⟩
  rintro ⟨g, cap, cur, e1, e2, hg, r⟩
  refine ⟨g, cap, cur, e1, e2, ?_, r⟩
  subst e1
  exact (heap_setCell_other w a g x (fun q => ha (by rw [Value.ownBlock, ← q]))).trans hg
theorem wp_append_err {ops : Array Oper} {rest : List Oper} {o : Oper} {a : Act} {Q : Exit → Act → World → Prop} (hgd : o.guard = none) (sl x : Operand)
    (ho : o.op = .call { callee := .builtin .append, args := #[sl, x], argTypes := #[83, 83] }) (w W : World) (b : Nat) (xs : List Value) (v : Value) (hs : a.eval sl = v) (R : Jo w W b xs v)
    (y : Value) (hy : y.oneCell' = true) (hx : a.eval x = .slice (some ⟨W.heap.size, 0, none⟩) 1 1) (hl : xs.length ≤ 4000)
    (h : ∀ v' w', Own w w' 27 (xs ++ [y]) v' → v'.ownBlock ≠ some b → Blk w' b 86 #[v] → wpList Tryz.prog ops Q rest (a.put o.dst v') w') : wpList Tryz.prog ops Q (o :: rest) a (W.alloc (.cells #[y] 27)) := by
  have lt := R.2.1.lt
  have RB := R.2.1
  refine wp_append_any hgd sl x 83 27 .nilIface 16 Tryz.underlying83 infoE rfl (by decide) ho w _ xs v hs (R.1.on (below_alloc _ _)) ⟨W.heap.size, 0, none⟩ 1 1 [y] hx rfl (fun j u hj => ?_) (fun u hu => ?_) (by omega) (fun v' w' hown hgrow hat => h v' w' hown ?_ ?_)
  · match j, hj with
    | 0, hj => simp at hj; subst hj; rw [Lib.add_plain]; exact World.cell?_alloc_at _ _ _ _ rfl
    | j + 1, hj => simp at hj
  · simp at hu; subst hu; exact hy
  · rcases hat with q | q
    · rw [q]; exact R.2.2.1
    · rw [q]; intro e; have := Option.some.inj e; simp at this; omega
  · exact (hgrow.block b (by simp; omega) (fun e => R.2.2.1 e.symm)).trans ((heap_alloc_old _ _ lt).trans RB)
set_option maxHeartbeats 1000000 in
theorem t_join2 (a : Nat) (s : ByteArray) (e : Er) (u : Value) (g : Nat) (w : World) (ha : Blk w a 89 #[.string s]) (he : IsEr w e u)
    (hg : Two w g (.iface 87 (.pointer (some ⟨a, 0, none⟩))) u) :
    Calls Tryz.prog 23 #[.slice (some ⟨g, 0, none⟩) 2 2] w fun ex w' => (∃ v, ex = .returned v ∧ IsEr w' (.join a e) v) ∧ Below w.heap.size w w' := by
  obtain ⟨ut, ux, rfl⟩ := he.iface
  have HA := Lib.hid ha
  have HE := Lib.hid he
  have HG := Lib.hid hg
  have c0 := hg.2.1
  have c1 := hg.2.2
  have ms := mk2
  clear ha he hg
  go_enter Tryz.func23, Tryz.ntmps23
  go_wp2
  refine wp_loop_rounds 3 ?_
  rw [rounds_succ]
  go_wp2
  rw [rounds_succ]
  go_wp2
  rw [rounds_succ]
  go_wp2
  have J0 : Hid (Jo w ((w.alloc (.cells #[.nilIface, .nilIface] 27)).alloc (.cells #[.slice (some ⟨w.heap.size, 0, none⟩) 0 2] 86)) (w.heap.size + 1) [] (.slice (some ⟨w.heap.size, 0, none⟩) 0 2)) := Lib.hid
    ⟨⟨⟨rfl, Or.inr ⟨w.heap.size, 2, #[.nilIface, .nilIface], rfl, Nat.le_refl _, (Blk.new w 27 #[.nilIface, .nilIface] rfl).alloc _, by decide, by decide, rfl, rfl⟩⟩, (below_alloc _ _).trans ((below_alloc _ _).mono (below_alloc _ _).size)⟩, Blk.new _ _ _ (by simp), by simp [Value.ownBlock], by omega⟩
  generalize (w.alloc (.cells #[.nilIface, .nilIface] 27)).alloc (.cells #[.slice (some ⟨w.heap.size, 0, none⟩) 0 2] 86) = W0 at *
  generalize w.heap.size + 1 = b at *
  have k0 := (HG.out.on J0.out.1.2).2.1
  have k1 := (HG.out.on J0.out.1.2).2.2
  have kb := J0.out.2.1.cell (j := 0) rfl
  refine wp_loop_rounds 3 ?_
  rw [rounds_succ]
  go_wp2_with (at_builtin; refine wp_append_err rfl _ _ rfl w W0 b [] (.slice (some ⟨w.heap.size, 0, none⟩) 0 2) rfl J0.out (.iface 87 (.pointer (some ⟨a, 0, none⟩))) rfl rfl (by decide) ?_)
  intro v1 w1 o1 n1 b1
  obtain ⟨d1, e1, hv1, -, -⟩ := o1.row
  replace hv1 : v1 = .slice d1 1 e1 := hv1
  subst hv1
  have J1 : Hid (Jo w (w1.setCell ⟨b, 0, none⟩ (.slice d1 1 e1)) b [.iface 87 (.pointer (some ⟨a, 0, none⟩))] (.slice d1 1 e1)) := Lib.hid ⟨⟨owns_set o1.1 n1 (.slice d1 1 e1), o1.2.setCell (by exact J0.out.2.2.2) (.slice d1 1 e1)⟩, b1.put 0 (.slice d1 1 e1), n1, J0.out.2.2.2⟩
  have m0 := b1.cell (j := 0) rfl
  have f0 := b1.free 0
  clear k0 k1 kb o1 n1 b1
  go_wp2
  generalize w1.setCell ⟨b, 0, none⟩ (.slice d1 1 e1) = W1 at *
  have k1 := (HG.out.on J1.out.1.2).2.2
  have kb := J1.out.2.1.cell (j := 0) rfl
  clear m0 f0
  rw [rounds_succ]
  go_wp2_with (at_builtin; refine wp_append_err rfl _ _ rfl w W1 b [.iface 87 (.pointer (some ⟨a, 0, none⟩))] (.slice d1 1 e1) rfl J1.out (.iface ut ux) rfl rfl (by simp) ?_)
  intro v2 w2 o2 n2 b2
  obtain ⟨d2, e2, hv2, -, -⟩ := o2.row
  replace hv2 : v2 = .slice d2 2 e2 := hv2
  subst hv2
  have J2 : Hid (Jo w (w2.setCell ⟨b, 0, none⟩ (.slice d2 2 e2)) b [.iface 87 (.pointer (some ⟨a, 0, none⟩)), .iface ut ux] (.slice d2 2 e2)) := Lib.hid ⟨⟨owns_set o2.1 n2 (.slice d2 2 e2), o2.2.setCell (by exact J1.out.2.2.2) (.slice d2 2 e2)⟩, b2.put 0 (.slice d2 2 e2), n2, J1.out.2.2.2⟩
  have m0 := b2.cell (j := 0) rfl
  have f0 := b2.free 0
  clear k1 kb o2 n2 b2
  go_wp2
  generalize w2.setCell ⟨b, 0, none⟩ (.slice d2 2 e2) = W2 at *
  clear m0 f0
  rw [rounds_succ]
  go_wp2
  go_ret
  have hb := J2.out.1.2
  obtain ⟨ad, c, hv, hc, hx⟩ := J2.out.1.row
  rcases hx with hx | ⟨g', rfl, _, hg', hx⟩
  · cases hx
  · cases hv
    exact ⟨⟨_, rfl, b, g', _, _, s, rfl, J2.out.2.1, ⟨hg', hx 0 _ rfl, hx 1 _ rfl⟩, HA.out.on hb, IsEr.on hb HE.out⟩, hb⟩
end Go.Proofs.YtcipgagpmglikaaGreatDoor
