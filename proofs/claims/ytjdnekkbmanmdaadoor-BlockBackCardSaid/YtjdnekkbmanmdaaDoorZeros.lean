/-
  append(s, make([]byte, k)...) onto a row of the call's own: so many zeros behind it.
-/
import Derived.Test.YtjdnekkbmanmdaaDoorOctF
import Derived.Laws.CopyRow
import Derived.Lib.AppendZerosOnto
namespace Go.Proofs.YtjdnekkbmanmdaaDoor
open Go.RowKit Go.Sort
set_option maxRecDepth 8000
theorem zeros_cells (k : Nat) : (Builtin.zeroCells (Value.int .u8 0).cells k).toList = cellsOf (List.replicate k 0) := by
  apply List.ext_getElem?
  intro j
  simp only [Builtin.zeroCells, Value.cells, cellsOf, Array.toList_map, List.getElem?_map, List.map_replicate]
  by_cases h : j < k
  · simp [h, Nat.mod_one]
  · simp [h]
/-- The row that the builtin makes anew. -/
theorem own_grown {W w : World} {L : List UInt8} (hW : W.heap.size ≤ w.heap.size) (hb : Below W.heap.size W w) (k cap : Nat) (hc : L.length + k ≤ cap) (hm : cap ≤ maxLen) :
    OwnB W (w.drew.alloc (.cells ((cellsOf L).toArray ++ Builtin.zeroCells (Value.int .u8 0).cells k ++ Builtin.zeroCells (Value.int .u8 0).cells (cap - (L.length + k))) 5)) (L ++ List.replicate k 0) (.slice (some ⟨w.heap.size, 0, none⟩) (L.length + k) cap) := by
  have e : (L ++ List.replicate k 0).length = L.length + k := by simp
  have z : ∀ n, (Builtin.zeroCells (Value.int .u8 0).cells n).size = n := fun n => by rw [← Array.length_toList, zeros_cells, cellsOf_length, List.length_replicate]
  refine ⟨⟨by rw [Nat.mul_one], Or.inr ⟨w.heap.size, cap, _, by rw [cellsOf_length, e], hW, row_new w.drew _ rfl, by rw [cellsOf_length, e]; exact hc, hm, ?_, ?_⟩⟩, hb.drew.alloc (by simpa using hW) _⟩
  · simp only [Array.size_append, List.size_toArray, z, cellsOf_length]; omega
  · rw [cellsOf_length, e, Nat.mul_one]
    simp only [Array.toList_append, zeros_cells]
    rw [← cellsOf_append, List.take_append_of_le_length (by rw [cellsOf_length, e]; exact Nat.le_refl _), List.take_of_length_le (by rw [cellsOf_length, e]; exact Nat.le_refl _)]
set_option maxHeartbeats 1000000 in
theorem run_append_zeros {W w : World} {L : List UInt8} {v : Value} (R : OwnB W w L v) (ty : TypeId) (k : Nat) (h0 : 0 < k) (hk : k ≤ 1000) (hl : L.length ≤ 3000000) :
    ∃ v' w', (Builtin.append_ #[23, 3] ty #[v, .int .i64 (k : Int)]).run Tryd.prog w = .ok v' w' ∧ OwnB W w' (L ++ List.replicate k 0) v' := by
  obtain ⟨i0, hi, hz0, hz1, hz2⟩ := info_parts info_byte
  have sz := R.2.size
  have hn63 : ((L.length + k : Nat) : Int) ≤ 9223372036854775807 := by omega
  have cap_ok : ∀ old, L.length + k ≤ grownCap w (L.length + k) old 5 ∧ grownCap w (L.length + k) old 5 ≤ maxLen := fun old => ⟨grownCap_ge w _ old _, grownCap_le_maxLen w _ old _ (by simp only [maxLen]; omega)⟩
  have fits : ∀ old, old < L.length + k → Builtin.nextslicecap (L.length + k) old * i0.bytes ≤ 281474976710656 := fun old h => growslice_fits h (by rw [hz2]; omega)
  rcases R.1.2 with ⟨rfl, hn⟩ | ⟨g, cap, cur, rfl, hbg, hg, hnc, hcm, hcs, htake⟩
  · have e : L = [] := by rw [cellsOf_length] at hn; exact List.eq_nil_of_length_eq_zero hn
    subst e
    have hr := Lib.run_append_grow_zeros (P := Tryd.prog) w 23 3 ty 5 i0 (.int .u8 0) .i64 .i64 Tryd.underlying23 Tryd.underlying3 hi hz0 none 0 0 (cellsOf []) (by rw [run_firstCells_none]; rfl) k h0 (by rw [hz1]; omega) (by omega) (by simp at hn63 ⊢; omega) (by rw [hz2]; omega) (by have := fits 0 (by simp; omega); simpa using this)
    exact ⟨_, _, hr, by have := own_grown (W := W) (w := w) (L := []) sz R.2 k _ (cap_ok 0).1 (cap_ok 0).2; simpa using this⟩
  · rw [cellsOf_length] at hnc htake
    rw [Nat.mul_one] at hcs htake
    rw [cellsOf_length]
    by_cases hroom : L.length + k ≤ cap
    · have hst := run_storeCells_at (P := Tryd.prog) g L.length 5 (cellsOf (List.replicate k 0)) 0 cur w hg (by rw [cellsOf_length, List.length_replicate]; omega) (cellsOf_one _)
      rw [← zeros_cells] at hst
      generalize hw2 : w.setRow g _ = w2 at hst
      have hw : IntKind.i64.wrap (k : Int) = k := by rw [IntKind.wrap_i64]; omega
      have hneg : ¬ ((k : Int) < 0) := by omega
      have h48i : ¬ (281474976710656 < (k : Int) * (i0.bytes : Int)) := by rw [hz2]; omega
      have hns : ¬ (k = 0) := by omega
      have hr : (Builtin.append_ #[23, 3] ty #[.slice (some ⟨g, 0, none⟩) L.length cap, .int .i64 (k : Int)]).run Tryd.prog w = .ok (.slice (some ⟨g, 0, none⟩) (L.length + k) cap) w2 := by
        simp [Builtin.append_, run_underlying Tryd.underlying23, run_underlying Tryd.underlying3, sizeOf, typeInfo, zeroValue, hi, hz0, hz1, asInt, asIntOf, hw, hneg, h48i, hns, hroom, addr_add, hst]
      subst hw2
      refine ⟨_, _, hr, ⟨by rw [Nat.mul_one], Or.inr ⟨g, cap, _, by rw [cellsOf_length]; simp, hbg, setRow_heap w g cur _ _ _ hg, by rw [cellsOf_length]; simpa using hroom, hcm, ?_, ?_⟩⟩, R.2.trans ⟨rfl, rfl, rfl, by simp, fun j hj => setRow_other w g j _ (by omega)⟩⟩
      · simp only [zeros_cells, List.size_toArray, List.length_append, List.length_take, List.length_drop, Array.length_toList, cellsOf_length, List.length_replicate]; omega
      · simp only [zeros_cells, Nat.add_zero, htake, Nat.mul_one, cellsOf_length, List.length_append, List.length_replicate]
        rw [← cellsOf_append, List.take_append_of_le_length (by rw [cellsOf_length]; simp), List.take_of_length_le (by rw [cellsOf_length]; simp)]
    · have hc : ∀ j u, (cellsOf L)[j]? = some u → w.drew.cell? ((⟨g, 0, none⟩ : Addr).add j) = some u := R.1.cells (g := g) rfl
      have hr := Lib.run_append_grow_zeros (P := Tryd.prog) w 23 3 ty 5 i0 (.int .u8 0) .i64 .i64 Tryd.underlying23 Tryd.underlying3 hi hz0 (some ⟨g, 0, none⟩) L.length cap (cellsOf L)
        (run_firstCells_some (P := Tryd.prog) w.drew i0.size L.length ⟨g, 0, none⟩ L.length cap (cellsOf L) (by rw [cellsOf_length, hz1, Nat.mul_one]) hc) k h0 (by rw [hz1]; omega) (by omega) hn63 (by rw [hz2]; omega) (fits cap (by omega))
      exact ⟨_, _, hr, own_grown sz R.2 k _ (cap_ok cap).1 (cap_ok cap).2⟩
/-- At the operation, for the walk. -/
theorem wp_append_zeros {ops : Array Oper} {rest : List Oper} {o : Oper} {a : Act} {Q : Exit → Act → World → Prop} (hgd : o.guard = none) (s x : Operand)
    (ho : o.op = .call { callee := .builtin .append, args := #[s, x], argTypes := #[23, 3] }) (W wr : World) (L : List UInt8) (v : Value) (hs : a.eval s = v) (R : OwnB W wr L v)
    (k : Nat) (hx : a.eval x = .int .i64 (k : Int)) (h0 : 0 < k) (hk : k ≤ 1000) (hl : L.length ≤ 3000000)
    (h : ∀ v' w', OwnB W w' (L ++ List.replicate k 0) v' → wpList Tryd.prog ops Q rest (a.put o.dst v') w') : wpList Tryd.prog ops Q (o :: rest) a wr := by
  refine wpList_plain hgd fun K hK => ?_
  obtain ⟨v', w', hr, hO⟩ := run_append_zeros R o.type k h0 hk hl
  unfold Oper.wp execOp
  simp only [ho, resolve, invoke, builtin, Sem.run_bind, Sem.run_pure, Result.andThen_ok, List.map_toArray, List.map_cons, List.map_nil, hs, hx, hr]
  exact hK _ _ (h v' w' hO)
end Go.Proofs.YtjdnekkbmanmdaaDoor
