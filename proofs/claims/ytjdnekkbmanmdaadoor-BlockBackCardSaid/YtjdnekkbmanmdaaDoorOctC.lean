/-
  Rows of bytes that a call owns: one byte more; package octet's appendLowest.
-/
import Derived.Test.YtjdnekkbmanmdaaDoorOctA
import Derived.Test.YtjdnekkbmanmdaaDoorOwn
namespace Go.Proofs.YtjdnekkbmanmdaaDoor
open Go.RowKit Go.Sort
set_option maxRecDepth 8000
/-- A row of bytes of the call's own. -/
def OwnB (W w : World) (L : List UInt8) (v : Value) : Prop := Own W w 5 (cellsOf L) v
theorem OwnB.on {W w1 w2 : World} {L : List UInt8} {v : Value} (h : OwnB W w1 L v) (hb : Below w1.heap.size w1 w2) : OwnB W w2 L v := Own.on h hb
theorem OwnB.below {W w : World} {L : List UInt8} {v : Value} (h : OwnB W w L v) : Below W.heap.size W w := h.2
theorem OwnB.byt {W w : World} {L : List UInt8} {v : Value} (h : OwnB W w L v) : Byt w v L := by
  obtain ⟨a, c, e, hc, h⟩ := Own.row h
  rw [cellsOf_length] at e hc
  refine ⟨a, c, e, hc, ?_⟩
  rcases h with h | ⟨g, ea, _, hg, hx⟩
  · left; cases L with
    | nil => rfl
    | cons _ _ => simp [cellsOf] at h
  · right
    refine ⟨g, 0, ea, hg, fun j hj => ?_⟩
    rw [Nat.zero_add]
    exact hx j _ (by simp [cellsOf, hj])
theorem OwnB.drew {W w : World} {L : List UInt8} {v : Value} (h : OwnB W w L v) : OwnB W w.drew L v := ⟨h.1, Below.drew h.2⟩
theorem wp_append_u8 {ops : Array Oper} {rest : List Oper} {o : Oper} {a : Act} {Q : Exit → Act → World → Prop} (hgd : o.guard = none) (s x : Operand)
    (ho : o.op = .call { callee := .builtin .append, args := #[s, x], argTypes := #[23, 23] }) (W wr : World) (L : List UInt8) (v : Value) (hs : a.eval s = v) (R : OwnB W wr L v)
    (y : Value) (c : UInt8) (hy : y = .int .u8 (c.toNat : Int)) (hx : a.eval x = .slice (some ⟨wr.heap.size, 0, none⟩) 1 1) (hl : L.length ≤ 3000000)
    (h : ∀ v' w', OwnB W w' (L ++ [c]) v' → wpList Tryd.prog ops Q rest (a.put o.dst v') w') : wpList Tryd.prog ops Q (o :: rest) a (wr.alloc (.cells #[y] 5)) := by
  subst hy
  refine wp_append_any hgd s x 23 5 (.int .u8 0) 1 Tryd.underlying23 info_byte rfl (by decide) ho W _ (cellsOf L) v hs (R.on (below_alloc _ _)) ⟨wr.heap.size, 0, none⟩ 1 1 [.int .u8 (c.toNat : Int)] hx rfl (fun j u hj => ?_) (fun u hu => ?_) (by rw [cellsOf_length]; omega) (fun v' w' hown _ _ => h v' w' ?_)
  · match j, hj with
    | 0, hj => simp at hj; subst hj; rw [addr_add]; exact World.cell?_alloc_at _ _ _ _ rfl
    | j + 1, hj => simp at hj
  · simp at hu; subst hu; rfl
  · unfold OwnB; rw [cellsOf_append]; exact hown
theorem cellsOf_one (l : List UInt8) : ∀ v ∈ cellsOf l, v.oneCell' = true := by
  intro v hv
  obtain ⟨c, _, rfl⟩ := List.mem_map.1 hv
  rfl
/-- Nothing is appended. -/
theorem run_append_none (w : World) (B n c : Nat) (ty : TypeId) (v : Value) (vs : List Value) (h : w.ownsRow B 5 1 v n vs) : (Builtin.append_ #[23, 23] ty #[v, .slice none 0 c]).run Tryd.prog w = .ok v w := by
  obtain ⟨i0, hi, _, _, _⟩ := info_parts info_byte
  obtain ⟨_, ⟨rfl, rfl⟩ | ⟨g, cap, cur, rfl, _, _, hn, _⟩⟩ := h
  · simp [Builtin.append_, run_underlying Tryd.underlying23, sizeOf, typeInfo, hi, Builtin.lenOf, Builtin.firstCells]
  · simp [Builtin.append_, run_underlying Tryd.underlying23, sizeOf, typeInfo, hi, Builtin.lenOf, Builtin.firstCells, hn, storeCells]
/-- Whatever bytes behind a row of the call's own. -/
theorem wp_append_bytes {ops : Array Oper} {rest : List Oper} {o : Oper} {a : Act} {Q : Exit → Act → World → Prop} (hgd : o.guard = none) (s x : Operand)
    (ho : o.op = .call { callee := .builtin .append, args := #[s, x], argTypes := #[23, 23] }) (W wr : World) (L : List UInt8) (v : Value) (hs : a.eval s = v) (R : OwnB W wr L v)
    (A : Option Addr) (q : List UInt8) (n c : Nat) (hn : n = q.length) (hx : a.eval x = .slice A n c) (hq : BytA wr A q) (hl : L.length + q.length ≤ 3000000)
    (h : ∀ v' w', OwnB W w' (L ++ q) v' → wpList Tryd.prog ops Q rest (a.put o.dst v') w') : wpList Tryd.prog ops Q (o :: rest) a wr := by
  subst hn
  rcases A with _ | ad
  · have q0 : q = [] := by
      rcases hq with h | ⟨_, _, e, _⟩
      · exact h
      · cases e
    subst q0
    refine wpList_plain hgd fun K hK => ?_
    have hr := run_append_none wr _ _ c o.type v _ R.1
    unfold Oper.wp execOp
    simp only [ho, resolve, invoke, builtin, Sem.run_bind, Sem.run_pure, Result.andThen_ok, List.map_toArray, List.map_cons, List.map_nil, hs, hx, List.length_nil, hr]
    exact hK _ _ (h v wr (by rw [List.append_nil]; exact R))
  · refine wp_append_any hgd s x 23 5 (.int .u8 0) 1 Tryd.underlying23 info_byte rfl (by decide) ho W _ (cellsOf L) v hs R ad q.length c (cellsOf q) hx (cellsOf_length q) (fun j u hj => ?_) (cellsOf_one q) (by rw [cellsOf_length]; omega) (fun v' w' hown _ _ => h v' w' ?_)
    · rcases hq with rfl | ⟨b, o', e, _, hc⟩
      · simp [cellsOf] at hj
      · cases e
        obtain ⟨hlt, e⟩ := List.getElem?_eq_some_iff.1 hj
        rw [cellsOf_length] at hlt
        rw [addr_add, hc j hlt, ← e]
        simp [cellsOf]
    · unfold OwnB; rw [cellsOf_append]; exact hown
theorem u8_div (n D : Nat) : Value.int .u8 ((n : Int) / (D : Nat) % 256) = .int .u8 ((UInt8.ofNat (n / D)).toNat : Int) := by
  rw [UInt8.toNat_ofNat']; congr 1
theorem u8_low (n : Nat) : Value.int .u8 ((n : Int) % 256) = .int .u8 ((UInt8.ofNat n).toNat : Int) := by
  rw [UInt8.toNat_ofNat']; congr 1
theorem low_rev_1 (n : Nat) (L : List UInt8) : L ++ (lowB n 1).reverse = L ++ [UInt8.ofNat n] := by simp [lowB]
theorem low_rev_2 (n : Nat) (L : List UInt8) : L ++ (lowB n 2).reverse = L ++ [UInt8.ofNat (n / 256), UInt8.ofNat n] := by simp [lowB]
theorem low_rev_3 (n : Nat) (L : List UInt8) : L ++ (lowB n 3).reverse = L ++ [UInt8.ofNat (n / 65536), UInt8.ofNat (n / 256), UInt8.ofNat n] := by simp [lowB, Nat.div_div_eq_div_mul]
theorem low_rev_4 (n : Nat) (L : List UInt8) : L ++ (lowB n 4).reverse = L ++ [UInt8.ofNat (n / 16777216), UInt8.ofNat (n / 65536), UInt8.ofNat (n / 256), UInt8.ofNat n] := by simp [lowB, Nat.div_div_eq_div_mul]
theorem low_rev_5 (n : Nat) (L : List UInt8) : L ++ (lowB n 5).reverse = L ++ [UInt8.ofNat (n / 4294967296), UInt8.ofNat (n / 16777216), UInt8.ofNat (n / 65536), UInt8.ofNat (n / 256), UInt8.ofNat n] := by simp [lowB, Nat.div_div_eq_div_mul]
theorem low_rev_6 (n : Nat) (L : List UInt8) : L ++ (lowB n 6).reverse = L ++ [UInt8.ofNat (n / 1099511627776), UInt8.ofNat (n / 4294967296), UInt8.ofNat (n / 16777216), UInt8.ofNat (n / 65536), UInt8.ofNat (n / 256), UInt8.ofNat n] := by simp [lowB, Nat.div_div_eq_div_mul]
theorem low_rev_7 (n : Nat) (L : List UInt8) : L ++ (lowB n 7).reverse = L ++ [UInt8.ofNat (n / 281474976710656), UInt8.ofNat (n / 1099511627776), UInt8.ofNat (n / 4294967296), UInt8.ofNat (n / 16777216), UInt8.ofNat (n / 65536), UInt8.ofNat (n / 256), UInt8.ofNat n] := by simp [lowB, Nat.div_div_eq_div_mul]
theorem low_rev_8 (n : Nat) (L : List UInt8) : L ++ (lowB n 8).reverse = L ++ [UInt8.ofNat (n / 72057594037927936), UInt8.ofNat (n / 281474976710656), UInt8.ofNat (n / 1099511627776), UInt8.ofNat (n / 4294967296), UInt8.ofNat (n / 16777216), UInt8.ofNat (n / 65536), UInt8.ofNat (n / 256), UInt8.ofNat n] := by simp [lowB, Nat.div_div_eq_div_mul]
def AppOut (W : World) (L : List UInt8) (e : Ending) (w' : World) : Prop := ∃ v', e = .returned v' ∧ OwnB W w' L v'
--<app
set_option maxHeartbeats 1000000 in
theorem app_1 (W : World) (L : List UInt8) (v : Value) (n : Nat) (hL : L.length ≤ 2000000) (w : World) (R0 : OwnB W w L v) :
    Calls Tryd.prog 20 #[v, .int .u64 n, .int .i64 1] w (AppOut W (L ++ (lowB n 1).reverse)) := by
  have R := Lib.hid R0
  clear R0
  have E := Lib.hid (low_rev_1 n L)
  rw [E.out]
  go_enter Tryd.func20, Tryd.ntmps20
  have HY := Lib.hid (show Value.int .u8 ((n : Int) % 256) = .int .u8 ((UInt8.ofNat n).toNat : Int) from u8_low n)
  go_wp2_with (at_builtin; refine wp_append_u8 rfl _ _ rfl W _ _ _ rfl R.out _ _ HY.out rfl (by omega) ?_)
  clear R HY
  intro v w R0
  have R := Lib.hid R0
  clear R0
  go_wp2
  go_ret
  exact ⟨_, rfl, R.out⟩
set_option maxHeartbeats 1000000 in
theorem app_2 (W : World) (L : List UInt8) (v : Value) (n : Nat) (hL : L.length ≤ 2000000) (w : World) (R0 : OwnB W w L v) :
    Calls Tryd.prog 20 #[v, .int .u64 n, .int .i64 2] w (AppOut W (L ++ (lowB n 2).reverse)) := by
  have R := Lib.hid R0
  clear R0
  have E := Lib.hid (low_rev_2 n L)
  rw [E.out]
  go_enter Tryd.func20, Tryd.ntmps20
  have HY := Lib.hid (show Value.int .u8 ((n : Int) / 256 % 256) = .int .u8 ((UInt8.ofNat (n / 256)).toNat : Int) from u8_div n 256)
  go_wp2_with (at_builtin; refine wp_append_u8 rfl _ _ rfl W _ _ _ rfl R.out _ _ HY.out rfl (by omega) ?_)
  clear R HY
  intro v w R0
  have R := Lib.hid R0
  clear R0
  have HY := Lib.hid (show Value.int .u8 ((n : Int) % 256) = .int .u8 ((UInt8.ofNat n).toNat : Int) from u8_low n)
  go_wp2_with (at_builtin; refine wp_append_u8 rfl _ _ rfl W _ _ _ rfl R.out _ _ HY.out rfl (by simp only [List.length_append, List.length_cons, List.length_nil]; omega) ?_)
  clear R HY
  intro v w R0
  have R := Lib.hid R0
  clear R0
  go_wp2
  go_ret
  exact ⟨_, rfl, R.out⟩
set_option maxHeartbeats 1000000 in
theorem app_3 (W : World) (L : List UInt8) (v : Value) (n : Nat) (hL : L.length ≤ 2000000) (w : World) (R0 : OwnB W w L v) :
    Calls Tryd.prog 20 #[v, .int .u64 n, .int .i64 3] w (AppOut W (L ++ (lowB n 3).reverse)) := by
  have R := Lib.hid R0
  clear R0
  have E := Lib.hid (low_rev_3 n L)
  rw [E.out]
  go_enter Tryd.func20, Tryd.ntmps20
  have HY := Lib.hid (show Value.int .u8 ((n : Int) / 65536 % 256) = .int .u8 ((UInt8.ofNat (n / 65536)).toNat : Int) from u8_div n 65536)
  go_wp2_with (at_builtin; refine wp_append_u8 rfl _ _ rfl W _ _ _ rfl R.out _ _ HY.out rfl (by omega) ?_)
  clear R HY
  intro v w R0
  have R := Lib.hid R0
  clear R0
  have HY := Lib.hid (show Value.int .u8 ((n : Int) / 256 % 256) = .int .u8 ((UInt8.ofNat (n / 256)).toNat : Int) from u8_div n 256)
  go_wp2_with (at_builtin; refine wp_append_u8 rfl _ _ rfl W _ _ _ rfl R.out _ _ HY.out rfl (by simp only [List.length_append, List.length_cons, List.length_nil]; omega) ?_)
  clear R HY
  intro v w R0
  have R := Lib.hid R0
  clear R0
  have HY := Lib.hid (show Value.int .u8 ((n : Int) % 256) = .int .u8 ((UInt8.ofNat n).toNat : Int) from u8_low n)
  go_wp2_with (at_builtin; refine wp_append_u8 rfl _ _ rfl W _ _ _ rfl R.out _ _ HY.out rfl (by simp only [List.length_append, List.length_cons, List.length_nil]; omega) ?_)
  clear R HY
  intro v w R0
  have R := Lib.hid R0
  clear R0
  go_wp2
  go_ret
  exact ⟨_, rfl, R.out⟩
set_option maxHeartbeats 1000000 in
theorem app_4 (W : World) (L : List UInt8) (v : Value) (n : Nat) (hL : L.length ≤ 2000000) (w : World) (R0 : OwnB W w L v) :
    Calls Tryd.prog 20 #[v, .int .u64 n, .int .i64 4] w (AppOut W (L ++ (lowB n 4).reverse)) := by
  have R := Lib.hid R0
  clear R0
  have E := Lib.hid (low_rev_4 n L)
  rw [E.out]
  go_enter Tryd.func20, Tryd.ntmps20
  have HY := Lib.hid (show Value.int .u8 ((n : Int) / 16777216 % 256) = .int .u8 ((UInt8.ofNat (n / 16777216)).toNat : Int) from u8_div n 16777216)
  go_wp2_with (at_builtin; refine wp_append_u8 rfl _ _ rfl W _ _ _ rfl R.out _ _ HY.out rfl (by omega) ?_)
  clear R HY
  intro v w R0
  have R := Lib.hid R0
  clear R0
  have HY := Lib.hid (show Value.int .u8 ((n : Int) / 65536 % 256) = .int .u8 ((UInt8.ofNat (n / 65536)).toNat : Int) from u8_div n 65536)
  go_wp2_with (at_builtin; refine wp_append_u8 rfl _ _ rfl W _ _ _ rfl R.out _ _ HY.out rfl (by simp only [List.length_append, List.length_cons, List.length_nil]; omega) ?_)
  clear R HY
  intro v w R0
  have R := Lib.hid R0
  clear R0
  have HY := Lib.hid (show Value.int .u8 ((n : Int) / 256 % 256) = .int .u8 ((UInt8.ofNat (n / 256)).toNat : Int) from u8_div n 256)
  go_wp2_with (at_builtin; refine wp_append_u8 rfl _ _ rfl W _ _ _ rfl R.out _ _ HY.out rfl (by simp only [List.length_append, List.length_cons, List.length_nil]; omega) ?_)
  clear R HY
  intro v w R0
  have R := Lib.hid R0
  clear R0
  have HY := Lib.hid (show Value.int .u8 ((n : Int) % 256) = .int .u8 ((UInt8.ofNat n).toNat : Int) from u8_low n)
  go_wp2_with (at_builtin; refine wp_append_u8 rfl _ _ rfl W _ _ _ rfl R.out _ _ HY.out rfl (by simp only [List.length_append, List.length_cons, List.length_nil]; omega) ?_)
  clear R HY
  intro v w R0
  have R := Lib.hid R0
  clear R0
  go_wp2
  go_ret
  exact ⟨_, rfl, R.out⟩
set_option maxHeartbeats 1000000 in
theorem app_5 (W : World) (L : List UInt8) (v : Value) (n : Nat) (hL : L.length ≤ 2000000) (w : World) (R0 : OwnB W w L v) :
    Calls Tryd.prog 20 #[v, .int .u64 n, .int .i64 5] w (AppOut W (L ++ (lowB n 5).reverse)) := by
  have R := Lib.hid R0
  clear R0
  have E := Lib.hid (low_rev_5 n L)
  rw [E.out]
  go_enter Tryd.func20, Tryd.ntmps20
  have HY := Lib.hid (show Value.int .u8 ((n : Int) / 4294967296 % 256) = .int .u8 ((UInt8.ofNat (n / 4294967296)).toNat : Int) from u8_div n 4294967296)
  go_wp2_with (at_builtin; refine wp_append_u8 rfl _ _ rfl W _ _ _ rfl R.out _ _ HY.out rfl (by omega) ?_)
  clear R HY
  intro v w R0
  have R := Lib.hid R0
  clear R0
  have HY := Lib.hid (show Value.int .u8 ((n : Int) / 16777216 % 256) = .int .u8 ((UInt8.ofNat (n / 16777216)).toNat : Int) from u8_div n 16777216)
  go_wp2_with (at_builtin; refine wp_append_u8 rfl _ _ rfl W _ _ _ rfl R.out _ _ HY.out rfl (by simp only [List.length_append, List.length_cons, List.length_nil]; omega) ?_)
  clear R HY
  intro v w R0
  have R := Lib.hid R0
  clear R0
  have HY := Lib.hid (show Value.int .u8 ((n : Int) / 65536 % 256) = .int .u8 ((UInt8.ofNat (n / 65536)).toNat : Int) from u8_div n 65536)
  go_wp2_with (at_builtin; refine wp_append_u8 rfl _ _ rfl W _ _ _ rfl R.out _ _ HY.out rfl (by simp only [List.length_append, List.length_cons, List.length_nil]; omega) ?_)
  clear R HY
  intro v w R0
  have R := Lib.hid R0
  clear R0
  have HY := Lib.hid (show Value.int .u8 ((n : Int) / 256 % 256) = .int .u8 ((UInt8.ofNat (n / 256)).toNat : Int) from u8_div n 256)
  go_wp2_with (at_builtin; refine wp_append_u8 rfl _ _ rfl W _ _ _ rfl R.out _ _ HY.out rfl (by simp only [List.length_append, List.length_cons, List.length_nil]; omega) ?_)
  clear R HY
  intro v w R0
  have R := Lib.hid R0
  clear R0
  have HY := Lib.hid (show Value.int .u8 ((n : Int) % 256) = .int .u8 ((UInt8.ofNat n).toNat : Int) from u8_low n)
  go_wp2_with (at_builtin; refine wp_append_u8 rfl _ _ rfl W _ _ _ rfl R.out _ _ HY.out rfl (by simp only [List.length_append, List.length_cons, List.length_nil]; omega) ?_)
  clear R HY
  intro v w R0
  have R := Lib.hid R0
  clear R0
  go_wp2
  go_ret
  exact ⟨_, rfl, R.out⟩
set_option maxHeartbeats 1000000 in
theorem app_6 (W : World) (L : List UInt8) (v : Value) (n : Nat) (hL : L.length ≤ 2000000) (w : World) (R0 : OwnB W w L v) :
    Calls Tryd.prog 20 #[v, .int .u64 n, .int .i64 6] w (AppOut W (L ++ (lowB n 6).reverse)) := by
  have R := Lib.hid R0
  clear R0
  have E := Lib.hid (low_rev_6 n L)
  rw [E.out]
  go_enter Tryd.func20, Tryd.ntmps20
  have HY := Lib.hid (show Value.int .u8 ((n : Int) / 1099511627776 % 256) = .int .u8 ((UInt8.ofNat (n / 1099511627776)).toNat : Int) from u8_div n 1099511627776)
  go_wp2_with (at_builtin; refine wp_append_u8 rfl _ _ rfl W _ _ _ rfl R.out _ _ HY.out rfl (by omega) ?_)
  clear R HY
  intro v w R0
  have R := Lib.hid R0
  clear R0
  have HY := Lib.hid (show Value.int .u8 ((n : Int) / 4294967296 % 256) = .int .u8 ((UInt8.ofNat (n / 4294967296)).toNat : Int) from u8_div n 4294967296)
  go_wp2_with (at_builtin; refine wp_append_u8 rfl _ _ rfl W _ _ _ rfl R.out _ _ HY.out rfl (by simp only [List.length_append, List.length_cons, List.length_nil]; omega) ?_)
  clear R HY
  intro v w R0
  have R := Lib.hid R0
  clear R0
  have HY := Lib.hid (show Value.int .u8 ((n : Int) / 16777216 % 256) = .int .u8 ((UInt8.ofNat (n / 16777216)).toNat : Int) from u8_div n 16777216)
  go_wp2_with (at_builtin; refine wp_append_u8 rfl _ _ rfl W _ _ _ rfl R.out _ _ HY.out rfl (by simp only [List.length_append, List.length_cons, List.length_nil]; omega) ?_)
  clear R HY
  intro v w R0
  have R := Lib.hid R0
  clear R0
  have HY := Lib.hid (show Value.int .u8 ((n : Int) / 65536 % 256) = .int .u8 ((UInt8.ofNat (n / 65536)).toNat : Int) from u8_div n 65536)
  go_wp2_with (at_builtin; refine wp_append_u8 rfl _ _ rfl W _ _ _ rfl R.out _ _ HY.out rfl (by simp only [List.length_append, List.length_cons, List.length_nil]; omega) ?_)
  clear R HY
  intro v w R0
  have R := Lib.hid R0
  clear R0
  have HY := Lib.hid (show Value.int .u8 ((n : Int) / 256 % 256) = .int .u8 ((UInt8.ofNat (n / 256)).toNat : Int) from u8_div n 256)
  go_wp2_with (at_builtin; refine wp_append_u8 rfl _ _ rfl W _ _ _ rfl R.out _ _ HY.out rfl (by simp only [List.length_append, List.length_cons, List.length_nil]; omega) ?_)
  clear R HY
  intro v w R0
  have R := Lib.hid R0
  clear R0
  have HY := Lib.hid (show Value.int .u8 ((n : Int) % 256) = .int .u8 ((UInt8.ofNat n).toNat : Int) from u8_low n)
  go_wp2_with (at_builtin; refine wp_append_u8 rfl _ _ rfl W _ _ _ rfl R.out _ _ HY.out rfl (by simp only [List.length_append, List.length_cons, List.length_nil]; omega) ?_)
  clear R HY
  intro v w R0
  have R := Lib.hid R0
  clear R0
  go_wp2
  go_ret
  exact ⟨_, rfl, R.out⟩
set_option maxHeartbeats 1000000 in
theorem app_7 (W : World) (L : List UInt8) (v : Value) (n : Nat) (hL : L.length ≤ 2000000) (w : World) (R0 : OwnB W w L v) :
    Calls Tryd.prog 20 #[v, .int .u64 n, .int .i64 7] w (AppOut W (L ++ (lowB n 7).reverse)) := by
  have R := Lib.hid R0
  clear R0
  have E := Lib.hid (low_rev_7 n L)
  rw [E.out]
  go_enter Tryd.func20, Tryd.ntmps20
  have HY := Lib.hid (show Value.int .u8 ((n : Int) / 281474976710656 % 256) = .int .u8 ((UInt8.ofNat (n / 281474976710656)).toNat : Int) from u8_div n 281474976710656)
  go_wp2_with (at_builtin; refine wp_append_u8 rfl _ _ rfl W _ _ _ rfl R.out _ _ HY.out rfl (by omega) ?_)
  clear R HY
  intro v w R0
  have R := Lib.hid R0
  clear R0
  have HY := Lib.hid (show Value.int .u8 ((n : Int) / 1099511627776 % 256) = .int .u8 ((UInt8.ofNat (n / 1099511627776)).toNat : Int) from u8_div n 1099511627776)
  go_wp2_with (at_builtin; refine wp_append_u8 rfl _ _ rfl W _ _ _ rfl R.out _ _ HY.out rfl (by simp only [List.length_append, List.length_cons, List.length_nil]; omega) ?_)
  clear R HY
  intro v w R0
  have R := Lib.hid R0
  clear R0
  have HY := Lib.hid (show Value.int .u8 ((n : Int) / 4294967296 % 256) = .int .u8 ((UInt8.ofNat (n / 4294967296)).toNat : Int) from u8_div n 4294967296)
  go_wp2_with (at_builtin; refine wp_append_u8 rfl _ _ rfl W _ _ _ rfl R.out _ _ HY.out rfl (by simp only [List.length_append, List.length_cons, List.length_nil]; omega) ?_)
  clear R HY
  intro v w R0
  have R := Lib.hid R0
  clear R0
  have HY := Lib.hid (show Value.int .u8 ((n : Int) / 16777216 % 256) = .int .u8 ((UInt8.ofNat (n / 16777216)).toNat : Int) from u8_div n 16777216)
  go_wp2_with (at_builtin; refine wp_append_u8 rfl _ _ rfl W _ _ _ rfl R.out _ _ HY.out rfl (by simp only [List.length_append, List.length_cons, List.length_nil]; omega) ?_)
  clear R HY
  intro v w R0
  have R := Lib.hid R0
  clear R0
  have HY := Lib.hid (show Value.int .u8 ((n : Int) / 65536 % 256) = .int .u8 ((UInt8.ofNat (n / 65536)).toNat : Int) from u8_div n 65536)
  go_wp2_with (at_builtin; refine wp_append_u8 rfl _ _ rfl W _ _ _ rfl R.out _ _ HY.out rfl (by simp only [List.length_append, List.length_cons, List.length_nil]; omega) ?_)
  clear R HY
  intro v w R0
  have R := Lib.hid R0
  clear R0
  have HY := Lib.hid (show Value.int .u8 ((n : Int) / 256 % 256) = .int .u8 ((UInt8.ofNat (n / 256)).toNat : Int) from u8_div n 256)
  go_wp2_with (at_builtin; refine wp_append_u8 rfl _ _ rfl W _ _ _ rfl R.out _ _ HY.out rfl (by simp only [List.length_append, List.length_cons, List.length_nil]; omega) ?_)
  clear R HY
  intro v w R0
  have R := Lib.hid R0
  clear R0
  have HY := Lib.hid (show Value.int .u8 ((n : Int) % 256) = .int .u8 ((UInt8.ofNat n).toNat : Int) from u8_low n)
  go_wp2_with (at_builtin; refine wp_append_u8 rfl _ _ rfl W _ _ _ rfl R.out _ _ HY.out rfl (by simp only [List.length_append, List.length_cons, List.length_nil]; omega) ?_)
  clear R HY
  intro v w R0
  have R := Lib.hid R0
  clear R0
  go_wp2
  go_ret
  exact ⟨_, rfl, R.out⟩
set_option maxHeartbeats 1000000 in
theorem app_8 (W : World) (L : List UInt8) (v : Value) (n : Nat) (hL : L.length ≤ 2000000) (w : World) (R0 : OwnB W w L v) :
    Calls Tryd.prog 20 #[v, .int .u64 n, .int .i64 8] w (AppOut W (L ++ (lowB n 8).reverse)) := by
  have R := Lib.hid R0
  clear R0
  have E := Lib.hid (low_rev_8 n L)
  rw [E.out]
  go_enter Tryd.func20, Tryd.ntmps20
  have HY := Lib.hid (show Value.int .u8 ((n : Int) / 72057594037927936 % 256) = .int .u8 ((UInt8.ofNat (n / 72057594037927936)).toNat : Int) from u8_div n 72057594037927936)
  go_wp2_with (at_builtin; refine wp_append_u8 rfl _ _ rfl W _ _ _ rfl R.out _ _ HY.out rfl (by omega) ?_)
  clear R HY
  intro v w R0
  have R := Lib.hid R0
  clear R0
  have HY := Lib.hid (show Value.int .u8 ((n : Int) / 281474976710656 % 256) = .int .u8 ((UInt8.ofNat (n / 281474976710656)).toNat : Int) from u8_div n 281474976710656)
  go_wp2_with (at_builtin; refine wp_append_u8 rfl _ _ rfl W _ _ _ rfl R.out _ _ HY.out rfl (by simp only [List.length_append, List.length_cons, List.length_nil]; omega) ?_)
  clear R HY
  intro v w R0
  have R := Lib.hid R0
  clear R0
  have HY := Lib.hid (show Value.int .u8 ((n : Int) / 1099511627776 % 256) = .int .u8 ((UInt8.ofNat (n / 1099511627776)).toNat : Int) from u8_div n 1099511627776)
  go_wp2_with (at_builtin; refine wp_append_u8 rfl _ _ rfl W _ _ _ rfl R.out _ _ HY.out rfl (by simp only [List.length_append, List.length_cons, List.length_nil]; omega) ?_)
  clear R HY
  intro v w R0
  have R := Lib.hid R0
  clear R0
  have HY := Lib.hid (show Value.int .u8 ((n : Int) / 4294967296 % 256) = .int .u8 ((UInt8.ofNat (n / 4294967296)).toNat : Int) from u8_div n 4294967296)
  go_wp2_with (at_builtin; refine wp_append_u8 rfl _ _ rfl W _ _ _ rfl R.out _ _ HY.out rfl (by simp only [List.length_append, List.length_cons, List.length_nil]; omega) ?_)
  clear R HY
  intro v w R0
  have R := Lib.hid R0
  clear R0
  have HY := Lib.hid (show Value.int .u8 ((n : Int) / 16777216 % 256) = .int .u8 ((UInt8.ofNat (n / 16777216)).toNat : Int) from u8_div n 16777216)
  go_wp2_with (at_builtin; refine wp_append_u8 rfl _ _ rfl W _ _ _ rfl R.out _ _ HY.out rfl (by simp only [List.length_append, List.length_cons, List.length_nil]; omega) ?_)
  clear R HY
  intro v w R0
  have R := Lib.hid R0
  clear R0
  have HY := Lib.hid (show Value.int .u8 ((n : Int) / 65536 % 256) = .int .u8 ((UInt8.ofNat (n / 65536)).toNat : Int) from u8_div n 65536)
  go_wp2_with (at_builtin; refine wp_append_u8 rfl _ _ rfl W _ _ _ rfl R.out _ _ HY.out rfl (by simp only [List.length_append, List.length_cons, List.length_nil]; omega) ?_)
  clear R HY
  intro v w R0
  have R := Lib.hid R0
  clear R0
  have HY := Lib.hid (show Value.int .u8 ((n : Int) / 256 % 256) = .int .u8 ((UInt8.ofNat (n / 256)).toNat : Int) from u8_div n 256)
  go_wp2_with (at_builtin; refine wp_append_u8 rfl _ _ rfl W _ _ _ rfl R.out _ _ HY.out rfl (by simp only [List.length_append, List.length_cons, List.length_nil]; omega) ?_)
  clear R HY
  intro v w R0
  have R := Lib.hid R0
  clear R0
  have HY := Lib.hid (show Value.int .u8 ((n : Int) % 256) = .int .u8 ((UInt8.ofNat n).toNat : Int) from u8_low n)
  go_wp2_with (at_builtin; refine wp_append_u8 rfl _ _ rfl W _ _ _ rfl R.out _ _ HY.out rfl (by simp only [List.length_append, List.length_cons, List.length_nil]; omega) ?_)
  clear R HY
  intro v w R0
  have R := Lib.hid R0
  clear R0
  go_wp2
  go_ret
  exact ⟨_, rfl, R.out⟩
--app>
set_option maxHeartbeats 1000000 in
theorem app_0 (W : World) (L : List UInt8) (v : Value) (n : Nat) (w : World) (R : OwnB W w L v) :
    Calls Tryd.prog 20 #[v, .int .u64 n, .int .i64 0] w (AppOut W (L ++ (lowB n 0).reverse)) := by
  have R := Lib.hid R
  rw [show (lowB n 0).reverse = [] from rfl, List.append_nil]
  go_enter Tryd.func20, Tryd.ntmps20
  go_wp2
  go_ret
  exact ⟨_, rfl, R.out⟩
/-- The lowest bytes of a number behind a row, the highest first. -/
theorem t_app (W : World) (L : List UInt8) (v : Value) (n many : Nat) (hm : many ≤ 8) (hL : L.length ≤ 2000000) (w : World) (R : OwnB W w L v) :
    Calls Tryd.prog 20 #[v, .int .u64 n, .int .i64 many] w (AppOut W (L ++ (lowB n many).reverse)) := by
  match many, hm with
  | 0, _ => exact app_0 W L v n w R
  | 1, _ => exact app_1 W L v n hL w R
  | 2, _ => exact app_2 W L v n hL w R
  | 3, _ => exact app_3 W L v n hL w R
  | 4, _ => exact app_4 W L v n hL w R
  | 5, _ => exact app_5 W L v n hL w R
  | 6, _ => exact app_6 W L v n hL w R
  | 7, _ => exact app_7 W L v n hL w R
  | 8, _ => exact app_8 W L v n hL w R
end Go.Proofs.YtjdnekkbmanmdaaDoor
