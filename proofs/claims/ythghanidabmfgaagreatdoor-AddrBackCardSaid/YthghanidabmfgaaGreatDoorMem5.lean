/-
  Whole blocks of addresses and groups: what lies there, read and written as a whole.
-/
import Derived.Test.YthghanidabmfgaaGreatDoorAddrs
import Derived.Test.YthghanidabmfgaaGreatDoorHex
import Derived.Deep.MidRow
import Derived.Laws.CopyOwn
import Derived.Laws.StructEq
namespace Go.Proofs.YthghanidabmfgaaGreatDoor
open Go.RowKit Go.Sort
set_option maxRecDepth 8000
/-! ### Rows of numbers -/
def ints (k : IntKind) (l : List Int) : List Value := l.map (.int k)
theorem ints_length (k : IntKind) (l : List Int) : (ints k l).length = l.length := by simp [ints]
theorem ints_get {k : IntKind} {l : List Int} {j : Nat} {n : Int} (h : l[j]? = some n) : (ints k l)[j]? = some (.int k n) := by simp [ints, h]
theorem ints_one (k : IntKind) (l : List Int) : ∀ v ∈ ints k l, v.oneCell' = true := by
  intro v hv; obtain ⟨n, _, rfl⟩ := List.mem_map.1 hv; rfl
/-- The value of an address: of which kind, and its bytes; of ends, with the port. -/
def adL (v : Bool) (b : List Int) : List Value := .bool v :: ints .u8 b
def enL (v : Bool) (b : List Int) (p : Int) : List Value := adL v b ++ [.int .u16 p]
def u8C (b : List Int) : Array Value := (ints .u8 b).toArray
def u16C (b : List Int) : Array Value := (ints .u16 b).toArray
def adC (v : Bool) (b : List Int) : Array Value := (adL v b).toArray
def enC (v : Bool) (b : List Int) (p : Int) : Array Value := (enL v b p).toArray
theorem u8C_size (b : List Int) : (u8C b).size = b.length := by simp [u8C, ints]
theorem u16C_size (b : List Int) : (u16C b).size = b.length := by simp [u16C, ints]
theorem adC_size (v : Bool) (b : List Int) : (adC v b).size = b.length + 1 := by simp [adC, adL, ints]
theorem enC_size (v : Bool) (b : List Int) (p : Int) : (enC v b p).size = b.length + 2 := by simp [enC, enL, adL, ints]
theorem adL_one (v : Bool) (b : List Int) : ∀ x ∈ adL v b, x.oneCell' = true := by
  intro x hx
  rcases List.mem_cons.1 hx with rfl | hx
  · rfl
  · exact ints_one _ _ x hx
theorem enL_one (v : Bool) (b : List Int) (p : Int) : ∀ x ∈ enL v b p, x.oneCell' = true := by
  intro x hx
  rcases List.mem_append.1 hx with hx | hx
  · exact adL_one _ _ x hx
  · obtain rfl := List.mem_singleton.1 hx; rfl
theorem u8C_ok (b : List Int) : (u8C b).all (·.oneCell') = true := all_oneCell_toArray (ints_one _ _)
theorem u16C_ok (b : List Int) : (u16C b).all (·.oneCell') = true := all_oneCell_toArray (ints_one _ _)
theorem adC_ok (v : Bool) (b : List Int) : (adC v b).all (·.oneCell') = true := all_oneCell_toArray (adL_one _ _)
theorem enC_ok (v : Bool) (b : List Int) (p : Int) : (enC v b p).all (·.oneCell') = true := all_oneCell_toArray (enL_one _ _ _)
/-! ### A block -/
def Blk (w : World) (b : Nat) (t : TypeId) (cs : Array Value) : Prop := w.heap[b]? = some (.cells cs t (0, 0))
theorem Blk.lt {w : World} {b : Nat} {t : TypeId} {cs : Array Value} (h : Blk w b t cs) : b < w.heap.size := (Array.getElem?_eq_some_iff.1 h).1
theorem Blk.on {w w' : World} {b : Nat} {t : TypeId} {cs : Array Value} (h : Blk w b t cs) (hb : Below w.heap.size w w') : Blk w' b t cs := (hb.block b h.lt).trans h
theorem Blk.new (w : World) (t : TypeId) (cs : Array Value) {b : Nat} (hb : b = w.heap.size) : Blk (w.alloc (.cells cs t)) b t cs := row_new _ _ hb
theorem Blk.alloc {w : World} {b : Nat} {t : TypeId} {cs : Array Value} (h : Blk w b t cs) (o : Obj) : Blk (w.alloc o) b t cs := h.on (below_alloc w o)
theorem Blk.cell {w : World} {b : Nat} {t : TypeId} {cs : Array Value} (h : Blk w b t cs) {j : Nat} {v : Value} (hj : cs[j]? = some v) : w.cell? ⟨b, j, none⟩ = some v := (cell_of_row w b j _ _ _ h).trans hj
theorem Blk.free {w : World} {b : Nat} {t : TypeId} {cs : Array Value} (h : Blk w b t cs) (j : Nat) : w.frozen? ⟨b, j, none⟩ = false := frozen_of_row w b j _ _ h
theorem Blk.other {w : World} {b : Nat} {t : TypeId} {cs : Array Value} (h : Blk w b t cs) {a : Addr} (ha : a.block ≠ b) (v : Value) : Blk (w.setCell a v) b t cs := (heap_setCell_other w a b v (Ne.symm ha)).trans h
theorem Blk.put {w : World} {b : Nat} {t : TypeId} {cs : Array Value} (h : Blk w b t cs) (i : Nat) (v : Value) : Blk (w.setCell ⟨b, i, none⟩ v) b t (cs.setIfInBounds i v) := heap_setCell_same w b i cs t v h
theorem Blk.row {w : World} {b : Nat} {t : TypeId} {cs : Array Value} (h : Blk w b t cs) (cs' : Array Value) : Blk (w.setRow b cs') b t cs' := setRow_heap w b cs cs' t _ h
theorem Blk.rowOther {w : World} {b g : Nat} {t : TypeId} {cs : Array Value} (h : Blk w b t cs) (hg : b ≠ g) (cs' : Array Value) : Blk (w.setRow g cs') b t cs := (setRow_other w g b cs' hg).trans h
theorem Blk.is {w : World} {b : Nat} {t : TypeId} {cs cs' : Array Value} (h : Blk w b t cs) (e : cs = cs') : Blk w b t cs' := e ▸ h
theorem Blk.range {w : World} {b : Nat} {t : TypeId} {cs : Array Value} (h : Blk w b t cs) {o : Nat} {l : List Value} (hl : ∀ j v, l[j]? = some v → cs[o + j]? = some v) : w.rangeAt b o l := fun j v hj => h.cell (hl j v hj)
theorem inf16 : (Tryz.prog.info? 22).map (·.size) = some 16 := by kernel_rfl
theorem inf12 : (Tryz.prog.info? 61).map (·.size) = some 12 := by kernel_rfl
theorem inf4 : (Tryz.prog.info? 57).map (·.size) = some 4 := by kernel_rfl
theorem inf8 : (Tryz.prog.info? 54).map (·.size) = some 8 := by kernel_rfl
theorem infA : (Tryz.prog.info? 24).map (·.size) = some 17 := by kernel_rfl
theorem infE : (Tryz.prog.info? 32).map (·.size) = some 18 := by kernel_rfl
section
variable {w : World} {g o : Nat} {t : TypeId}
/-- A whole variable is read. -/
theorem ld_addr {v : Bool} {b : List Int} (hl : b.length = 16) (h : Blk w g t (adC v b)) : (Instr.loadAt 24 (.pointer (some ⟨g, 0, none⟩))).run Tryz.prog w = .ok (.agg (adC v b)) w :=
  run_loadAt_mid w g 0 24 (adL v b) _ (h.range fun j x hj => by rw [Nat.zero_add]; simpa [adC] using hj) Tryz.underlying24 rfl (by rw [infA]; simp [adL, ints, hl])
theorem ld_ends {v : Bool} {b : List Int} {p : Int} (hl : b.length = 16) (h : Blk w g t (enC v b p)) : (Instr.loadAt 32 (.pointer (some ⟨g, 0, none⟩))).run Tryz.prog w = .ok (.agg (enC v b p)) w :=
  run_loadAt_mid w g 0 32 (enL v b p) _ (h.range fun j x hj => by rw [Nat.zero_add]; simpa [enC] using hj) Tryz.underlying32 rfl (by rw [infE]; simp [enL, adL, ints, hl])
theorem ld_endsAddr {v : Bool} {b : List Int} {p : Int} (hl : b.length = 16) (h : Blk w g t (enC v b p)) : (Instr.loadAt 24 (.pointer (some ⟨g, 0, none⟩))).run Tryz.prog w = .ok (.agg (adC v b)) w :=
  run_loadAt_mid w g 0 24 (adL v b) _ (h.range fun j x hj => by
    rw [Nat.zero_add]
    have lt := (List.getElem?_eq_some_iff.1 hj).1
    simp only [enC, enL, List.getElem?_toArray]
    rw [List.getElem?_append_left lt]; exact hj) Tryz.underlying24 rfl (by rw [infA]; simp [adL, ints, hl])
theorem ld_bytes {v : Bool} {b : List Int} (hl : b.length = 16) (h : Blk w g t (adC v b)) : (Instr.loadAt 22 (.pointer (some ⟨g, 1, none⟩))).run Tryz.prog w = .ok (.agg (u8C b)) w :=
  run_loadAt_mid w g 1 22 (ints .u8 b) _ (h.range fun j x hj => by simp only [adC, adL, List.getElem?_toArray]; rw [Nat.add_comm, List.getElem?_cons_succ]; exact hj) Tryz.underlying22 rfl (by rw [inf16, ints_length, hl])
theorem ld_16 {b : List Int} (hl : b.length = 16) (h : Blk w g t (u8C b)) : (Instr.loadAt 22 (.pointer (some ⟨g, 0, none⟩))).run Tryz.prog w = .ok (.agg (u8C b)) w :=
  run_loadAt_mid w g 0 22 (ints .u8 b) _ (h.range fun j x hj => by rw [Nat.zero_add]; simpa [u8C] using hj) Tryz.underlying22 rfl (by rw [inf16, ints_length, hl])
theorem ld_4 {b : List Int} (hl : b.length = 4) (h : Blk w g t (u8C b)) : (Instr.loadAt 57 (.pointer (some ⟨g, 0, none⟩))).run Tryz.prog w = .ok (.agg (u8C b)) w :=
  run_loadAt_mid w g 0 57 (ints .u8 b) _ (h.range fun j x hj => by rw [Nat.zero_add]; simpa [u8C] using hj) Tryz.underlying57 rfl (by rw [inf4, ints_length, hl])
theorem ld_8 {b : List Int} (hl : b.length = 8) (h : Blk w g t (u16C b)) : (Instr.loadAt 54 (.pointer (some ⟨g, 0, none⟩))).run Tryz.prog w = .ok (.agg (u16C b)) w :=
  run_loadAt_mid w g 0 54 (ints .u16 b) _ (h.range fun j x hj => by rw [Nat.zero_add]; simpa [u16C] using hj) Tryz.underlying54 rfl (by rw [inf8, ints_length, hl])
/-- .. a piece of an address's bytes. -/
theorem ad_get {v : Bool} {b : List Int} {j : Nat} {n : Int} (h : b[j]? = some n) : (adC v b)[j + 1]? = some (.int .u8 n) := by
  simp only [adC, adL, List.getElem?_toArray, List.getElem?_cons_succ]; exact ints_get h
theorem ad_head (v : Bool) (b : List Int) : (adC v b)[0]? = some (.bool v) := by simp [adC, adL]
theorem ld_part {T : TypeId} {n : Nat} {d : TypeDesc} {v : Bool} {b : List Int} (o : Nat) (hu : Tryz.prog.underlying T = some d) (hd : d.isRow = true) (hi : (Tryz.prog.info? T).map (·.size) = some n) (hn : ((b.drop o).take n).length = n) (h : Blk w g t (adC v b)) :
    (Instr.loadAt T (.pointer (some ⟨g, 1 + o, none⟩))).run Tryz.prog w = .ok (.agg (u8C ((b.drop o).take n))) w :=
  run_loadAt_mid w g (1 + o) T (ints .u8 ((b.drop o).take n)) d (h.range fun j x hj => by
    have lt := (List.getElem?_eq_some_iff.1 hj).1
    rw [ints_length, hn] at lt
    simp only [ints, List.getElem?_map] at hj
    rw [List.getElem?_take_of_lt lt, List.getElem?_drop] at hj
    cases e : b[o + j]? with
    | none => rw [e] at hj; cases hj
    | some m =>
      rw [e] at hj
      simp at hj
      rw [← hj, show 1 + o + j = (o + j) + 1 by omega]
      exact ad_get e) hu hd (by rw [hi, ints_length, hn])
end
/-! ### Whole rows are written -/
theorem st_row (T : TypeId) {w : World} {g : Nat} {t : TypeId} {old cells : Array Value} (h : Blk w g t old) (hi : (Tryz.prog.info? T).map (·.size) = some cells.size) (hs : old.size = cells.size) (h1 : cells.all (·.oneCell') = true) :
    (Instr.storeAt T (.pointer (some ⟨g, 0, none⟩)) (.agg cells)).run Tryz.prog w = .ok () (w.setRow g cells) := by
  simp only [Instr.storeAt, Instr.sureAddr, Sem.run_bind, Sem.run_pure, Result.andThen_ok, run_storeVar_row w g t T old cells h hi hs h1]
/-! ### Rows are compared -/
theorem run_part_int {k : IntKind} {e : TypeId} {l : List Int} {i : Nat} {n : Int} (he : Tryz.prog.underlying e = some (.int k)) (h : l[i]? = some n) (W : World) : (part e (ints k l).toArray i).run Tryz.prog W = .ok (.int k n) W := by
  have g := ints_get (k := k) h
  unfold part
  simp [isAgg, run_underlying he, g]
theorem list_same (xs ys : List Int) (n : Nat) (hx : xs.length = n) (hy : ys.length = n) : (List.range' 0 n).all (fun i => decide (xs[i]? = ys[i]?)) = decide (xs = ys) := by
  rw [Bool.eq_iff_iff, List.all_eq_true, decide_eq_true_iff]
  constructor
  · intro h
    refine List.ext_getElem? fun i => ?_
    by_cases hi : i < n
    · simpa using h i (by simp; omega)
    · rw [List.getElem?_eq_none (by omega), List.getElem?_eq_none (by omega)]
  · rintro rfl i _; simp
theorem eq_rows (k : IntKind) (e : TypeId) (d : Nat) (he : Tryz.prog.underlying e = some (.int k)) (xs ys : List Int) (W : World) (T : TypeId) (len : Nat) (hT : Tryz.prog.underlying T = some (.array len e)) (hs : (Tryz.prog.info? e).map (·.size) = some 1) (hx : xs.length = len) (hy : ys.length = len) :
    (Op.equalIn (d + 2) T (.agg (ints k xs).toArray) (.agg (ints k ys).toArray)).run Tryz.prog W = .ok (decide (xs = ys)) W := by
  cases hq : Tryz.prog.info? e with
  | none => simp [hq] at hs
  | some i =>
    have h1 : i.size = 1 := by simpa [hq] using hs
    rw [Op.equalIn]
    simp only [Sem.run_bind, run_underlying hT, Result.andThen_ok, sizeOf, typeInfo, run_program, hq, h1, Sem.run_pure, Nat.mul_one, Std.Legacy.Range.forIn_eq_forIn_range']
    rw [← list_same xs ys len hx hy]
    have hz : Std.Legacy.Range.size [:len] = len := by simp [Std.Legacy.Range.size]
    rw [hz]
    have hL : ∀ i ∈ List.range' 0 len, i < len := fun i hi => by simp at hi; exact hi
    generalize List.range' 0 len = L at hL
    induction L with
    | nil => rfl
    | cons i L ih =>
      have hi := hL i List.mem_cons_self
      have ih := ih fun j hj => hL j (List.mem_cons_of_mem _ hj)
      have e1 := run_part_int he (List.getElem?_eq_getElem (show i < xs.length by omega)) W
      have e2 := run_part_int he (List.getElem?_eq_getElem (show i < ys.length by omega)) W
      have e3 := run_equalIn_int W d e k k xs[i] ys[i] he
      simp only [List.forIn_cons, Sem.run_bind, e1, e2, e3, Result.andThen_ok, List.all_cons]
      rw [List.getElem?_eq_getElem (show i < xs.length by omega), List.getElem?_eq_getElem (show i < ys.length by omega)]
      by_cases c : xs[i] = ys[i]
      · simp only [c, beq_self_eq_true, Bool.not_true, Bool.false_eq_true, if_false, Sem.run_pure, Result.andThen_ok, decide_true, Bool.true_and]
        exact ih
      · simp [c]
theorem part_row {T : TypeId} {d : TypeDesc} {n : Nat} (hu : Tryz.prog.underlying T = some d) (hd : d.isRow = true) (hi : (Tryz.prog.info? T).map (·.size) = some n) (cs : Array Value) (o : Nat) (W : World) :
    (part T cs o).run Tryz.prog W = .ok (.agg (cs.extract o (o + n))) W := by
  cases hq : Tryz.prog.info? T with
  | none => simp [hq] at hi
  | some i =>
    have h1 : i.size = n := by simpa [hq] using hi
    have hagg : (isAgg T).run Tryz.prog W = .ok true W := by
      unfold isAgg
      rw [Sem.run_bind, run_underlying hu W]
      cases d <;> simp_all
    simp [part, hagg, sizeOf, typeInfo, hq, h1]
theorem part_one {T : TypeId} {d : TypeDesc} (hu : Tryz.prog.underlying T = some d) (hd : d.isRow = false) (cs : Array Value) (o : Nat) (v : Value) (h : cs[o]? = some v) (W : World) :
    (part T cs o).run Tryz.prog W = .ok v W := by
  have hagg : (isAgg T).run Tryz.prog W = .ok false W := by
    unfold isAgg
    rw [Sem.run_bind, run_underlying hu W]
    cases d <;> simp_all
  simp [part, hagg, h]
theorem ad_bytes {v : Bool} {b : List Int} (hl : b.length = 16) : (adC v b).extract 1 17 = u8C b := by
  unfold adC u8C adL
  rw [← Array.toList_inj]
  simp [ints]
  rw [List.take_of_length_le (by simp [hl])]
theorem en_addr {v : Bool} {b : List Int} {p : Int} (hl : b.length = 16) : (enC v b p).extract 0 17 = adC v b := by
  unfold enC adC enL
  have e : (adL v b).length = 17 := by simp [adL, ints, hl]
  rw [← Array.toList_inj]
  simp only [Array.toList_extract, List.extract_eq_take_drop, List.drop_zero, Nat.sub_zero]
  rw [List.take_append_of_le_length (by omega), List.take_of_length_le (by omega)]
theorem en_port {v : Bool} {b : List Int} {p : Int} (hl : b.length = 16) : (enC v b p)[17]? = some (.int .u16 p) := by
  unfold enC enL adL
  simp [ints, hl]
theorem a_rows (d : Nat) (b b' : List Int) (hb : b.length = 16) (hb' : b'.length = 16) (W : World) : (Op.equalIn (d + 3) 22 (.agg (u8C b)) (.agg (u8C b'))).run Tryz.prog W = .ok (decide (b = b')) W := by
  have a6 := eq_rows .u8 5 (d + 1) Tryz.underlying5 b b' W 22 16 Tryz.underlying22 (by kernel_rfl) hb hb'
  rw [show d + 1 + 2 = d + 3 from rfl] at a6
  exact a6
theorem a_part (v : Bool) (b : List Int) (hb : b.length = 16) (W : World) : (part 22 (adC v b) 1).run Tryz.prog W = .ok (.agg (u8C b)) W := by
  rw [part_row Tryz.underlying22 rfl inf16 (adC v b) 1 W, ad_bytes hb]
theorem eq_field {d : Nat} {X Y : Array Value} {f : Field} {fs : List Field} {va vb : Value} {r : Bool} {W : World} (hn : f.name ≠ "_") (h1 : (part f.type X f.offset).run Tryz.prog W = .ok va W) (h2 : (part f.type Y f.offset).run Tryz.prog W = .ok vb W)
    (h3 : (Op.equalIn d f.type va vb).run Tryz.prog W = .ok r W) : (Op.eqFields d X Y (f :: fs)).run Tryz.prog W = if r = true then (Op.eqFields d X Y fs).run Tryz.prog W else .ok false W := by
  rw [Op.eqFields, if_pos hn]
  simp only [Sem.run_bind, h1, h2, h3, Result.andThen_ok]
  cases r
  · rfl
  · rfl
theorem f_addr : ∃ f1 f2 : Field, (Tryz.prog.fieldsOf 24).toList = [f1, f2] ∧ f1.name ≠ "_" ∧ f1.type = 4 ∧ f1.offset = 0 ∧ f2.name ≠ "_" ∧ f2.type = 22 ∧ f2.offset = 1 := ⟨_, _, rfl, by decide +kernel, by kernel_rfl, by kernel_rfl, by decide +kernel, by kernel_rfl, by kernel_rfl⟩
theorem f_ends : ∃ f1 f2 : Field, (Tryz.prog.fieldsOf 32).toList = [f1, f2] ∧ f1.name ≠ "_" ∧ f1.type = 24 ∧ f1.offset = 0 ∧ f2.name ≠ "_" ∧ f2.type = 25 ∧ f2.offset = 17 := ⟨_, _, rfl, by decide +kernel, by kernel_rfl, by kernel_rfl, by decide +kernel, by kernel_rfl, by kernel_rfl⟩
theorem in_addr (d : Nat) (v v' : Bool) (b b' : List Int) (hb : b.length = 16) (hb' : b'.length = 16) (W : World) :
    (Op.equalIn (d + 4) 24 (.agg (adC v b)) (.agg (adC v' b'))).run Tryz.prog W = .ok (decide (v = v' ∧ b = b')) W := by
  obtain ⟨f1, f2, F, n1, t1, o1, n2, t2, o2⟩ := f_addr
  have a1 := part_one Tryz.underlying4 rfl (adC v b) 0 _ (ad_head v b) W
  have a2 := part_one Tryz.underlying4 rfl (adC v' b') 0 _ (ad_head v' b') W
  have a3 := a_part v b hb W
  have a4 := a_part v' b' hb' W
  have a5 : (Op.equalIn (d + 3) 4 (.bool v) (.bool v')).run Tryz.prog W = .ok (v == v') W := run_equalIn_bool' W (d + 2) 4 v v' Tryz.underlying4
  have a6 := a_rows d b b' hb hb' W
  rw [← t1, ← o1] at a1 a2
  rw [← t2, ← o2] at a3 a4
  rw [← t1] at a5
  rw [← t2] at a6
  rw [run_equalIn_struct W _ _ _ _ (by kernel_rfl) (by kernel_rfl), F, eq_field n1 a1 a2 a5, eq_field n2 a3 a4 a6]
  by_cases c : v = v'
  · rw [if_pos (beq_iff_eq.2 c)]
    by_cases c2 : b = b'
    · rw [if_pos (decide_eq_true c2), decide_eq_true (show v = v' ∧ b = b' from ⟨c, c2⟩)]; rfl
    · rw [if_neg (by simpa using c2), decide_eq_false fun k => c2 k.2]
  · rw [if_neg (by simpa using c), decide_eq_false fun k => c k.1]
theorem in_ends (d : Nat) (v v' : Bool) (b b' : List Int) (p p' : Int) (hb : b.length = 16) (hb' : b'.length = 16) (W : World) :
    (Op.equalIn (d + 5) 32 (.agg (enC v b p)) (.agg (enC v' b' p'))).run Tryz.prog W = .ok (decide ((v = v' ∧ b = b') ∧ p = p')) W := by
  obtain ⟨f1, f2, F, n1, t1, o1, n2, t2, o2⟩ := f_ends
  have a1 := part_one Tryz.underlying25 rfl (enC v b p) 17 _ (en_port hb) W
  have a2 := part_one Tryz.underlying25 rfl (enC v' b' p') 17 _ (en_port hb') W
  have a3 := part_row Tryz.underlying24 rfl infA (enC v b p) 0 W
  have a4 := part_row Tryz.underlying24 rfl infA (enC v' b' p') 0 W
  have a5 : (Op.equalIn (d + 4) 25 (.int .u16 p) (.int .u16 p')).run Tryz.prog W = .ok (p == p') W := run_equalIn_int W (d + 3) 25 .u16 .u16 p p' Tryz.underlying25
  have a6 := in_addr d v v' b b' hb hb' W
  rw [Nat.zero_add, en_addr hb] at a3
  rw [Nat.zero_add, en_addr hb'] at a4
  rw [← t2, ← o2] at a1 a2
  rw [← t1, ← o1] at a3 a4
  rw [← t2] at a5
  rw [← t1] at a6
  rw [run_equalIn_struct W _ _ _ _ (by kernel_rfl) (by kernel_rfl), F, eq_field n1 a3 a4 a6, eq_field n2 a1 a2 a5]
  by_cases c : v = v' ∧ b = b'
  · rw [if_pos (decide_eq_true c)]
    by_cases c2 : p = p'
    · rw [if_pos (beq_iff_eq.2 c2), decide_eq_true (show (v = v' ∧ b = b') ∧ p = p' from ⟨c, c2⟩)]; rfl
    · rw [if_neg (by simpa using c2), decide_eq_false fun k => c2 k.2]
  · rw [if_neg (by simpa using c), decide_eq_false fun k => c k.1]
theorem eq_addr (v v' : Bool) (b b' : List Int) (hb : b.length = 16) (hb' : b'.length = 16) (W : World) :
    (binOp .eql 24 (.agg (adC v b)) (.agg (adC v' b'))).run Tryz.prog W = .ok (.bool (decide (v = v' ∧ b = b'))) W := by
  rw [run_eql_struct, in_addr 9996 v v' b b' hb hb' W]; rfl
theorem neq_addr (v v' : Bool) (b b' : List Int) (hb : b.length = 16) (hb' : b'.length = 16) (W : World) :
    (binOp .neq 24 (.agg (adC v b)) (.agg (adC v' b'))).run Tryz.prog W = .ok (.bool (!decide (v = v' ∧ b = b'))) W := by
  rw [run_neq_struct, in_addr 9996 v v' b b' hb hb' W]; rfl
theorem eq_ends (v v' : Bool) (b b' : List Int) (p p' : Int) (hb : b.length = 16) (hb' : b'.length = 16) (W : World) :
    (binOp .eql 32 (.agg (enC v b p)) (.agg (enC v' b' p'))).run Tryz.prog W = .ok (.bool (decide ((v = v' ∧ b = b') ∧ p = p'))) W := by
  rw [run_eql_struct, in_ends 9995 v v' b b' p p' hb hb' W]; rfl
theorem neq_ends (v v' : Bool) (b b' : List Int) (p p' : Int) (hb : b.length = 16) (hb' : b'.length = 16) (W : World) :
    (binOp .neq 32 (.agg (enC v b p)) (.agg (enC v' b' p'))).run Tryz.prog W = .ok (.bool (!decide ((v = v' ∧ b = b') ∧ p = p'))) W := by
  rw [run_neq_struct, in_ends 9995 v v' b b' p p' hb hb' W]; rfl
theorem eq_12 (b b' : List Int) (hb : b.length = 12) (hb' : b'.length = 12) (W : World) :
    (binOp .eql 61 (.agg (u8C b)) (.agg (u8C b'))).run Tryz.prog W = .ok (.bool (decide (b = b'))) W := by
  rw [run_eql_struct]
  unfold u8C
  rw [eq_rows .u8 5 9998 Tryz.underlying5 b b' W 61 12 Tryz.underlying61 (by kernel_rfl) hb hb']; rfl
end Go.Proofs.YthghanidabmfgaaGreatDoor
