/-
  What is kept: a block behind a call; a result's own variable; rows of bytes; a region by hand whose held condition grows.
-/
import Derived.Test.YtjdnekkbmanmdaaDoorOctD
import Derived.Deep.RegionHeld3
namespace Go.Proofs.YtjdnekkbmanmdaaDoor
open Go.RowKit Go.Sort
set_option maxRecDepth 8000
/-- A struct of four cells in a block of the call's own. -/
theorem row4 {w : World} {p : Nat} {v0 v1 v2 v3 : Value} {T : TypeId} (h : w.heap[p]? = some (.cells #[v0, v1, v2, v3] T (0, 0))) :
    (w.cell? ⟨p, 0, none⟩ = some v0 ∧ w.cell? ⟨p, 1, none⟩ = some v1 ∧ w.cell? ⟨p, 2, none⟩ = some v2 ∧ w.cell? ⟨p, 3, none⟩ = some v3) ∧ ∀ j : Nat, w.frozen? ⟨p, j, none⟩ = false :=
  ⟨⟨cell_of_row _ _ _ _ _ _ h, cell_of_row _ _ _ _ _ _ h, cell_of_row _ _ _ _ _ _ h, cell_of_row _ _ _ _ _ _ h⟩, fun _ => frozen_of_row _ _ _ _ _ h⟩
theorem keepRow {w w' : World} {p : Nat} {o : Obj} (h : w.heap[p]? = some o) (hb : Below w.heap.size w w') : w'.heap[p]? = some o := (hb.block p (Array.getElem?_eq_some_iff.1 h).1).trans h
/-- The result's own variable, in the first block of the call. -/
def KSt (w wr : World) (o : Obj) : Prop := wr.heap[w.heap.size]? = some o ∧ Below w.heap.size w wr
theorem KSt.on {w wr w2 : World} {o : Obj} (h : KSt w wr o) (hb : Below wr.heap.size wr w2) : KSt w w2 o :=
  ⟨keepRow h.1 hb, h.2.trans (hb.mono h.2.size)⟩
theorem KSt.new (w : World) (o : Obj) : KSt w (w.alloc o) o := ⟨row_new _ _ rfl, below_alloc _ _⟩
theorem KSt.far {w wr : World} {o : Obj} (h : KSt w wr o) {q : Nat} (hq : w.heap.size < q) (j : Nat) (u : Value) : KSt w (wr.setCell ⟨q, j, none⟩ u) o :=
  ⟨(heap_setCell_other _ _ _ _ (by simp; omega)).trans h.1, h.2.setCell (by simp; omega) _⟩
def BytOut (w : World) (l : List UInt8) (e : Ending) (w' : World) : Prop := ∃ v, e = .returned v ∧ Byt w' v l ∧ Below w.heap.size w w'
theorem Byt.slice {w : World} {v : Value} {l : List UInt8} (h : Byt w v l) : ∃ a n c, v = .slice a n c := let ⟨a, c, e, _⟩ := h; ⟨a, _, c, e⟩
/-- A row of bytes is put to. -/
theorem put_next (b : Bool) (v : Value) (l l' : List UInt8) (n many : Nat) (h8 : many ≤ 8) (hn : n < 18446744073709551616) (hz : l.length ≤ 1000000) (hl : l' = l ++ ord b (lowB n many)) (zn zm : Int) (en : zn = n) (em : zm = many) (w : World) (hB : Byt w v l) :
    Calls Tryd.prog 10 #[.agg #[v, .bool b], .int .u64 zn, .int .i64 zm] w (PutOut w b l') := by subst hl en em; exact t_put_byt v l b n many h8 hn hz w hB
theorem byt_nil (w : World) : Byt w (.slice none 0 0) [] := ⟨none, 0, rfl, Nat.le_refl _, Or.inl rfl⟩
theorem run_field_B (a : Option Addr) (n c : Nat) (b : Bool) (w : World) : (Instr.field 42 (.agg #[.slice a n c, .bool b]) 0).run Tryd.prog w = .ok (.slice a n c) w := by kernel_rfl
theorem RowB.on {w w' : World} {g : Nat} {L : List UInt8} (h : RowB w g L) (hb : Below w.heap.size w w') : RowB w' g L := keepRow h hb
theorem RowB.lt {w : World} {g : Nat} {L : List UInt8} (h : RowB w g L) : g < w.heap.size := (Array.getElem?_eq_some_iff.1 h).1
/-- A row that a call has made is the caller's own. -/
theorem RowB.own {W w : World} {g n : Nat} {L : List UInt8} (h : RowB w g L) (hb : Below W.heap.size W w) (hg : W.heap.size ≤ g) (hn : n = L.length) (hz : L.length ≤ 140737488355328) : OwnB W w L (.slice (some ⟨g, 0, none⟩) n n) :=
  own_spliced hn hn (by
    have e : splice (List.replicate n (Value.int .u8 0)) 0 (cellsOf L) = cellsOf L := by
      subst hn; simp [splice, cellsOf_length]
    rw [e]; exact h) hb hg (Nat.le_refl _) (by omega)
theorem BytA.upto {w : World} {a : Option Addr} {l : List UInt8} (h : BytA w a l) (m : Nat) : BytA w a (l.take m) := by
  rcases h with rfl | ⟨b, o, e, hb, hc⟩
  · left; simp
  · right
    refine ⟨b, o, e, hb, fun j hj => ?_⟩
    have hj' : j < l.length := by rw [List.length_take] at hj; omega
    rw [hc j hj']; simp
theorem wpAnyH_mono {P : Program} {md : Region.Mode} {ops : Array Oper} {Q : Exit → Act → World → Prop} {S T : World → Prop} (h : ∀ w, T w → S w) : ∀ (fuel : Nat) (listed : Array Bool) (a : Act) (w : World), wpAnyH P md ops Q T fuel listed a w → wpAnyH P md ops Q S fuel listed a w
  | 0, _, _, _, k => k
  | fuel + 1, _, _, _, k => ⟨k.1, fun i hi => wpOp_mono (fun a' w' hw => ⟨h _ hw.1, wpAnyH_mono h fuel _ a' w' hw.2⟩) (k.2 i hi)⟩
theorem castP {P : Program} {md : Region.Mode} {ops : Array Oper} {Q : Exit → Act → World → Prop} {S : World → Prop} {fuel : Nat} {listed : Array Bool} {ts ts' : List Value} {df : List _} {o : Option Tmp} {d : Nat} {v : Value} {w : World} (hd : o = some d) (hts : ts.set d v = ts')
    (h : wpAnyH P md ops Q S fuel listed ⟨ts'.toArray, df⟩ w) : wpAnyH P md ops Q S fuel listed (Act.put ⟨ts.toArray, df⟩ o v) w := by
  subst hd hts
  simpa [Act.put] using h
theorem below_cell {w w' : World} {p : Addr} {v : Value} (hb : Below w.heap.size w w') (h : w.cell? p = some v) : w'.cell? p = some v := by
  rw [hb.cell (block_lt_of_cell h)]; exact h
end Go.Proofs.YtjdnekkbmanmdaaDoor
