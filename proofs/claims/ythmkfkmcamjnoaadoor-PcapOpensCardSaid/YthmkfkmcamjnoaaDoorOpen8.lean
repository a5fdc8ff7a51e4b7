/-
  How the rows of the statements of layer 8 read: a file's header, a record's header; the three listed variables.
-/
import Derived.Test.YthmkfkmcamjnoaaDoorOpen
import Derived.Test.YthmkfkmcamjnoaaDoorOpen7
import Derived.Test.YthmkfkmcamjnoaaDoorPKnown8
import Derived.Lib.LaidTab
namespace Go.Proofs.YthmkfkmcamjnoaaDoor
open Go.ChangeShapes Go.WideShapes Go.ChangeAt Go.RowKit
set_option maxRecDepth 100000
theorem gMags : Tryd.prog.globalNamed "horologe/pcap.magics" = some 0 := by kernel_rfl
theorem tMags : (Tryd.prog.globals[0]?).map (·.type) = some 82 := by kernel_rfl
theorem cellsU64 : Tryd.prog.cellsOf 36 = 1 := by kernel_rfl
theorem cellsMags : Tryd.prog.cellsOf 82 = 4 := by kernel_rfl
theorem cellsFile : Tryd.prog.cellsOf 26 = 4 := by kernel_rfl
theorem cellsHead : Tryd.prog.cellsOf 43 = 4 := by kernel_rfl
def magTab : List Int := [2712847316, 2712812621, 3569595041, 1295823521]
/-- What the rows list. -/
abbrev listed3 {H : Type} : List (String × DataW H) := [("horologe/wide.least", Rows.laid_horologe_wide_least), ("horologe/wide.greatest", Rows.laid_horologe_wide_greatest), ("horologe/pcap.magics", Rows.laid_horologe_pcap_magics)]
theorem mag_data {H : Type} : (Rows.laid_horologe_pcap_magics : DataW H) = Lib.tabData .u64 magTab := by kernel_rfl
theorem env_of_laid {W : World} (h : laidMetH Tryd.prog listed3 W) : EnvP W := by
  rw [MakeChecks.laidMetH_plain _ _ _ (by kernel_rfl)] at h
  obtain ⟨ps, ⟨g0, t0, cs0, f0, p0, q0, hg0, ht0, hv0, hd0, ⟨g1, t1, cs1, f1, p1, q1, hg1, ht1, hv1, hd1, ⟨g2, t2, cs2, f2, p2, q2, hg2, ht2, hv2, hd2, _, _⟩, _⟩, _⟩, _, _⟩ := h
  obtain rfl := Option.some.inj (gLeast.symm.trans hg0)
  obtain rfl := Option.some.inj (gGreatest.symm.trans hg1)
  obtain rfl := Option.some.inj (gMags.symm.trans hg2)
  obtain rfl := Option.some.inj (tLeast.symm.trans ht0)
  obtain rfl := Option.some.inj (tGreatest.symm.trans ht1)
  obtain rfl := Option.some.inj (tMags.symm.trans ht2)
  obtain rfl := cells_of_laid hd0
  obtain rfl := cells_of_laid hd1
  have c0 := World.var?_cell hg0 hv0 0
  have c1 := World.var?_cell hg0 hv0 1
  have c2 := World.var?_cell hg1 hv1 0
  have c3 := World.var?_cell hg1 hv1 1
  have e := Lib.cells_of_tab (zs := magTab) Tryd.underlying82 Tryd.underlying36 cellsU64 cellsMags (mag_data ▸ hd2)
  have m0 := World.var?_cell hg2 hv2 0
  have m1 := World.var?_cell hg2 hv2 1
  have m2 := World.var?_cell hg2 hv2 2
  have m3 := World.var?_cell hg2 hv2 3
  have ea : cs2 = #[.int .u64 2712847316, .int .u64 2712812621, .int .u64 3569595041, .int .u64 1295823521] := by
    obtain ⟨l⟩ := cs2
    simp only [magTab, List.map_cons, List.map_nil] at e
    rw [e]
  subst ea
  exact ⟨⟨c0.trans rfl, c1.trans rfl, c2.trans rfl, c3.trans rfl, block_lt_of_cell (c0.trans rfl), block_lt_of_cell (c2.trans rfl)⟩, m0.trans rfl, m1.trans rfl, m2.trans rfl, m3.trans rfl, block_lt_of_cell (m0.trans rfl)⟩
/-- The door's own heap meets the condition: closed facts. -/
theorem door8 (os : Os) (args : Array Value) : laidMetH Tryd.prog listed3 ((World.doorLaid Tryd.prog 400 os).forCall (fun _ _ => 0) ⟨#[], args, []⟩).memory :=
  laidMetH_of_parts3 (fuel := 16) (laidMet_of_run' 16 (by kernel_rfl) (by kernel_rfl)) (by kernel_rfl) (by kernel_rfl)
section
variable {H : Type} {enc : TypeId × Value → H} {w : World} {base : Nat} {spare : Nat → Bool} {held : Bool}
theorem nat_of {x : Int} {m : Nat} (h : 0 ≤ x ∧ x ≤ m) : ∃ n : Nat, x = n ∧ n ≤ m := ⟨x.toNat, by omega, by omega⟩
/-- An argument that is a record's header. -/
theorem open_head {r : Reach} {b0 : Nat} {v : Value} {d : DataW H} {p : List MemPlace} (hv : Value.okWide Tryd.prog w r b0 43 v) (h : DataW.Trod enc Tryd.prog w base spare held 43 v d p) :
    ∃ y0 y1 y2 y3 : Nat, (y0 < 4294967296 ∧ y1 < 4294967296 ∧ y2 < 4294967296 ∧ y3 < 4294967296) ∧ v = (.agg #[.int .u32 y0, .int .u32 y1, .int .u32 y2, .int .u32 y3]) := by
  obtain ⟨c0, c1, c2, c3, z0, z1, z2, z3, m, rfl, _, _, hz0, hz1, hz2, hz3⟩ := Joins.open_agg4 Tryd.underlying43 (by kernel_rfl) cellsHead hv h
  obtain ⟨n0, e0, _, w0⟩ := DataW.trod_int Tryd.underlying24 hz0
  obtain ⟨n1, e1, _, w1⟩ := DataW.trod_int Tryd.underlying24 hz1
  obtain ⟨n2, e2, _, w2⟩ := DataW.trod_int Tryd.underlying24 hz2
  obtain ⟨n3, e3, _, w3⟩ := DataW.trod_int Tryd.underlying24 hz3
  simp at e0 e1 e2 e3
  subst e0 e1 e2 e3
  obtain ⟨y0, rfl, h0⟩ := nat_of (m := 4294967295) (wf_u32 w0)
  obtain ⟨y1, rfl, h1⟩ := nat_of (m := 4294967295) (wf_u32 w1)
  obtain ⟨y2, rfl, h2⟩ := nat_of (m := 4294967295) (wf_u32 w2)
  obtain ⟨y3, rfl, h3⟩ := nat_of (m := 4294967295) (wf_u32 w3)
  exact ⟨y0, y1, y2, y3, ⟨by omega, by omega, by omega, by omega⟩, rfl⟩
/-- An argument that is a file's header. -/
theorem open_file {r : Reach} {b0 : Nat} {v : Value} {d : DataW H} {p : List MemPlace} (hv : Value.okWide Tryd.prog w r b0 26 v) (h : DataW.Trod enc Tryd.prog w base spare held 26 v d p) :
    ∃ (a b : Bool) (k s : Nat), (k < 65536 ∧ s < 4294967296) ∧ v = (.agg #[.bool a, .bool b, .int .u16 k, .int .u32 s]) := by
  obtain ⟨c0, c1, c2, c3, z0, z1, z2, z3, m, rfl, _, _, hz0, hz1, hz2, hz3⟩ := Joins.open_agg4 Tryd.underlying26 (by kernel_rfl) cellsFile hv h
  obtain ⟨a, e0, _⟩ := DataW.trod_bool Tryd.underlying4 hz0
  obtain ⟨b, e1, _⟩ := DataW.trod_bool Tryd.underlying4 hz1
  obtain ⟨n2, e2, _, w2⟩ := DataW.trod_int Tryd.underlying23 hz2
  obtain ⟨n3, e3, _, w3⟩ := DataW.trod_int Tryd.underlying24 hz3
  simp at e0 e1 e2 e3
  subst e0 e1 e2 e3
  obtain ⟨k, rfl, h2⟩ := nat_of (m := 65535) (wf_u16 w2)
  obtain ⟨s, rfl, h3⟩ := nat_of (m := 4294967295) (wf_u32 w3)
  exact ⟨a, b, k, s, ⟨by omega, by omega⟩, rfl⟩
end
end Go.Proofs.YthmkfkmcamjnoaaDoor
