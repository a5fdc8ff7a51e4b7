/-
  How the rows of the statements over addresses read: an address, a port, a text; the nine listed variables; the library's own.
-/
import Derived.Test.YthghanidabmfgaaGreatDoorOpen
import Derived.Test.YthghanidabmfgaaGreatDoorStd5
import Derived.Test.YthghanidabmfgaaGreatDoorAddrs2
import Derived.Shelf.Vars
import Derived.ChangeMaps5
import Derived.ChangeSlices
import Derived.Lib.LaidTab
import Derived.Lay
import Derived.HandedShaped
import Derived.RowKitTokens
namespace Go.Proofs.YthghanidabmfgaaGreatDoor
open Go.ChangeShapes Go.WideShapes Go.ChangeAt Go.RowKit
set_option maxRecDepth 100000
theorem gPow : Tryz.prog.globalNamed "internal/strconv.uint64pow10" = some 4 := by kernel_rfl
theorem tPow : (Tryz.prog.globals[4]?).map (·.type) = some 166 := by kernel_rfl
theorem gBru : Tryz.prog.globalNamed "math/bits.deBruijn64tab" = some 10 := by kernel_rfl
theorem tBru : (Tryz.prog.globals[10]?).map (·.type) = some 189 := by kernel_rfl
theorem gSyn : Tryz.prog.globalNamed "strconv.ErrSyntax" = some 7 := by kernel_rfl
theorem tSyn : (Tryz.prog.globals[7]?).map (·.type) = some 83 := by kernel_rfl
theorem gRan : Tryz.prog.globalNamed "strconv.ErrRange" = some 8 := by kernel_rfl
theorem tRan : (Tryz.prog.globals[8]?).map (·.type) = some 83 := by kernel_rfl
theorem cellsU8 : Tryz.prog.cellsOf 5 = 1 := by kernel_rfl
theorem cellsU64 : Tryz.prog.cellsOf 59 = 1 := by kernel_rfl
theorem cellsPow : Tryz.prog.cellsOf 166 = 20 := by kernel_rfl
theorem cellsBru : Tryz.prog.cellsOf 189 = 64 := by kernel_rfl
/-- What the rows list. -/
abbrev listed9 : List (String × DataW Unit) := [("math/bits.deBruijn32tab", Rows.laid_math_bits_deBruijn32tab), ("math/bits.deBruijn64tab", Rows.laid_math_bits_deBruijn64tab), ("internal/strconv.uint64pow10", Rows.laid_internal_strconv_uint64pow10), ("unicode/utf8.acceptRanges", Rows.laid_unicode_utf8_acceptRanges), ("horologe/wide.least", Rows.laid_horologe_wide_least), ("horologe/wide.greatest", Rows.laid_horologe_wide_greatest), ("strconv.ErrRange", Rows.laid_strconv_ErrRange), ("strconv.ErrSyntax", Rows.laid_strconv_ErrSyntax), ("unicode/utf8.first", Rows.laid_unicode_utf8_first)]
theorem pow_data {H : Type} : (Rows.laid_internal_strconv_uint64pow10 : DataW H) = Lib.tabData .u64 Lib.pow10Tab := by kernel_rfl
def bruTab : List Int := [0, 1, 56, 2, 57, 49, 28, 3, 61, 58, 42, 50, 38, 29, 17, 4, 62, 47, 59, 36, 45, 43, 51, 22, 53, 39, 33, 30, 24, 18, 12, 5, 63, 55, 48, 27, 60, 41, 37, 16, 46, 35, 44, 21, 52, 32, 23, 11, 54, 26, 40, 15, 34, 20, 31, 10, 25, 14, 19, 9, 13, 8, 7, 6]
theorem bru_data {H : Type} : (Rows.laid_math_bits_deBruijn64tab : DataW H) = Lib.tabData .u8 bruTab := by kernel_rfl
theorem iface_cells {H : Type} {enc : TypeId × Value → H} {P : Program} {W : World} {base : Nat} {sp : Nat → Bool} {held : Bool} {fuel : Nat} {t : TypeId} {ms : Array (String × TypeId)} {cs : List Value} {y : DataW H × List MemPlace}
    (ht : P.underlying t = some (.interface ms)) (h : DataW.trod enc P W base sp held fuel t cs = some y) : ∃ v, cs = [v] ∧ (v = .nilIface ∨ ∃ te pe, v = .iface te pe) := by
  cases fuel with
  | zero => simp [DataW.trod] at h
  | succ n =>
    match cs, h with
    | [], h => simp [DataW.trod, ht] at h
    | [v], h => refine ⟨v, rfl, ?_⟩; cases v <;> simp [DataW.trod, ht] at h <;> simp
    | _ :: _ :: _, h => simp [DataW.trod, ht] at h
theorem var_cell {w : World} {n : String} {g : Nat} {cs : Array Value} (hg : Tryz.prog.globalNamed n = some g) (h : w.var? Tryz.prog n = some cs) (i : Nat) {v : Value} (hv : cs[i]? = some v) : w.cell? ⟨g, i, none⟩ = some v := (World.var?_cell hg h i).trans hv
theorem maxLen_of_shaped {W : World} (h : W.ShapedOpen Tryz.prog) : Some1 W 0 :=
  cell_of_shapedOpen_int (P := Tryz.prog) (g := 0) (t := 3) (zero := #[.int .i64 0]) h (of_decide_eq_true (by kernel_rfl)) (by kernel_rfl) rfl (by kernel_rfl) (by kernel_rfl) Tryz.underlying3
theorem err_of_laid {W : World} {n : String} {g : Nat} {t : TypeId} {cs : Array Value} {fuel : Nat} {y : DataW Unit × List MemPlace} (hg : Tryz.prog.globalNamed n = some g) (hv : W.var? Tryz.prog n = some cs)
    {enc : TypeId × Value → Unit} {base : Nat} {sp : Nat → Bool} {held : Bool} {ms : Array (String × TypeId)} (ht : Tryz.prog.underlying t = some (.interface ms)) (hd : DataW.trod enc Tryz.prog W base sp held fuel t cs.toList = some y) : SomeErr W g := by
  obtain ⟨v, hc, hv'⟩ := iface_cells ht hd
  refine ⟨v, var_cell hg hv 0 ?_, hv'⟩
  rw [← Array.getElem?_toList, hc]
  rfl
theorem env5_of_laid {W : World} (h : laidMetH Tryz.prog listed9 W) (hsh : W.ShapedOpen Tryz.prog) : Env5 W := by
  rw [MakeChecks.laidMetH_plain _ _ _ (by kernel_rfl)] at h
  obtain ⟨ps, ⟨ga, ta, csa, fa, pa, qa, hga, hta, hva, hda, ⟨gb, tb, csb, fb, pb, qb, hgb, htb, hvb, hdb, ⟨gc, tc, csc, fc, pc, qc, hgc, htc, hvc, hdc, ⟨gd, td, csd, fd, pd, qd, hgd, htd, hvd, hdd, ⟨g0, t0, cs0, f0, p0, q0, hg0, ht0, hv0, hd0, ⟨g1, t1, cs1, f1, p1, q1, hg1, ht1, hv1, hd1, ⟨g2, t2, cs2, f2, p2, q2, hg2, ht2, hv2, hd2, ⟨g3, t3, cs3, f3, p3, q3, hg3, ht3, hv3, hd3, _, _⟩, _⟩, _⟩, _⟩, _⟩, _⟩, _⟩, _⟩, _, _⟩ := h
  clear hda hga hta hva hdd hgd htd hvd
  obtain rfl := Option.some.inj (gLeast.symm.trans hg0)
  obtain rfl := Option.some.inj (gGreatest.symm.trans hg1)
  obtain rfl := Option.some.inj (gPow.symm.trans hgc)
  obtain rfl := Option.some.inj (gBru.symm.trans hgb)
  obtain rfl := Option.some.inj (gRan.symm.trans hg2)
  obtain rfl := Option.some.inj (gSyn.symm.trans hg3)
  obtain rfl := Option.some.inj (tLeast.symm.trans ht0)
  obtain rfl := Option.some.inj (tGreatest.symm.trans ht1)
  obtain rfl := Option.some.inj (tPow.symm.trans htc)
  obtain rfl := Option.some.inj (tBru.symm.trans htb)
  obtain rfl := Option.some.inj (tRan.symm.trans ht2)
  obtain rfl := Option.some.inj (tSyn.symm.trans ht3)
  obtain rfl := cells_of_laid hd0
  obtain rfl := cells_of_laid hd1
  have c0 := World.var?_cell hg0 hv0 0
  have c1 := World.var?_cell hg0 hv0 1
  have c2 := World.var?_cell hg1 hv1 0
  have c3 := World.var?_cell hg1 hv1 1
  refine ⟨⟨⟨c0.trans rfl, c1.trans rfl, c2.trans rfl, c3.trans rfl, block_lt_of_cell (c0.trans rfl), block_lt_of_cell (c2.trans rfl)⟩, ?_⟩, maxLen_of_shaped hsh, err_of_laid hg3 hv3 Tryz.underlying83 hd3, err_of_laid hg2 hv2 Tryz.underlying83 hd2, ?_⟩
  · unfold Tab Lib.TabIs
    rw [hvc]
    have e := Lib.cells_of_tab (zs := Lib.pow10Tab) Tryz.underlying166 Tryz.underlying59 cellsU64 cellsPow (pow_data ▸ hdc)
    rw [← e]
  · have e := Lib.cells_of_tab (zs := bruTab) Tryz.underlying189 Tryz.underlying5 cellsU8 cellsBru (bru_data ▸ hdb)
    refine var_cell hgb hvb 15 ?_
    rw [← Array.getElem?_toList, e]
    rfl
section
variable {H : Type} {enc : TypeId × Value → H} {w : World} {base : Nat} {spare : Nat → Bool} {held : Bool}
theorem wf_u8 {n : Int} (h : (Lit.int .u8 n).wf = true) : 0 ≤ n ∧ n ≤ 255 := by
  simp [Lit.wf, IntKind.min, IntKind.max, IntKind.signed, IntKind.bits] at h; omega
theorem wf_u16 {n : Int} (h : (Lit.int .u16 n).wf = true) : 0 ≤ n ∧ n ≤ 65535 := by
  simp [Lit.wf, IntKind.min, IntKind.max, IntKind.signed, IntKind.bits] at h; omega
theorem cellsAddr : Tryz.prog.cellsOf 24 = 17 := by kernel_rfl
theorem cellsArr : Tryz.prog.cellsOf 22 = 16 := by kernel_rfl
theorem cellsB : Tryz.prog.cellsOf 4 = 1 := by kernel_rfl
/-- An argument that is an address. -/
theorem open_addr {r : Reach} {b0 : Nat} {v : Value} {d : DataW H} {p : List MemPlace} (hv : Value.okWide Tryz.prog w r b0 24 v) (h : DataW.Trod enc Tryz.prog w base spare held 24 v d p) :
    ∃ six b, IsA b ∧ v = .agg (adC six b) := by
  obtain ⟨cs, rfl, hsz⟩ := okWide_struct Tryz.underlying24 hv
  obtain ⟨fuel, hf⟩ := h
  obtain ⟨y0, y1, n, hx, hl, h0, h1⟩ := trod_struct2 Tryz.underlying24 hf
  rw [cellsAddr] at hsz
  obtain ⟨l⟩ := cs
  cases l with
  | nil => simp at hsz
  | cons c l =>
    have hl16 : l.length = 16 := by simpa using hsz
    have k0 : DataW.trod enc Tryz.prog w base spare held n 4 [c] = some y0 := by
      have e : List.take (Tryz.prog.cellsOf 4) (List.drop 0 (Value.cells (.agg ⟨c :: l⟩)).toList) = [c] := by rw [cellsB]; rfl
      have := h0
      exact e ▸ this
    have k1 : DataW.trod enc Tryz.prog w base spare held n 22 l = some y1 := by
      have e : List.take (Tryz.prog.cellsOf 22) (List.drop 1 (Value.cells (.agg ⟨c :: l⟩)).toList) = l := by rw [cellsArr]; exact List.take_of_length_le (show l.length ≤ 16 by omega)
      have := h1
      exact e ▸ this
    obtain ⟨six, e0, _⟩ := DataW.trod_bool Tryz.underlying4 k0
    obtain ⟨xs, m, _, ex, hlen, hxs, hel⟩ := DataW.trod_array Tryz.underlying22 k1
    have hz : ∀ i (hi : i < 16), ∃ z, l[i]? = some (.int .u8 z) ∧ Byte z := by
      intro i hi
      have hE := hel i hi
      rw [cellsU8, Nat.mul_one, List.getElem?_eq_getElem (by omega)] at hE
      obtain ⟨z, e1, e2, wz⟩ := DataW.trod_int Tryz.underlying5 hE
      refine ⟨z, ?_, wf_u8 wz⟩
      have h0 : ((l.drop i).take 1)[0]? = some (.int .u8 z) := by rw [e1]; rfl
      simpa using h0
    refine ⟨six, l.map fun c => match c with | .int _ z => z | _ => 0, ⟨by simp [hl16], ?_⟩, ?_⟩
    · intro n hn
      obtain ⟨c', hc', rfl⟩ := List.mem_map.1 hn
      obtain ⟨i, hi, rfl⟩ := List.getElem_of_mem hc'
      obtain ⟨z, e, hb⟩ := hz i (by omega)
      rw [List.getElem?_eq_getElem hi] at e
      rw [Option.some.inj e]
      exact hb
    · simp at e0
      subst e0
      congr 1
      unfold adC adL ints
      congr 2
      rw [List.map_map]
      symm
      refine List.ext_getElem (by simp) fun i h1 h2 => ?_
      obtain ⟨z, e, hb⟩ := hz i (by omega)
      rw [List.getElem?_eq_getElem (by omega)] at e
      simp [Option.some.inj e]
end
end Go.Proofs.YthghanidabmfgaaGreatDoor
