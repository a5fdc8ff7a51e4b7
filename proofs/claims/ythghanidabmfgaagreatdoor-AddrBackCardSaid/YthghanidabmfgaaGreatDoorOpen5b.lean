/-
  The ten listed variables of the statement that calls strings.ToUpper.
-/
import Derived.Test.YthghanidabmfgaaGreatDoorOpen5
import Derived.Test.YthghanidabmfgaaGreatDoorShelf
import Derived.Lib.LaidCase
import Derived.PinnedBridge
namespace Go.Proofs.YthghanidabmfgaaGreatDoor
open Go.ChangeShapes Go.WideShapes Go.ChangeAt Go.RowKit
set_option maxRecDepth 100000
/-- What the row lists. -/
abbrev listed10 : List (String × DataW Unit) := [("math/bits.deBruijn32tab", Rows.laid_math_bits_deBruijn32tab), ("math/bits.deBruijn64tab", Rows.laid_math_bits_deBruijn64tab), ("internal/strconv.uint64pow10", Rows.laid_internal_strconv_uint64pow10), ("unicode/utf8.acceptRanges", Rows.laid_unicode_utf8_acceptRanges), ("horologe/wide.least", Rows.laid_horologe_wide_least), ("horologe/wide.greatest", Rows.laid_horologe_wide_greatest), ("strconv.ErrRange", Rows.laid_strconv_ErrRange), ("strconv.ErrSyntax", Rows.laid_strconv_ErrSyntax), ("unicode.CaseRanges", Rows.laid_unicode_CaseRanges), ("unicode/utf8.first", Rows.laid_unicode_utf8_first)]
theorem env5_of_ten {W : World} (h : laidMetH Tryz.prog listed10 W) (hsh : W.ShapedOpen Tryz.prog) : Env5 W := by
  rw [MakeChecks.laidMetH_plain _ _ _ (by kernel_rfl)] at h
  obtain ⟨ps, ⟨ga, ta, csa, fa, pa, qa, hga, hta, hva, hda, ⟨gb, tb, csb, fb, pb, qb, hgb, htb, hvb, hdb, ⟨gc, tc, csc, fc, pc, qc, hgc, htc, hvc, hdc, ⟨gd, td, csd, fd, pd, qd, hgd, htd, hvd, hdd, ⟨g0, t0, cs0, f0, p0, q0, hg0, ht0, hv0, hd0, ⟨g1, t1, cs1, f1, p1, q1, hg1, ht1, hv1, hd1, ⟨g2, t2, cs2, f2, p2, q2, hg2, ht2, hv2, hd2, ⟨g3, t3, cs3, f3, p3, q3, hg3, ht3, hv3, hd3, _, _⟩, _⟩, _⟩, _⟩, _⟩, _⟩, _⟩, _⟩, _, _⟩ := h
  clear hda hga hta hva hdd hgd htd hvd
  obtain rfl := Option.some.inj (gLeast.symm.trans hg0)
  obtain rfl := Option.some.inj (gGreatest.symm.trans hg1)
  obtain rfl := Option.some.inj (gPow.symm.trans hgc)
  obtain rfl := Option.some.inj (gBru.symm.trans hgb)
  obtain rfl := Option.some.inj (gRan.symm.trans hg2)
  obtain rfl := Option.some.inj (gSyn.symm.trans hg3)
  obtain rfl := Option.some.inj (tLeast.symm.trans ht0)
  obtain rfl := Option.some.inj (tGreatest.symm.trans ht1)
  obtain rfl := Option.some.inj (tPow.symm.trans htc)
  obtain rfl := Option.some.inj (tBru.symm.trans htb)
  obtain rfl := Option.some.inj (tRan.symm.trans ht2)
  obtain rfl := Option.some.inj (tSyn.symm.trans ht3)
  obtain rfl := cells_of_laid hd0
  obtain rfl := cells_of_laid hd1
  have c0 := World.var?_cell hg0 hv0 0
  have c1 := World.var?_cell hg0 hv0 1
  have c2 := World.var?_cell hg1 hv1 0
  have c3 := World.var?_cell hg1 hv1 1
  refine ⟨⟨⟨c0.trans rfl, c1.trans rfl, c2.trans rfl, c3.trans rfl, block_lt_of_cell (c0.trans rfl), block_lt_of_cell (c2.trans rfl)⟩, ?_⟩, maxLen_of_shaped hsh, err_of_laid hg3 hv3 Tryz.underlying83 hd3, err_of_laid hg2 hv2 Tryz.underlying83 hd2, ?_⟩
  · unfold Tab Lib.TabIs
    rw [hvc]
    have e := Lib.cells_of_tab (zs := Lib.pow10Tab) Tryz.underlying166 Tryz.underlying59 cellsU64 cellsPow (pow_data ▸ hdc)
    rw [← e]
  · have e := Lib.cells_of_tab (zs := bruTab) Tryz.underlying189 Tryz.underlying5 cellsU8 cellsBru (bru_data ▸ hdb)
    refine var_cell hgb hvb 15 ?_
    rw [← Array.getElem?_toList, e]
    rfl
/-- What strings.ToUpper wants too. -/
def Env6 (w : World) : Prop := Env5 w ∧ Lib.CaseVar 1 Lib.caseA w ∧ Lib.Utf8Tabs 2 3 w
theorem Env6.below {w w' : World} (h : Env6 w) (hb : Below w.heap.size w w') : Env6 w' := by
  have k : ∀ {a : Addr} {v : Value}, w.cell? a = some v → w'.cell? a = some v := fun {a v} hc => (hb.cell (World.block_lt_of_cell? w a hc)).trans hc
  exact ⟨h.1.below hb, Lib.CaseVar_below h.2.1 hb, fun c hc => k (h.2.2.1 c hc), fun i hi => ⟨k (h.2.2.2 i hi).1, k (h.2.2.2 i hi).2⟩⟩
theorem caseX : CaseExtra Tryz.prog Tryz.lays158_ren := ⟨by kernel_rfl, by kernel_rfl, by kernel_rfl, by kernel_rfl, by kernel_rfl, by kernel_rfl⟩
theorem u8X : U8Extra Tryz.prog Tryz.lays158_ren := ⟨by kernel_rfl, by kernel_rfl, by kernel_rfl, by kernel_rfl, by kernel_rfl, by kernel_rfl, by kernel_rfl⟩
theorem env5_of_laid10 {W : World} (h : laidMetH Tryz.prog listed10 W) (hsh : W.ShapedOpen Tryz.prog) : Env6 W := by
  refine ⟨env5_of_ten h hsh, ?_, ?_⟩
  · rw [MakeChecks.laidMetH_plain _ _ _ (by kernel_rfl)] at h
    have r := Lib.laidMet.reads (show laidMet Tryz.prog listed10 W from h) (n := "unicode.CaseRanges") (d := Rows.laid_unicode_CaseRanges) (by simp)
    rw [show (Rows.laid_unicode_CaseRanges : DataW Unit) = Lib.caseData from Pinned.caseRanges_eq] at r
    exact caseVar_of_reads { Tryz.lays158 with } Tryz.lays158.t206 caseX r
  · rw [MakeChecks.laidMetH_plain _ _ _ (by kernel_rfl)] at h
    have r1 := Lib.laidMet.reads (show laidMet Tryz.prog listed10 W from h) (n := "unicode/utf8.first") (d := Rows.laid_unicode_utf8_first) (by simp)
    have r2 := Lib.laidMet.reads (show laidMet Tryz.prog listed10 W from h) (n := "unicode/utf8.acceptRanges") (d := Rows.laid_unicode_utf8_acceptRanges) (by simp)
    exact utf8Tabs_of_reads { Tryz.lays158 with } u8X r1 r2
end Go.Proofs.YthghanidabmfgaaGreatDoor
