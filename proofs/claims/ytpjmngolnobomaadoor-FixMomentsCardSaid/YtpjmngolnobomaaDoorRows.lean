/-
  NARROWER THAN 'FOR EVERY INPUT', by the rows' own cells (each row's printed sentence says how): FixMoments: laid · FixParts: laid · FixExchanges: laid · FixBack: laid · FixMoves: laid.
  DERIVED. THE GIVEN ROWS OF THIS SEAT. 5 by the template 'for every input the law returns true; each argument reads behind the call as it read before'; 0 by the template 'total and deterministic' (their statements: YtpjmngolnobomaaDoorTotals.lean).
  GIVEN WITH THE SEED: the statements are not yours to turn. If you find one false, say at which input.
  Laid BY PROGRAM, IN A SANDBOX (cutbox-rows.mjs): the forced cells as the released guide's own fill.sh prints them over the translation 0bca5a8bb6abffa6… (all of the seat's roots in one cut). By AI agents, Wed Nov 11 2026. No macro, syntax, notation, axiom, sorry.
-/
import Derived.Test.YtpjmngolnobomaaDoorChecked
import GoSem.Claim
import GoSem.ClaimJoined
import GoSem.ClaimMapViews
import Derived.JoinedTies
import Derived.KernelRfl
namespace Go.Proofs.YtpjmngolnobomaaDoor
/- THE CELL 'sum', in the pinned program and in every row, IS THE sha256 OF THE DUMP (.gsa) THAT YtpjmngolnobomaaDoorProg.lean LOADS. Nothing in Lean hashes anything: it is a label: what it is worth is what the hold of that sum in a sandbox is worth. -/
noncomputable def Tryd.pinned : Pinned := { name := "ytpjmngolnobomaadoor", sum := "0bca5a8bb6abffa63bc8bfe446597930ed3ffadbe6aff403a55bbf7717abed5f", checked := Tryd.checked }
namespace Rows
def none {H : Type} : Left H := { results := [], args := [] }

/- WHAT THE LISTED PACKAGE-LEVEL VARIABLES READ AS WHEN THE CALL BEGINS. Each datum BY PROGRAM (the guide's laid-datum.mjs) off the statement by which the dump's own 'gosem.cut.vars' lays the variable. In a bare row this is a premise. The card (YtpjmngolnobomaaDoorCards.lean) ties it to the program's text. -/
def laid_horologe_wide_least {H : Type} : DataW H := .agg [.lit (.int .i64 (-9223372036854775808)), .lit (.int .u64 0)]
def laid_horologe_wide_greatest {H : Type} : DataW H := .agg [.lit (.int .i64 9223372036854775807), .lit (.int .u64 18446744073709551615)]

/-- 'horologelaw02.FixMoments': WHATEVER THE INPUT: true; the input reads as it did. -/
def fixMomentsSpec : ChangeSpec := { name := "fixMoments", fn := fun _ => fun
  | [d1, d2, d3, d4] => { results := [.lit (.bool true)], args := [d1, d2, d3, d4] }
  | _ => none }
def fixMomentsRow : OpenClaim := { program := "ytpjmngolnobomaadoor", sum := "0bca5a8bb6abffa63bc8bfe446597930ed3ffadbe6aff403a55bbf7717abed5f", func := "horologe/horologelaw02.FixMoments", spec := "fixMoments", inPlace := ["math/bits.Sub64", "math/bits.Add64"], unfollowed := true, recurses := true, named := ["horologe/wide.least", "horologe/wide.greatest", "math/bits.divideError", "math/bits.overflowError"], apart := false, laid := [("horologe/wide.least", laid_horologe_wide_least), ("horologe/wide.greatest", laid_horologe_wide_greatest)] }
def FixMomentsSaid : Prop := fixMomentsRow.holds Tryd.pinned (OpenSpec.ofChange fixMomentsSpec)

/-- ITS FALSE NEIGHBOUR: 'it returns false'. Refute it at one input. -/
def fixMomentsWrong : ChangeSpec := { name := "fixMoments", fn := fun _ => fun
  | [d1, d2, d3, d4] => { results := [.lit (.bool false)], args := [d1, d2, d3, d4] }
  | _ => none }
def FixMomentsWrongFalsely : Prop := fixMomentsRow.holds Tryd.pinned (OpenSpec.ofChange fixMomentsWrong)

/-- 'horologelaw02.FixParts': WHATEVER THE INPUT: true; the input reads as it did. -/
def fixPartsSpec : ChangeSpec := { name := "fixParts", fn := fun _ => fun
  | [d1, d2, d3] => { results := [.lit (.bool true)], args := [d1, d2, d3] }
  | _ => none }
def fixPartsRow : OpenClaim := { program := "ytpjmngolnobomaadoor", sum := "0bca5a8bb6abffa63bc8bfe446597930ed3ffadbe6aff403a55bbf7717abed5f", func := "horologe/horologelaw02.FixParts", spec := "fixParts", inPlace := ["math/bits.Sub64", "math/bits.Add64"], unfollowed := true, recurses := true, named := ["horologe/wide.least", "horologe/wide.greatest", "math/bits.divideError", "math/bits.overflowError"], apart := false, laid := [("horologe/wide.least", laid_horologe_wide_least), ("horologe/wide.greatest", laid_horologe_wide_greatest)] }
def FixPartsSaid : Prop := fixPartsRow.holds Tryd.pinned (OpenSpec.ofChange fixPartsSpec)

/-- ITS FALSE NEIGHBOUR: 'it returns false'. Refute it at one input. -/
def fixPartsWrong : ChangeSpec := { name := "fixParts", fn := fun _ => fun
  | [d1, d2, d3] => { results := [.lit (.bool false)], args := [d1, d2, d3] }
  | _ => none }
def FixPartsWrongFalsely : Prop := fixPartsRow.holds Tryd.pinned (OpenSpec.ofChange fixPartsWrong)

/-- 'horologelaw02.FixExchanges': WHATEVER THE INPUT: true; the input reads as it did. -/
def fixExchangesSpec : ChangeSpec := { name := "fixExchanges", fn := fun _ => fun
  | [d1, d2, d3, d4] => { results := [.lit (.bool true)], args := [d1, d2, d3, d4] }
  | _ => none }
def fixExchangesRow : OpenClaim := { program := "ytpjmngolnobomaadoor", sum := "0bca5a8bb6abffa63bc8bfe446597930ed3ffadbe6aff403a55bbf7717abed5f", func := "horologe/horologelaw02.FixExchanges", spec := "fixExchanges", inPlace := ["math/bits.Sub64", "math/bits.Add64"], unfollowed := true, recurses := true, named := ["horologe/wide.least", "horologe/wide.greatest", "math/bits.divideError", "math/bits.overflowError"], apart := false, laid := [("horologe/wide.least", laid_horologe_wide_least), ("horologe/wide.greatest", laid_horologe_wide_greatest)] }
def FixExchangesSaid : Prop := fixExchangesRow.holds Tryd.pinned (OpenSpec.ofChange fixExchangesSpec)

/-- ITS FALSE NEIGHBOUR: 'it returns false'. Refute it at one input. -/
def fixExchangesWrong : ChangeSpec := { name := "fixExchanges", fn := fun _ => fun
  | [d1, d2, d3, d4] => { results := [.lit (.bool false)], args := [d1, d2, d3, d4] }
  | _ => none }
def FixExchangesWrongFalsely : Prop := fixExchangesRow.holds Tryd.pinned (OpenSpec.ofChange fixExchangesWrong)

/-- 'horologelaw02.FixBack': WHATEVER THE INPUT: true; the input reads as it did. -/
def fixBackSpec : ChangeSpec := { name := "fixBack", fn := fun _ => fun
  | [d1, d2, d3, d4, d5] => { results := [.lit (.bool true)], args := [d1, d2, d3, d4, d5] }
  | _ => none }
def fixBackRow : OpenClaim := { program := "ytpjmngolnobomaadoor", sum := "0bca5a8bb6abffa63bc8bfe446597930ed3ffadbe6aff403a55bbf7717abed5f", func := "horologe/horologelaw02.FixBack", spec := "fixBack", inPlace := ["math/bits.Sub64", "math/bits.Add64"], unfollowed := true, recurses := true, named := ["horologe/wide.least", "horologe/wide.greatest", "math/bits.divideError", "math/bits.overflowError"], apart := false, laid := [("horologe/wide.least", laid_horologe_wide_least), ("horologe/wide.greatest", laid_horologe_wide_greatest)] }
def FixBackSaid : Prop := fixBackRow.holds Tryd.pinned (OpenSpec.ofChange fixBackSpec)

/-- ITS FALSE NEIGHBOUR: 'it returns false'. Refute it at one input. -/
def fixBackWrong : ChangeSpec := { name := "fixBack", fn := fun _ => fun
  | [d1, d2, d3, d4, d5] => { results := [.lit (.bool false)], args := [d1, d2, d3, d4, d5] }
  | _ => none }
def FixBackWrongFalsely : Prop := fixBackRow.holds Tryd.pinned (OpenSpec.ofChange fixBackWrong)

/-- 'horologelaw02.FixMoves': WHATEVER THE INPUT: true; the input reads as it did. -/
def fixMovesSpec : ChangeSpec := { name := "fixMoves", fn := fun _ => fun
  | [d1, d2, d3, d4, d5, d6] => { results := [.lit (.bool true)], args := [d1, d2, d3, d4, d5, d6] }
  | _ => none }
def fixMovesRow : OpenClaim := { program := "ytpjmngolnobomaadoor", sum := "0bca5a8bb6abffa63bc8bfe446597930ed3ffadbe6aff403a55bbf7717abed5f", func := "horologe/horologelaw02.FixMoves", spec := "fixMoves", inPlace := ["math/bits.Sub64", "math/bits.Add64"], unfollowed := true, recurses := true, named := ["horologe/wide.least", "horologe/wide.greatest", "math/bits.divideError", "math/bits.overflowError"], apart := false, laid := [("horologe/wide.least", laid_horologe_wide_least), ("horologe/wide.greatest", laid_horologe_wide_greatest)] }
def FixMovesSaid : Prop := fixMovesRow.holds Tryd.pinned (OpenSpec.ofChange fixMovesSpec)

/-- ITS FALSE NEIGHBOUR: 'it returns false'. Refute it at one input. -/
def fixMovesWrong : ChangeSpec := { name := "fixMoves", fn := fun _ => fun
  | [d1, d2, d3, d4, d5, d6] => { results := [.lit (.bool false)], args := [d1, d2, d3, d4, d5, d6] }
  | _ => none }
def FixMovesWrongFalsely : Prop := fixMovesRow.holds Tryd.pinned (OpenSpec.ofChange fixMovesWrong)

/- THE SECOND FORM. 'bulk': how many values and letters a reading holds, each counted each time it is reached (what is shared counts as often as it is met; a slice's spare places count too). A statement '..UptoSaid' is the law's where the arguments, and the package variables that the reading takes, are together of bulk at most 1048576: NARROWER than '..Said'. Prove '..Said' where nothing that the law and all that it calls make is longer than what came in: it says more and counts as full. Else prove '..UptoSaid'. A law counts once. -/
mutual
def uptoBulk {H : Type} : DataW H → Nat
  | .lit (.string bytes) => bytes.length + 1
  | .lit _ => 1
  | .nil => 1
  | .ptr d => uptoBulk d + 1
  | .slice elems spare => uptoBulkAll elems + uptoBulkAll spare + 1
  | .agg parts => uptoBulkAll parts + 1
  | .iface _ d => uptoBulk d + 1
  | .map entries => uptoBulkEntries entries + 1
  | .held _ => 1
def uptoBulkAll {H : Type} : List (DataW H) → Nat
  | [] => 0
  | d :: r => uptoBulk d + uptoBulkAll r
def uptoBulkEntries {H : Type} : List (Lit × DataW H) → Nat
  | [] => 0
  | x :: r => uptoBulkEntry x + uptoBulkEntries r
def uptoBulkEntry {H : Type} : Lit × DataW H → Nat
  | (.string bytes, d) => bytes.length + uptoBulk d + 1
  | (_, d) => uptoBulk d + 1
 end
def uptoSmall : (H : Type) → List (DataW H) → Bool := fun _ ds => decide (uptoBulkAll ds ≤ 1048576)
def OpenSpec.upto (s : _root_.Go.ChangeSpec) : _root_.Go.OpenSpec := { _root_.Go.OpenSpec.ofChange s with cond := some uptoSmall }

/-- 'horologelaw02.FixMoments', WHERE WHAT IT READS IS OF BULK AT MOST 1048576: true; the input reads as it did. -/
def fixMomentsUptoRow : OpenClaim := { program := "ytpjmngolnobomaadoor", sum := "0bca5a8bb6abffa63bc8bfe446597930ed3ffadbe6aff403a55bbf7717abed5f", func := "horologe/horologelaw02.FixMoments", spec := "fixMoments", inPlace := ["math/bits.Sub64", "math/bits.Add64"], unfollowed := true, recurses := true, named := ["horologe/wide.least", "horologe/wide.greatest", "math/bits.divideError", "math/bits.overflowError"], apart := false, laid := [("horologe/wide.least", laid_horologe_wide_least), ("horologe/wide.greatest", laid_horologe_wide_greatest)], narrowed := true }
def FixMomentsUptoSaid : Prop := fixMomentsUptoRow.holds Tryd.pinned (OpenSpec.upto fixMomentsSpec)

/-- 'horologelaw02.FixParts', WHERE WHAT IT READS IS OF BULK AT MOST 1048576: true; the input reads as it did. -/
def fixPartsUptoRow : OpenClaim := { program := "ytpjmngolnobomaadoor", sum := "0bca5a8bb6abffa63bc8bfe446597930ed3ffadbe6aff403a55bbf7717abed5f", func := "horologe/horologelaw02.FixParts", spec := "fixParts", inPlace := ["math/bits.Sub64", "math/bits.Add64"], unfollowed := true, recurses := true, named := ["horologe/wide.least", "horologe/wide.greatest", "math/bits.divideError", "math/bits.overflowError"], apart := false, laid := [("horologe/wide.least", laid_horologe_wide_least), ("horologe/wide.greatest", laid_horologe_wide_greatest)], narrowed := true }
def FixPartsUptoSaid : Prop := fixPartsUptoRow.holds Tryd.pinned (OpenSpec.upto fixPartsSpec)

/-- 'horologelaw02.FixExchanges', WHERE WHAT IT READS IS OF BULK AT MOST 1048576: true; the input reads as it did. -/
def fixExchangesUptoRow : OpenClaim := { program := "ytpjmngolnobomaadoor", sum := "0bca5a8bb6abffa63bc8bfe446597930ed3ffadbe6aff403a55bbf7717abed5f", func := "horologe/horologelaw02.FixExchanges", spec := "fixExchanges", inPlace := ["math/bits.Sub64", "math/bits.Add64"], unfollowed := true, recurses := true, named := ["horologe/wide.least", "horologe/wide.greatest", "math/bits.divideError", "math/bits.overflowError"], apart := false, laid := [("horologe/wide.least", laid_horologe_wide_least), ("horologe/wide.greatest", laid_horologe_wide_greatest)], narrowed := true }
def FixExchangesUptoSaid : Prop := fixExchangesUptoRow.holds Tryd.pinned (OpenSpec.upto fixExchangesSpec)

/-- 'horologelaw02.FixBack', WHERE WHAT IT READS IS OF BULK AT MOST 1048576: true; the input reads as it did. -/
def fixBackUptoRow : OpenClaim := { program := "ytpjmngolnobomaadoor", sum := "0bca5a8bb6abffa63bc8bfe446597930ed3ffadbe6aff403a55bbf7717abed5f", func := "horologe/horologelaw02.FixBack", spec := "fixBack", inPlace := ["math/bits.Sub64", "math/bits.Add64"], unfollowed := true, recurses := true, named := ["horologe/wide.least", "horologe/wide.greatest", "math/bits.divideError", "math/bits.overflowError"], apart := false, laid := [("horologe/wide.least", laid_horologe_wide_least), ("horologe/wide.greatest", laid_horologe_wide_greatest)], narrowed := true }
def FixBackUptoSaid : Prop := fixBackUptoRow.holds Tryd.pinned (OpenSpec.upto fixBackSpec)

/-- 'horologelaw02.FixMoves', WHERE WHAT IT READS IS OF BULK AT MOST 1048576: true; the input reads as it did. -/
def fixMovesUptoRow : OpenClaim := { program := "ytpjmngolnobomaadoor", sum := "0bca5a8bb6abffa63bc8bfe446597930ed3ffadbe6aff403a55bbf7717abed5f", func := "horologe/horologelaw02.FixMoves", spec := "fixMoves", inPlace := ["math/bits.Sub64", "math/bits.Add64"], unfollowed := true, recurses := true, named := ["horologe/wide.least", "horologe/wide.greatest", "math/bits.divideError", "math/bits.overflowError"], apart := false, laid := [("horologe/wide.least", laid_horologe_wide_least), ("horologe/wide.greatest", laid_horologe_wide_greatest)], narrowed := true }
def FixMovesUptoSaid : Prop := fixMovesUptoRow.holds Tryd.pinned (OpenSpec.upto fixMovesSpec)

end Rows
end Go.Proofs.YtpjmngolnobomaaDoor
