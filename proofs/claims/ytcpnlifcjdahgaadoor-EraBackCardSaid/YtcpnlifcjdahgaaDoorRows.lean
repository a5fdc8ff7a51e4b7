/-
  NARROWER THAN 'FOR EVERY INPUT', by the rows' own cells (each row's printed sentence says how): EraUnix: laid · EraBack: laid · EraOrder: laid.
  DERIVED. THE GIVEN ROWS OF THIS SEAT. 3 by the template 'for every input the law returns true; each argument reads behind the call as it read before'; 0 by the template 'total and deterministic' (their statements: YtcpnlifcjdahgaaDoorTotals.lean).
  GIVEN WITH THE SEED: the statements are not yours to turn. If you find one false, say at which input.
  Laid BY PROGRAM, IN A SANDBOX (cutbox-rows.mjs): the forced cells as the released guide's own fill.sh prints them over the translation 84e921519454ac60… (all of the seat's roots in one cut). By AI agents, Wed Nov 11 2026. No macro, syntax, notation, axiom, sorry.
-/
import Derived.Test.YtcpnlifcjdahgaaDoorChecked
import GoSem.Claim
import GoSem.ClaimJoined
import GoSem.ClaimMapViews
import Derived.JoinedTies
import Derived.KernelRfl
namespace Go.Proofs.YtcpnlifcjdahgaaDoor
/- THE CELL 'sum', in the pinned program and in every row, IS THE sha256 OF THE DUMP (.gsa) THAT YtcpnlifcjdahgaaDoorProg.lean LOADS. Nothing in Lean hashes anything: it is a label: what it is worth is what the hold of that sum in a sandbox is worth. -/
noncomputable def Tryd.pinned : Pinned := { name := "ytcpnlifcjdahgaadoor", sum := "84e921519454ac60e0a07109daf97b9e395abc73ef2b07130836d2b28c852731", checked := Tryd.checked }
namespace Rows
def none {H : Type} : Left H := { results := [], args := [] }

/- WHAT THE LISTED PACKAGE-LEVEL VARIABLES READ AS WHEN THE CALL BEGINS. Each datum BY PROGRAM (the guide's laid-datum.mjs) off the statement by which the dump's own 'gosem.cut.vars' lays the variable. In a bare row this is a premise. The card (YtcpnlifcjdahgaaDoorCards.lean) ties it to the program's text. -/
def laid_horologe_wide_least {H : Type} : DataW H := .agg [.lit (.int .i64 (-9223372036854775808)), .lit (.int .u64 0)]
def laid_horologe_wide_greatest {H : Type} : DataW H := .agg [.lit (.int .i64 9223372036854775807), .lit (.int .u64 18446744073709551615)]

/-- 'horologelaw03.EraUnix': WHATEVER THE INPUT: true; the input reads as it did. -/
def eraUnixSpec : ChangeSpec := { name := "eraUnix", fn := fun _ => fun
  | [d1, d2, d3] => { results := [.lit (.bool true)], args := [d1, d2, d3] }
  | _ => none }
def eraUnixRow : OpenClaim := { program := "ytcpnlifcjdahgaadoor", sum := "84e921519454ac60e0a07109daf97b9e395abc73ef2b07130836d2b28c852731", func := "horologe/horologelaw03.EraUnix", spec := "eraUnix", inPlace := ["math/bits.Sub64", "math/bits.Add64"], unfollowed := true, recurses := true, named := ["horologe/wide.least", "horologe/wide.greatest", "math/bits.divideError", "math/bits.overflowError"], apart := false, laid := [("horologe/wide.least", laid_horologe_wide_least), ("horologe/wide.greatest", laid_horologe_wide_greatest)] }
def EraUnixSaid : Prop := eraUnixRow.holds Tryd.pinned (OpenSpec.ofChange eraUnixSpec)

/-- ITS FALSE NEIGHBOUR: 'it returns false'. Refute it at one input. -/
def eraUnixWrong : ChangeSpec := { name := "eraUnix", fn := fun _ => fun
  | [d1, d2, d3] => { results := [.lit (.bool false)], args := [d1, d2, d3] }
  | _ => none }
def EraUnixWrongFalsely : Prop := eraUnixRow.holds Tryd.pinned (OpenSpec.ofChange eraUnixWrong)

/-- 'horologelaw03.EraBack': WHATEVER THE INPUT: true; the input reads as it did. -/
def eraBackSpec : ChangeSpec := { name := "eraBack", fn := fun _ => fun
  | [d1, d2, d3] => { results := [.lit (.bool true)], args := [d1, d2, d3] }
  | _ => none }
def eraBackRow : OpenClaim := { program := "ytcpnlifcjdahgaadoor", sum := "84e921519454ac60e0a07109daf97b9e395abc73ef2b07130836d2b28c852731", func := "horologe/horologelaw03.EraBack", spec := "eraBack", inPlace := ["math/bits.Sub64", "math/bits.Add64"], unfollowed := true, recurses := true, named := ["horologe/wide.least", "horologe/wide.greatest"], apart := false, laid := [("horologe/wide.least", laid_horologe_wide_least), ("horologe/wide.greatest", laid_horologe_wide_greatest)] }
def EraBackSaid : Prop := eraBackRow.holds Tryd.pinned (OpenSpec.ofChange eraBackSpec)

/-- ITS FALSE NEIGHBOUR: 'it returns false'. Refute it at one input. -/
def eraBackWrong : ChangeSpec := { name := "eraBack", fn := fun _ => fun
  | [d1, d2, d3] => { results := [.lit (.bool false)], args := [d1, d2, d3] }
  | _ => none }
def EraBackWrongFalsely : Prop := eraBackRow.holds Tryd.pinned (OpenSpec.ofChange eraBackWrong)

/-- 'horologelaw03.EraOrder': WHATEVER THE INPUT: true; the input reads as it did. -/
def eraOrderSpec : ChangeSpec := { name := "eraOrder", fn := fun _ => fun
  | [d1, d2, d3, d4, d5, d6, d7] => { results := [.lit (.bool true)], args := [d1, d2, d3, d4, d5, d6, d7] }
  | _ => none }
def eraOrderRow : OpenClaim := { program := "ytcpnlifcjdahgaadoor", sum := "84e921519454ac60e0a07109daf97b9e395abc73ef2b07130836d2b28c852731", func := "horologe/horologelaw03.EraOrder", spec := "eraOrder", inPlace := ["math/bits.Sub64", "math/bits.Add64"], unfollowed := true, recurses := true, named := ["horologe/wide.least", "horologe/wide.greatest", "math/bits.divideError", "math/bits.overflowError"], apart := false, laid := [("horologe/wide.least", laid_horologe_wide_least), ("horologe/wide.greatest", laid_horologe_wide_greatest)] }
def EraOrderSaid : Prop := eraOrderRow.holds Tryd.pinned (OpenSpec.ofChange eraOrderSpec)

/-- ITS FALSE NEIGHBOUR: 'it returns false'. Refute it at one input. -/
def eraOrderWrong : ChangeSpec := { name := "eraOrder", fn := fun _ => fun
  | [d1, d2, d3, d4, d5, d6, d7] => { results := [.lit (.bool false)], args := [d1, d2, d3, d4, d5, d6, d7] }
  | _ => none }
def EraOrderWrongFalsely : Prop := eraOrderRow.holds Tryd.pinned (OpenSpec.ofChange eraOrderWrong)

/- THE SECOND FORM. 'bulk': how many values and letters a reading holds, each counted each time it is reached (what is shared counts as often as it is met; a slice's spare places count too). A statement '..UptoSaid' is the law's where the arguments, and the package variables that the reading takes, are together of bulk at most 1048576: NARROWER than '..Said'. Prove '..Said' where nothing that the law and all that it calls make is longer than what came in: it says more and counts as full. Else prove '..UptoSaid'. A law counts once. -/
mutual
def uptoBulk {H : Type} : DataW H → Nat
  | .lit (.string bytes) => bytes.length + 1
  | .lit _ => 1
  | .nil => 1
  | .ptr d => uptoBulk d + 1
  | .slice elems spare => uptoBulkAll elems + uptoBulkAll spare + 1
  | .agg parts => uptoBulkAll parts + 1
  | .iface _ d => uptoBulk d + 1
  | .map entries => uptoBulkEntries entries + 1
  | .held _ => 1
def uptoBulkAll {H : Type} : List (DataW H) → Nat
  | [] => 0
  | d :: r => uptoBulk d + uptoBulkAll r
def uptoBulkEntries {H : Type} : List (Lit × DataW H) → Nat
  | [] => 0
  | x :: r => uptoBulkEntry x + uptoBulkEntries r
def uptoBulkEntry {H : Type} : Lit × DataW H → Nat
  | (.string bytes, d) => bytes.length + uptoBulk d + 1
  | (_, d) => uptoBulk d + 1
 end
def uptoSmall : (H : Type) → List (DataW H) → Bool := fun _ ds => decide (uptoBulkAll ds ≤ 1048576)
def OpenSpec.upto (s : _root_.Go.ChangeSpec) : _root_.Go.OpenSpec := { _root_.Go.OpenSpec.ofChange s with cond := some uptoSmall }

/-- 'horologelaw03.EraUnix', WHERE WHAT IT READS IS OF BULK AT MOST 1048576: true; the input reads as it did. -/
def eraUnixUptoRow : OpenClaim := { program := "ytcpnlifcjdahgaadoor", sum := "84e921519454ac60e0a07109daf97b9e395abc73ef2b07130836d2b28c852731", func := "horologe/horologelaw03.EraUnix", spec := "eraUnix", inPlace := ["math/bits.Sub64", "math/bits.Add64"], unfollowed := true, recurses := true, named := ["horologe/wide.least", "horologe/wide.greatest", "math/bits.divideError", "math/bits.overflowError"], apart := false, laid := [("horologe/wide.least", laid_horologe_wide_least), ("horologe/wide.greatest", laid_horologe_wide_greatest)], narrowed := true }
def EraUnixUptoSaid : Prop := eraUnixUptoRow.holds Tryd.pinned (OpenSpec.upto eraUnixSpec)

/-- 'horologelaw03.EraBack', WHERE WHAT IT READS IS OF BULK AT MOST 1048576: true; the input reads as it did. -/
def eraBackUptoRow : OpenClaim := { program := "ytcpnlifcjdahgaadoor", sum := "84e921519454ac60e0a07109daf97b9e395abc73ef2b07130836d2b28c852731", func := "horologe/horologelaw03.EraBack", spec := "eraBack", inPlace := ["math/bits.Sub64", "math/bits.Add64"], unfollowed := true, recurses := true, named := ["horologe/wide.least", "horologe/wide.greatest"], apart := false, laid := [("horologe/wide.least", laid_horologe_wide_least), ("horologe/wide.greatest", laid_horologe_wide_greatest)], narrowed := true }
def EraBackUptoSaid : Prop := eraBackUptoRow.holds Tryd.pinned (OpenSpec.upto eraBackSpec)

/-- 'horologelaw03.EraOrder', WHERE WHAT IT READS IS OF BULK AT MOST 1048576: true; the input reads as it did. -/
def eraOrderUptoRow : OpenClaim := { program := "ytcpnlifcjdahgaadoor", sum := "84e921519454ac60e0a07109daf97b9e395abc73ef2b07130836d2b28c852731", func := "horologe/horologelaw03.EraOrder", spec := "eraOrder", inPlace := ["math/bits.Sub64", "math/bits.Add64"], unfollowed := true, recurses := true, named := ["horologe/wide.least", "horologe/wide.greatest", "math/bits.divideError", "math/bits.overflowError"], apart := false, laid := [("horologe/wide.least", laid_horologe_wide_least), ("horologe/wide.greatest", laid_horologe_wide_greatest)], narrowed := true }
def EraOrderUptoSaid : Prop := eraOrderUptoRow.holds Tryd.pinned (OpenSpec.upto eraOrderSpec)

end Rows
end Go.Proofs.YtcpnlifcjdahgaaDoor
