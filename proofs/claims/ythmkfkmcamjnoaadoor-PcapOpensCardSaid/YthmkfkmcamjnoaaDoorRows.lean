/-
  NARROWER THAN 'FOR EVERY INPUT', by the rows' own cells (each row's printed sentence says how): PcapOpens: laid · PcapHeads: laid · PcapTimes: laid · PcapBack: laid.
  DERIVED. THE GIVEN ROWS OF THIS SEAT. 4 by the template 'for every input the law returns true; each argument reads behind the call as it read before'; 0 by the template 'total and deterministic' (their statements: YthmkfkmcamjnoaaDoorTotals.lean).
  GIVEN WITH THE SEED: the statements are not yours to turn. If you find one false, say at which input.
  Laid BY PROGRAM, IN A SANDBOX (cutbox-rows.mjs): the forced cells as the released guide's own fill.sh prints them over the translation ee14b8a2ce4e57ea… (all of the seat's roots in one cut). By AI agents, Wed Nov 11 2026. No macro, syntax, notation, axiom, sorry.
-/
import Derived.Test.YthmkfkmcamjnoaaDoorChecked
import GoSem.Claim
import GoSem.ClaimJoined
import GoSem.ClaimMapViews
import Derived.JoinedTies
import Derived.KernelRfl
namespace Go.Proofs.YthmkfkmcamjnoaaDoor
/- THE CELL 'sum', in the pinned program and in every row, IS THE sha256 OF THE DUMP (.gsa) THAT YthmkfkmcamjnoaaDoorProg.lean LOADS. Nothing in Lean hashes anything: it is a label: what it is worth is what the hold of that sum in a sandbox is worth. -/
noncomputable def Tryd.pinned : Pinned := { name := "ythmkfkmcamjnoaadoor", sum := "ee14b8a2ce4e57eaba82fdb5f88e8967560a5d17d3e59fb8c93758be6746ec62", checked := Tryd.checked }
namespace Rows
def none {H : Type} : Left H := { results := [], args := [] }

/- WHAT THE LISTED PACKAGE-LEVEL VARIABLES READ AS WHEN THE CALL BEGINS. Each datum BY PROGRAM (the guide's laid-datum.mjs) off the statement by which the dump's own 'gosem.cut.vars' lays the variable. In a bare row this is a premise. The card (YthmkfkmcamjnoaaDoorCards.lean) ties it to the program's text. -/
def laid_horologe_wide_least {H : Type} : DataW H := .agg [.lit (.int .i64 (-9223372036854775808)), .lit (.int .u64 0)]
def laid_horologe_wide_greatest {H : Type} : DataW H := .agg [.lit (.int .i64 9223372036854775807), .lit (.int .u64 18446744073709551615)]
def laid_horologe_pcap_magics {H : Type} : DataW H := .agg [.lit (.int .u64 2712847316), .lit (.int .u64 2712812621), .lit (.int .u64 3569595041), .lit (.int .u64 1295823521)]

/-- 'horologelaw08.PcapOpens': WHATEVER THE INPUT: true; the input reads as it did. -/
def pcapOpensSpec : ChangeSpec := { name := "pcapOpens", fn := fun _ => fun
  | [d1, d2] => { results := [.lit (.bool true)], args := [d1, d2] }
  | _ => none }
def pcapOpensRow : OpenClaim := { program := "ythmkfkmcamjnoaadoor", sum := "ee14b8a2ce4e57eaba82fdb5f88e8967560a5d17d3e59fb8c93758be6746ec62", func := "horologe/horologelaw08.PcapOpens", spec := "pcapOpens", inPlace := ["math/bits.Sub64", "math/bits.Add64"], unfollowed := true, recurses := true, named := ["horologe/pcap.magics", "horologe/wide.least", "horologe/wide.greatest", "math/bits.divideError", "math/bits.overflowError"], apart := false, laid := [("horologe/wide.least", laid_horologe_wide_least), ("horologe/wide.greatest", laid_horologe_wide_greatest), ("horologe/pcap.magics", laid_horologe_pcap_magics)] }
def PcapOpensSaid : Prop := pcapOpensRow.holds Tryd.pinned (OpenSpec.ofChange pcapOpensSpec)

/-- ITS FALSE NEIGHBOUR: 'it returns false'. Refute it at one input. -/
def pcapOpensWrong : ChangeSpec := { name := "pcapOpens", fn := fun _ => fun
  | [d1, d2] => { results := [.lit (.bool false)], args := [d1, d2] }
  | _ => none }
def PcapOpensWrongFalsely : Prop := pcapOpensRow.holds Tryd.pinned (OpenSpec.ofChange pcapOpensWrong)

/-- 'horologelaw08.PcapHeads': WHATEVER THE INPUT: true; the input reads as it did. -/
def pcapHeadsSpec : ChangeSpec := { name := "pcapHeads", fn := fun _ => fun
  | [d1, d2, d3, d4] => { results := [.lit (.bool true)], args := [d1, d2, d3, d4] }
  | _ => none }
def pcapHeadsRow : OpenClaim := { program := "ythmkfkmcamjnoaadoor", sum := "ee14b8a2ce4e57eaba82fdb5f88e8967560a5d17d3e59fb8c93758be6746ec62", func := "horologe/horologelaw08.PcapHeads", spec := "pcapHeads", inPlace := ["math/bits.Sub64", "math/bits.Add64"], unfollowed := true, recurses := true, named := ["horologe/pcap.magics", "horologe/wide.least", "horologe/wide.greatest", "math/bits.divideError", "math/bits.overflowError"], apart := false, laid := [("horologe/wide.least", laid_horologe_wide_least), ("horologe/wide.greatest", laid_horologe_wide_greatest), ("horologe/pcap.magics", laid_horologe_pcap_magics)] }
def PcapHeadsSaid : Prop := pcapHeadsRow.holds Tryd.pinned (OpenSpec.ofChange pcapHeadsSpec)

/-- ITS FALSE NEIGHBOUR: 'it returns false'. Refute it at one input. -/
def pcapHeadsWrong : ChangeSpec := { name := "pcapHeads", fn := fun _ => fun
  | [d1, d2, d3, d4] => { results := [.lit (.bool false)], args := [d1, d2, d3, d4] }
  | _ => none }
def PcapHeadsWrongFalsely : Prop := pcapHeadsRow.holds Tryd.pinned (OpenSpec.ofChange pcapHeadsWrong)

/-- 'horologelaw08.PcapTimes': WHATEVER THE INPUT: true; the input reads as it did. -/
def pcapTimesSpec : ChangeSpec := { name := "pcapTimes", fn := fun _ => fun
  | [d1, d2, d3] => { results := [.lit (.bool true)], args := [d1, d2, d3] }
  | _ => none }
def pcapTimesRow : OpenClaim := { program := "ythmkfkmcamjnoaadoor", sum := "ee14b8a2ce4e57eaba82fdb5f88e8967560a5d17d3e59fb8c93758be6746ec62", func := "horologe/horologelaw08.PcapTimes", spec := "pcapTimes", inPlace := ["math/bits.Sub64", "math/bits.Add64"], unfollowed := true, recurses := true, named := ["horologe/pcap.magics", "horologe/wide.least", "horologe/wide.greatest", "math/bits.divideError", "math/bits.overflowError"], apart := false, laid := [("horologe/wide.least", laid_horologe_wide_least), ("horologe/wide.greatest", laid_horologe_wide_greatest), ("horologe/pcap.magics", laid_horologe_pcap_magics)] }
def PcapTimesSaid : Prop := pcapTimesRow.holds Tryd.pinned (OpenSpec.ofChange pcapTimesSpec)

/-- ITS FALSE NEIGHBOUR: 'it returns false'. Refute it at one input. -/
def pcapTimesWrong : ChangeSpec := { name := "pcapTimes", fn := fun _ => fun
  | [d1, d2, d3] => { results := [.lit (.bool false)], args := [d1, d2, d3] }
  | _ => none }
def PcapTimesWrongFalsely : Prop := pcapTimesRow.holds Tryd.pinned (OpenSpec.ofChange pcapTimesWrong)

/-- 'horologelaw08.PcapBack': WHATEVER THE INPUT: true; the input reads as it did. -/
def pcapBackSpec : ChangeSpec := { name := "pcapBack", fn := fun _ => fun
  | [d1, d2, d3, d4, d5] => { results := [.lit (.bool true)], args := [d1, d2, d3, d4, d5] }
  | _ => none }
def pcapBackRow : OpenClaim := { program := "ythmkfkmcamjnoaadoor", sum := "ee14b8a2ce4e57eaba82fdb5f88e8967560a5d17d3e59fb8c93758be6746ec62", func := "horologe/horologelaw08.PcapBack", spec := "pcapBack", inPlace := ["math/bits.Sub64", "math/bits.Add64"], unfollowed := true, recurses := true, named := ["horologe/pcap.magics", "horologe/wide.least", "horologe/wide.greatest", "math/bits.divideError", "math/bits.overflowError"], apart := false, laid := [("horologe/wide.least", laid_horologe_wide_least), ("horologe/wide.greatest", laid_horologe_wide_greatest), ("horologe/pcap.magics", laid_horologe_pcap_magics)] }
def PcapBackSaid : Prop := pcapBackRow.holds Tryd.pinned (OpenSpec.ofChange pcapBackSpec)

/-- ITS FALSE NEIGHBOUR: 'it returns false'. Refute it at one input. -/
def pcapBackWrong : ChangeSpec := { name := "pcapBack", fn := fun _ => fun
  | [d1, d2, d3, d4, d5] => { results := [.lit (.bool false)], args := [d1, d2, d3, d4, d5] }
  | _ => none }
def PcapBackWrongFalsely : Prop := pcapBackRow.holds Tryd.pinned (OpenSpec.ofChange pcapBackWrong)

/- THE SECOND FORM. 'bulk': how many values and letters a reading holds, each counted each time it is reached (what is shared counts as often as it is met; a slice's spare places count too). A statement '..UptoSaid' is the law's where the arguments, and the package variables that the reading takes, are together of bulk at most 1048576: NARROWER than '..Said'. Prove '..Said' where nothing that the law and all that it calls make is longer than what came in: it says more and counts as full. Else prove '..UptoSaid'. A law counts once. -/
mutual
def uptoBulk {H : Type} : DataW H → Nat
  | .lit (.string bytes) => bytes.length + 1
  | .lit _ => 1
  | .nil => 1
  | .ptr d => uptoBulk d + 1
  | .slice elems spare => uptoBulkAll elems + uptoBulkAll spare + 1
  | .agg parts => uptoBulkAll parts + 1
  | .iface _ d => uptoBulk d + 1
  | .map entries => uptoBulkEntries entries + 1
  | .held _ => 1
def uptoBulkAll {H : Type} : List (DataW H) → Nat
  | [] => 0
  | d :: r => uptoBulk d + uptoBulkAll r
def uptoBulkEntries {H : Type} : List (Lit × DataW H) → Nat
  | [] => 0
  | x :: r => uptoBulkEntry x + uptoBulkEntries r
def uptoBulkEntry {H : Type} : Lit × DataW H → Nat
  | (.string bytes, d) => bytes.length + uptoBulk d + 1
  | (_, d) => uptoBulk d + 1
 end
def uptoSmall : (H : Type) → List (DataW H) → Bool := fun _ ds => decide (uptoBulkAll ds ≤ 1048576)
def OpenSpec.upto (s : _root_.Go.ChangeSpec) : _root_.Go.OpenSpec := { _root_.Go.OpenSpec.ofChange s with cond := some uptoSmall }

/-- 'horologelaw08.PcapOpens', WHERE WHAT IT READS IS OF BULK AT MOST 1048576: true; the input reads as it did. -/
def pcapOpensUptoRow : OpenClaim := { program := "ythmkfkmcamjnoaadoor", sum := "ee14b8a2ce4e57eaba82fdb5f88e8967560a5d17d3e59fb8c93758be6746ec62", func := "horologe/horologelaw08.PcapOpens", spec := "pcapOpens", inPlace := ["math/bits.Sub64", "math/bits.Add64"], unfollowed := true, recurses := true, named := ["horologe/pcap.magics", "horologe/wide.least", "horologe/wide.greatest", "math/bits.divideError", "math/bits.overflowError"], apart := false, laid := [("horologe/wide.least", laid_horologe_wide_least), ("horologe/wide.greatest", laid_horologe_wide_greatest), ("horologe/pcap.magics", laid_horologe_pcap_magics)], narrowed := true }
def PcapOpensUptoSaid : Prop := pcapOpensUptoRow.holds Tryd.pinned (OpenSpec.upto pcapOpensSpec)

/-- 'horologelaw08.PcapHeads', WHERE WHAT IT READS IS OF BULK AT MOST 1048576: true; the input reads as it did. -/
def pcapHeadsUptoRow : OpenClaim := { program := "ythmkfkmcamjnoaadoor", sum := "ee14b8a2ce4e57eaba82fdb5f88e8967560a5d17d3e59fb8c93758be6746ec62", func := "horologe/horologelaw08.PcapHeads", spec := "pcapHeads", inPlace := ["math/bits.Sub64", "math/bits.Add64"], unfollowed := true, recurses := true, named := ["horologe/pcap.magics", "horologe/wide.least", "horologe/wide.greatest", "math/bits.divideError", "math/bits.overflowError"], apart := false, laid := [("horologe/wide.least", laid_horologe_wide_least), ("horologe/wide.greatest", laid_horologe_wide_greatest), ("horologe/pcap.magics", laid_horologe_pcap_magics)], narrowed := true }
def PcapHeadsUptoSaid : Prop := pcapHeadsUptoRow.holds Tryd.pinned (OpenSpec.upto pcapHeadsSpec)

/-- 'horologelaw08.PcapTimes', WHERE WHAT IT READS IS OF BULK AT MOST 1048576: true; the input reads as it did. -/
def pcapTimesUptoRow : OpenClaim := { program := "ythmkfkmcamjnoaadoor", sum := "ee14b8a2ce4e57eaba82fdb5f88e8967560a5d17d3e59fb8c93758be6746ec62", func := "horologe/horologelaw08.PcapTimes", spec := "pcapTimes", inPlace := ["math/bits.Sub64", "math/bits.Add64"], unfollowed := true, recurses := true, named := ["horologe/pcap.magics", "horologe/wide.least", "horologe/wide.greatest", "math/bits.divideError", "math/bits.overflowError"], apart := false, laid := [("horologe/wide.least", laid_horologe_wide_least), ("horologe/wide.greatest", laid_horologe_wide_greatest), ("horologe/pcap.magics", laid_horologe_pcap_magics)], narrowed := true }
def PcapTimesUptoSaid : Prop := pcapTimesUptoRow.holds Tryd.pinned (OpenSpec.upto pcapTimesSpec)

/-- 'horologelaw08.PcapBack', WHERE WHAT IT READS IS OF BULK AT MOST 1048576: true; the input reads as it did. -/
def pcapBackUptoRow : OpenClaim := { program := "ythmkfkmcamjnoaadoor", sum := "ee14b8a2ce4e57eaba82fdb5f88e8967560a5d17d3e59fb8c93758be6746ec62", func := "horologe/horologelaw08.PcapBack", spec := "pcapBack", inPlace := ["math/bits.Sub64", "math/bits.Add64"], unfollowed := true, recurses := true, named := ["horologe/pcap.magics", "horologe/wide.least", "horologe/wide.greatest", "math/bits.divideError", "math/bits.overflowError"], apart := false, laid := [("horologe/wide.least", laid_horologe_wide_least), ("horologe/wide.greatest", laid_horologe_wide_greatest), ("horologe/pcap.magics", laid_horologe_pcap_magics)], narrowed := true }
def PcapBackUptoSaid : Prop := pcapBackUptoRow.holds Tryd.pinned (OpenSpec.upto pcapBackSpec)

end Rows
end Go.Proofs.YthmkfkmcamjnoaaDoor
