/-
  DERIVED. GIVEN WITH THE SEED: THE CARDS: each row of YtcipgagpmglikaaGreatDoorRows.lean that lists a variable, with what it lists TIED to the program's text (the seventh form; the later family's looks); each row that meets fmt, with fmt's text TOLD by the authors' own Lean function (tested against real Go, not proved from fmt's source: count such statements apart). THE CARD IS WHAT COUNTS. Prove the row's statement (the work); the ties are given (YtcipgagpmglikaaGreatDoorTie.lean); close each card by the builder's one call (the guide's Derived/Test/ToyasCard.lean, 'card_holds'). Laid BY PROGRAM, IN A SANDBOX (cutbox-door.mjs). By AI agents, Wed Nov 11 2026. No macro, syntax, notation, axiom, sorry.
-/
import Derived.Test.YtcipgagpmglikaaGreatDoorRows
import GoSem.ClaimSeven
namespace Go.Proofs.YtcipgagpmglikaaGreatDoor
namespace Rows

/-- THE TIED CARD OF 'horologelaw06.FaultBuilds'. -/
def faultBuildsCard : Claim7 := { stood := { row := faultBuildsRow, standIns := [], harness := (true, "e64c7d68ccad46ce9f42c03c9638b5b9b70dafc59f4bc6b2d3379242a7b49e5f"), looks := true }, kinds := [], alts := [], laidByText := true, laidKinds := [.data, .data, .data, .data, .data, .handle], laidTests := true, laidLooks := .later }
def FaultBuildsCardSaid : Prop := Claim7.holds Tryz.pinned (.plain (OpenSpec.ofChange faultBuildsSpec)) faultBuildsCard

/-- THE TIED CARD OF 'horologelaw06.FaultLines'. -/
def faultLinesCard : Claim7 := { stood := { row := faultLinesRow, standIns := [], harness := (true, "e64c7d68ccad46ce9f42c03c9638b5b9b70dafc59f4bc6b2d3379242a7b49e5f"), looks := true }, kinds := [], alts := [], laidByText := true, laidKinds := [.data, .data, .data, .data, .data, .handle], laidTests := true, laidLooks := .later }
def FaultLinesCardSaid : Prop := Claim7.holds Tryz.pinned (.plain (OpenSpec.ofChange faultLinesSpec)) faultLinesCard

/-- THE TIED CARD OF 'horologelaw06.FaultThrough'. -/
def faultThroughCard : Claim7 := { stood := { row := faultThroughRow, standIns := [], harness := (true, "e64c7d68ccad46ce9f42c03c9638b5b9b70dafc59f4bc6b2d3379242a7b49e5f"), looks := true }, kinds := [], alts := [], laidByText := true, laidKinds := [.data, .data, .data, .data, .data, .handle], laidTests := true, laidLooks := .later }
def FaultThroughCardSaid : Prop := Claim7.holds Tryz.pinned (.plain (OpenSpec.ofChange faultThroughSpec)) faultThroughCard

/-- THE SECOND FORM's CARD OF 'horologelaw06.FaultBuilds'. -/
def faultBuildsUptoCard : Claim7 := { stood := { row := faultBuildsUptoRow, standIns := [], harness := (true, "e64c7d68ccad46ce9f42c03c9638b5b9b70dafc59f4bc6b2d3379242a7b49e5f"), looks := true }, kinds := [], alts := [], laidByText := true, laidKinds := [.data, .data, .data, .data, .data, .handle], laidTests := true, laidLooks := .later }
def FaultBuildsUptoCardSaid : Prop := Claim7.holds Tryz.pinned (.plain (OpenSpec.upto faultBuildsSpec)) faultBuildsUptoCard

/-- THE SECOND FORM's CARD OF 'horologelaw06.FaultLines'. -/
def faultLinesUptoCard : Claim7 := { stood := { row := faultLinesUptoRow, standIns := [], harness := (true, "e64c7d68ccad46ce9f42c03c9638b5b9b70dafc59f4bc6b2d3379242a7b49e5f"), looks := true }, kinds := [], alts := [], laidByText := true, laidKinds := [.data, .data, .data, .data, .data, .handle], laidTests := true, laidLooks := .later }
def FaultLinesUptoCardSaid : Prop := Claim7.holds Tryz.pinned (.plain (OpenSpec.upto faultLinesSpec)) faultLinesUptoCard

/-- THE SECOND FORM's CARD OF 'horologelaw06.FaultThrough'. -/
def faultThroughUptoCard : Claim7 := { stood := { row := faultThroughUptoRow, standIns := [], harness := (true, "e64c7d68ccad46ce9f42c03c9638b5b9b70dafc59f4bc6b2d3379242a7b49e5f"), looks := true }, kinds := [], alts := [], laidByText := true, laidKinds := [.data, .data, .data, .data, .data, .handle], laidTests := true, laidLooks := .later }
def FaultThroughUptoCardSaid : Prop := Claim7.holds Tryz.pinned (.plain (OpenSpec.upto faultThroughSpec)) faultThroughUptoCard
end Rows
end Go.Proofs.YtcipgagpmglikaaGreatDoor
