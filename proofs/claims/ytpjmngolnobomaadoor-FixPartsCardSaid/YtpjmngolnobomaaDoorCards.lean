/-
  DERIVED. GIVEN WITH THE SEED: THE CARDS: each row of YtpjmngolnobomaaDoorRows.lean that lists a variable, with what it lists TIED to the program's text (the seventh form; the later family's looks); each row that meets fmt, with fmt's text TOLD by the authors' own Lean function (tested against real Go, not proved from fmt's source: count such statements apart). THE CARD IS WHAT COUNTS. Prove the row's statement (the work); the ties are given (YtpjmngolnobomaaDoorTie.lean); close each card by the builder's one call (the guide's Derived/Test/ToyasCard.lean, 'card_holds'). Laid BY PROGRAM, IN A SANDBOX (cutbox-door.mjs). By AI agents, Wed Nov 11 2026. No macro, syntax, notation, axiom, sorry.
-/
import Derived.Test.YtpjmngolnobomaaDoorRows
import GoSem.ClaimSeven
namespace Go.Proofs.YtpjmngolnobomaaDoor
namespace Rows

/-- THE TIED CARD OF 'horologelaw02.FixMoments'. -/
def fixMomentsCard : Claim7 := { stood := { row := fixMomentsRow, standIns := [], harness := (true, "e027abb7c2e5f664d8d5e5904be473c22f0013220ae901bd5f5e7063ece2fc2c"), looks := false }, kinds := [], alts := [], laidByText := true, laidKinds := [.data, .data], laidTests := true, laidLooks := .later }
def FixMomentsCardSaid : Prop := Claim7.holds Tryd.pinned (.plain (OpenSpec.ofChange fixMomentsSpec)) fixMomentsCard

/-- THE TIED CARD OF 'horologelaw02.FixParts'. -/
def fixPartsCard : Claim7 := { stood := { row := fixPartsRow, standIns := [], harness := (true, "e027abb7c2e5f664d8d5e5904be473c22f0013220ae901bd5f5e7063ece2fc2c"), looks := false }, kinds := [], alts := [], laidByText := true, laidKinds := [.data, .data], laidTests := true, laidLooks := .later }
def FixPartsCardSaid : Prop := Claim7.holds Tryd.pinned (.plain (OpenSpec.ofChange fixPartsSpec)) fixPartsCard

/-- THE TIED CARD OF 'horologelaw02.FixExchanges'. -/
def fixExchangesCard : Claim7 := { stood := { row := fixExchangesRow, standIns := [], harness := (true, "e027abb7c2e5f664d8d5e5904be473c22f0013220ae901bd5f5e7063ece2fc2c"), looks := false }, kinds := [], alts := [], laidByText := true, laidKinds := [.data, .data], laidTests := true, laidLooks := .later }
def FixExchangesCardSaid : Prop := Claim7.holds Tryd.pinned (.plain (OpenSpec.ofChange fixExchangesSpec)) fixExchangesCard

/-- THE TIED CARD OF 'horologelaw02.FixBack'. -/
def fixBackCard : Claim7 := { stood := { row := fixBackRow, standIns := [], harness := (true, "e027abb7c2e5f664d8d5e5904be473c22f0013220ae901bd5f5e7063ece2fc2c"), looks := false }, kinds := [], alts := [], laidByText := true, laidKinds := [.data, .data], laidTests := true, laidLooks := .later }
def FixBackCardSaid : Prop := Claim7.holds Tryd.pinned (.plain (OpenSpec.ofChange fixBackSpec)) fixBackCard

/-- THE TIED CARD OF 'horologelaw02.FixMoves'. -/
def fixMovesCard : Claim7 := { stood := { row := fixMovesRow, standIns := [], harness := (true, "e027abb7c2e5f664d8d5e5904be473c22f0013220ae901bd5f5e7063ece2fc2c"), looks := false }, kinds := [], alts := [], laidByText := true, laidKinds := [.data, .data], laidTests := true, laidLooks := .later }
def FixMovesCardSaid : Prop := Claim7.holds Tryd.pinned (.plain (OpenSpec.ofChange fixMovesSpec)) fixMovesCard

/-- THE SECOND FORM's CARD OF 'horologelaw02.FixMoments'. -/
def fixMomentsUptoCard : Claim7 := { stood := { row := fixMomentsUptoRow, standIns := [], harness := (true, "e027abb7c2e5f664d8d5e5904be473c22f0013220ae901bd5f5e7063ece2fc2c"), looks := false }, kinds := [], alts := [], laidByText := true, laidKinds := [.data, .data], laidTests := true, laidLooks := .later }
def FixMomentsUptoCardSaid : Prop := Claim7.holds Tryd.pinned (.plain (OpenSpec.upto fixMomentsSpec)) fixMomentsUptoCard

/-- THE SECOND FORM's CARD OF 'horologelaw02.FixParts'. -/
def fixPartsUptoCard : Claim7 := { stood := { row := fixPartsUptoRow, standIns := [], harness := (true, "e027abb7c2e5f664d8d5e5904be473c22f0013220ae901bd5f5e7063ece2fc2c"), looks := false }, kinds := [], alts := [], laidByText := true, laidKinds := [.data, .data], laidTests := true, laidLooks := .later }
def FixPartsUptoCardSaid : Prop := Claim7.holds Tryd.pinned (.plain (OpenSpec.upto fixPartsSpec)) fixPartsUptoCard

/-- THE SECOND FORM's CARD OF 'horologelaw02.FixExchanges'. -/
def fixExchangesUptoCard : Claim7 := { stood := { row := fixExchangesUptoRow, standIns := [], harness := (true, "e027abb7c2e5f664d8d5e5904be473c22f0013220ae901bd5f5e7063ece2fc2c"), looks := false }, kinds := [], alts := [], laidByText := true, laidKinds := [.data, .data], laidTests := true, laidLooks := .later }
def FixExchangesUptoCardSaid : Prop := Claim7.holds Tryd.pinned (.plain (OpenSpec.upto fixExchangesSpec)) fixExchangesUptoCard

/-- THE SECOND FORM's CARD OF 'horologelaw02.FixBack'. -/
def fixBackUptoCard : Claim7 := { stood := { row := fixBackUptoRow, standIns := [], harness := (true, "e027abb7c2e5f664d8d5e5904be473c22f0013220ae901bd5f5e7063ece2fc2c"), looks := false }, kinds := [], alts := [], laidByText := true, laidKinds := [.data, .data], laidTests := true, laidLooks := .later }
def FixBackUptoCardSaid : Prop := Claim7.holds Tryd.pinned (.plain (OpenSpec.upto fixBackSpec)) fixBackUptoCard

/-- THE SECOND FORM's CARD OF 'horologelaw02.FixMoves'. -/
def fixMovesUptoCard : Claim7 := { stood := { row := fixMovesUptoRow, standIns := [], harness := (true, "e027abb7c2e5f664d8d5e5904be473c22f0013220ae901bd5f5e7063ece2fc2c"), looks := false }, kinds := [], alts := [], laidByText := true, laidKinds := [.data, .data], laidTests := true, laidLooks := .later }
def FixMovesUptoCardSaid : Prop := Claim7.holds Tryd.pinned (.plain (OpenSpec.upto fixMovesSpec)) fixMovesUptoCard
end Rows
end Go.Proofs.YtpjmngolnobomaaDoor
