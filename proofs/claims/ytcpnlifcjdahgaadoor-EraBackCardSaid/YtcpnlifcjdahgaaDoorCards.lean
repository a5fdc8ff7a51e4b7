/-
  DERIVED. GIVEN WITH THE SEED: THE CARDS: each row of YtcpnlifcjdahgaaDoorRows.lean that lists a variable, with what it lists TIED to the program's text (the seventh form; the later family's looks); each row that meets fmt, with fmt's text TOLD by the authors' own Lean function (tested against real Go, not proved from fmt's source: count such statements apart). THE CARD IS WHAT COUNTS. Prove the row's statement (the work); the ties are given (YtcpnlifcjdahgaaDoorTie.lean); close each card by the builder's one call (the guide's Derived/Test/ToyasCard.lean, 'card_holds'). Laid BY PROGRAM, IN A SANDBOX (cutbox-door.mjs). By AI agents, Wed Nov 11 2026. No macro, syntax, notation, axiom, sorry.
-/
import Derived.Test.YtcpnlifcjdahgaaDoorRows
import GoSem.ClaimSeven
namespace Go.Proofs.YtcpnlifcjdahgaaDoor
namespace Rows

/-- THE TIED CARD OF 'horologelaw03.EraUnix'. -/
def eraUnixCard : Claim7 := { stood := { row := eraUnixRow, standIns := [], harness := (true, "75ea11af231cd1494e3e793d7a906e2d95f894d10d99ed0d7330b20b7a6bb3d4"), looks := false }, kinds := [], alts := [], laidByText := true, laidKinds := [.data, .data], laidTests := true, laidLooks := .later }
def EraUnixCardSaid : Prop := Claim7.holds Tryd.pinned (.plain (OpenSpec.ofChange eraUnixSpec)) eraUnixCard

/-- THE TIED CARD OF 'horologelaw03.EraBack'. -/
def eraBackCard : Claim7 := { stood := { row := eraBackRow, standIns := [], harness := (true, "75ea11af231cd1494e3e793d7a906e2d95f894d10d99ed0d7330b20b7a6bb3d4"), looks := false }, kinds := [], alts := [], laidByText := true, laidKinds := [.data, .data], laidTests := true, laidLooks := .later }
def EraBackCardSaid : Prop := Claim7.holds Tryd.pinned (.plain (OpenSpec.ofChange eraBackSpec)) eraBackCard

/-- THE TIED CARD OF 'horologelaw03.EraOrder'. -/
def eraOrderCard : Claim7 := { stood := { row := eraOrderRow, standIns := [], harness := (true, "75ea11af231cd1494e3e793d7a906e2d95f894d10d99ed0d7330b20b7a6bb3d4"), looks := false }, kinds := [], alts := [], laidByText := true, laidKinds := [.data, .data], laidTests := true, laidLooks := .later }
def EraOrderCardSaid : Prop := Claim7.holds Tryd.pinned (.plain (OpenSpec.ofChange eraOrderSpec)) eraOrderCard

/-- THE SECOND FORM's CARD OF 'horologelaw03.EraUnix'. -/
def eraUnixUptoCard : Claim7 := { stood := { row := eraUnixUptoRow, standIns := [], harness := (true, "75ea11af231cd1494e3e793d7a906e2d95f894d10d99ed0d7330b20b7a6bb3d4"), looks := false }, kinds := [], alts := [], laidByText := true, laidKinds := [.data, .data], laidTests := true, laidLooks := .later }
def EraUnixUptoCardSaid : Prop := Claim7.holds Tryd.pinned (.plain (OpenSpec.upto eraUnixSpec)) eraUnixUptoCard

/-- THE SECOND FORM's CARD OF 'horologelaw03.EraBack'. -/
def eraBackUptoCard : Claim7 := { stood := { row := eraBackUptoRow, standIns := [], harness := (true, "75ea11af231cd1494e3e793d7a906e2d95f894d10d99ed0d7330b20b7a6bb3d4"), looks := false }, kinds := [], alts := [], laidByText := true, laidKinds := [.data, .data], laidTests := true, laidLooks := .later }
def EraBackUptoCardSaid : Prop := Claim7.holds Tryd.pinned (.plain (OpenSpec.upto eraBackSpec)) eraBackUptoCard

/-- THE SECOND FORM's CARD OF 'horologelaw03.EraOrder'. -/
def eraOrderUptoCard : Claim7 := { stood := { row := eraOrderUptoRow, standIns := [], harness := (true, "75ea11af231cd1494e3e793d7a906e2d95f894d10d99ed0d7330b20b7a6bb3d4"), looks := false }, kinds := [], alts := [], laidByText := true, laidKinds := [.data, .data], laidTests := true, laidLooks := .later }
def EraOrderUptoCardSaid : Prop := Claim7.holds Tryd.pinned (.plain (OpenSpec.upto eraOrderSpec)) eraOrderUptoCard
end Rows
end Go.Proofs.YtcpnlifcjdahgaaDoor
