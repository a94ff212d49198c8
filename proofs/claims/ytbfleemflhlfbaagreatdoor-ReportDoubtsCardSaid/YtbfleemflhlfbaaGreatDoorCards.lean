/-
  DERIVED. GIVEN WITH THE SEED: THE CARDS: each row of YtbfleemflhlfbaaGreatDoorRows.lean that lists a variable, with what it lists TIED to the program's text (the seventh form; the later family's looks); each row that meets fmt, with fmt's text TOLD by the authors' own Lean function (tested against real Go, not proved from fmt's source: count such statements apart). THE CARD IS WHAT COUNTS. Prove the row's statement (the work); the ties are given (YtbfleemflhlfbaaGreatDoorTie.lean); close each card by the builder's one call (the guide's Derived/Test/ToyasCard.lean, 'card_holds'). Laid BY PROGRAM, IN A SANDBOX (cutbox-door.mjs). By AI agents, Wed Nov 11 2026. No macro, syntax, notation, axiom, sorry.
-/
import Derived.Test.YtbfleemflhlfbaaGreatDoorRows
import GoSem.ClaimSeven
namespace Go.Proofs.YtbfleemflhlfbaaGreatDoor
namespace Rows

/-- THE TIED CARD OF 'cressetlaw02.ReportAreas'. -/
def reportAreasCard : Claim7 := { stood := { row := reportAreasRow, standIns := [], harness := (true, "b777883e0fdf3fc827f0b14bd9b2792a2c889804e2d33612a7de29626b47b7eb"), looks := true }, kinds := [], alts := [], laidByText := true, laidKinds := [.data, .data, .data, .sentinel, .sentinel, .data], laidTests := true, laidLooks := .later }
def ReportAreasCardSaid : Prop := Claim7.holds Tryz.pinned (.plain (OpenSpec.ofChange reportAreasSpec)) reportAreasCard

/-- THE TIED CARD OF 'cressetlaw02.ReportSignals'. -/
def reportSignalsCard : Claim7 := { stood := { row := reportSignalsRow, standIns := [], harness := (true, "b777883e0fdf3fc827f0b14bd9b2792a2c889804e2d33612a7de29626b47b7eb"), looks := true }, kinds := [], alts := [], laidByText := true, laidKinds := [.data, .data, .data, .sentinel, .sentinel, .data], laidTests := true, laidLooks := .later }
def ReportSignalsCardSaid : Prop := Claim7.holds Tryz.pinned (.plain (OpenSpec.ofChange reportSignalsSpec)) reportSignalsCard

/-- THE TIED CARD OF 'cressetlaw02.ReportDoubts'. -/
def reportDoubtsCard : Claim7 := { stood := { row := reportDoubtsRow, standIns := [], harness := (true, "b777883e0fdf3fc827f0b14bd9b2792a2c889804e2d33612a7de29626b47b7eb"), looks := true }, kinds := [], alts := [], laidByText := true, laidKinds := [.data, .data, .data, .sentinel, .sentinel, .data], laidTests := true, laidLooks := .later }
def ReportDoubtsCardSaid : Prop := Claim7.holds Tryz.pinned (.plain (OpenSpec.ofChange reportDoubtsSpec)) reportDoubtsCard

/-- THE SECOND FORM's CARD OF 'cressetlaw02.ReportAreas'. -/
def reportAreasUptoCard : Claim7 := { stood := { row := reportAreasUptoRow, standIns := [], harness := (true, "b777883e0fdf3fc827f0b14bd9b2792a2c889804e2d33612a7de29626b47b7eb"), looks := true }, kinds := [], alts := [], laidByText := true, laidKinds := [.data, .data, .data, .sentinel, .sentinel, .data], laidTests := true, laidLooks := .later }
def ReportAreasUptoCardSaid : Prop := Claim7.holds Tryz.pinned (.plain (OpenSpec.upto reportAreasSpec)) reportAreasUptoCard

/-- THE SECOND FORM's CARD OF 'cressetlaw02.ReportSignals'. -/
def reportSignalsUptoCard : Claim7 := { stood := { row := reportSignalsUptoRow, standIns := [], harness := (true, "b777883e0fdf3fc827f0b14bd9b2792a2c889804e2d33612a7de29626b47b7eb"), looks := true }, kinds := [], alts := [], laidByText := true, laidKinds := [.data, .data, .data, .sentinel, .sentinel, .data], laidTests := true, laidLooks := .later }
def ReportSignalsUptoCardSaid : Prop := Claim7.holds Tryz.pinned (.plain (OpenSpec.upto reportSignalsSpec)) reportSignalsUptoCard

/-- THE SECOND FORM's CARD OF 'cressetlaw02.ReportDoubts'. -/
def reportDoubtsUptoCard : Claim7 := { stood := { row := reportDoubtsUptoRow, standIns := [], harness := (true, "b777883e0fdf3fc827f0b14bd9b2792a2c889804e2d33612a7de29626b47b7eb"), looks := true }, kinds := [], alts := [], laidByText := true, laidKinds := [.data, .data, .data, .sentinel, .sentinel, .data], laidTests := true, laidLooks := .later }
def ReportDoubtsUptoCardSaid : Prop := Claim7.holds Tryz.pinned (.plain (OpenSpec.upto reportDoubtsSpec)) reportDoubtsUptoCard
end Rows
end Go.Proofs.YtbfleemflhlfbaaGreatDoor
