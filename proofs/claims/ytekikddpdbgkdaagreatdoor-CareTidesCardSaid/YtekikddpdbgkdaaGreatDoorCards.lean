/-
  DERIVED. GIVEN WITH THE SEED: THE CARDS: each row of YtekikddpdbgkdaaGreatDoorRows.lean that lists a variable, with what it lists TIED to the program's text (the seventh form; the later family's looks); each row that meets fmt, with fmt's text TOLD by the authors' own Lean function (tested against real Go, not proved from fmt's source: count such statements apart). THE CARD IS WHAT COUNTS. Prove the row's statement (the work); the ties are given (YtekikddpdbgkdaaGreatDoorTie.lean); close each card by the builder's one call (the guide's Derived/Test/ToyasCard.lean, 'card_holds'). Laid BY PROGRAM, IN A SANDBOX (cutbox-door.mjs). By AI agents, Wed Nov 11 2026. No macro, syntax, notation, axiom, sorry.
-/
import Derived.Test.YtekikddpdbgkdaaGreatDoorRows
import GoSem.ClaimSeven
namespace Go.Proofs.YtekikddpdbgkdaaGreatDoor
namespace Rows

/-- THE TIED CARD OF 'cressetlaw11.CareLifts'. -/
def careLiftsCard : Claim7 := { stood := { row := careLiftsRow, standIns := [], harness := (true, "092c8d8524e1d1e905c1cf10e1fab4375ef360b35c5763037d76f663563fa647"), looks := false }, kinds := [], alts := [], laidByText := true, laidKinds := [.data], laidTests := true, laidLooks := .later }
def CareLiftsCardSaid : Prop := Claim7.holds Tryz.pinned (.plain (OpenSpec.ofChange careLiftsSpec)) careLiftsCard

/-- THE TIED CARD OF 'cressetlaw11.CareTows'. -/
def careTowsCard : Claim7 := { stood := { row := careTowsRow, standIns := [], harness := (true, "092c8d8524e1d1e905c1cf10e1fab4375ef360b35c5763037d76f663563fa647"), looks := false }, kinds := [], alts := [], laidByText := true, laidKinds := [.data], laidTests := true, laidLooks := .later }
def CareTowsCardSaid : Prop := Claim7.holds Tryz.pinned (.plain (OpenSpec.ofChange careTowsSpec)) careTowsCard

/-- THE TIED CARD OF 'cressetlaw11.CareFloats'. -/
def careFloatsCard : Claim7 := { stood := { row := careFloatsRow, standIns := [], harness := (true, "092c8d8524e1d1e905c1cf10e1fab4375ef360b35c5763037d76f663563fa647"), looks := false }, kinds := [], alts := [], laidByText := true, laidKinds := [.data], laidTests := true, laidLooks := .later }
def CareFloatsCardSaid : Prop := Claim7.holds Tryz.pinned (.plain (OpenSpec.ofChange careFloatsSpec)) careFloatsCard

/-- THE TIED CARD OF 'cressetlaw11.CareTides'. -/
def careTidesCard : Claim7 := { stood := { row := careTidesRow, standIns := [], harness := (true, "092c8d8524e1d1e905c1cf10e1fab4375ef360b35c5763037d76f663563fa647"), looks := false }, kinds := [], alts := [], laidByText := true, laidKinds := [.data], laidTests := true, laidLooks := .later }
def CareTidesCardSaid : Prop := Claim7.holds Tryz.pinned (.plain (OpenSpec.ofChange careTidesSpec)) careTidesCard

/-- THE SECOND FORM's CARD OF 'cressetlaw11.CareLifts'. -/
def careLiftsUptoCard : Claim7 := { stood := { row := careLiftsUptoRow, standIns := [], harness := (true, "092c8d8524e1d1e905c1cf10e1fab4375ef360b35c5763037d76f663563fa647"), looks := false }, kinds := [], alts := [], laidByText := true, laidKinds := [.data], laidTests := true, laidLooks := .later }
def CareLiftsUptoCardSaid : Prop := Claim7.holds Tryz.pinned (.plain (OpenSpec.upto careLiftsSpec)) careLiftsUptoCard

/-- THE SECOND FORM's CARD OF 'cressetlaw11.CareTows'. -/
def careTowsUptoCard : Claim7 := { stood := { row := careTowsUptoRow, standIns := [], harness := (true, "092c8d8524e1d1e905c1cf10e1fab4375ef360b35c5763037d76f663563fa647"), looks := false }, kinds := [], alts := [], laidByText := true, laidKinds := [.data], laidTests := true, laidLooks := .later }
def CareTowsUptoCardSaid : Prop := Claim7.holds Tryz.pinned (.plain (OpenSpec.upto careTowsSpec)) careTowsUptoCard

/-- THE SECOND FORM's CARD OF 'cressetlaw11.CareFloats'. -/
def careFloatsUptoCard : Claim7 := { stood := { row := careFloatsUptoRow, standIns := [], harness := (true, "092c8d8524e1d1e905c1cf10e1fab4375ef360b35c5763037d76f663563fa647"), looks := false }, kinds := [], alts := [], laidByText := true, laidKinds := [.data], laidTests := true, laidLooks := .later }
def CareFloatsUptoCardSaid : Prop := Claim7.holds Tryz.pinned (.plain (OpenSpec.upto careFloatsSpec)) careFloatsUptoCard

/-- THE SECOND FORM's CARD OF 'cressetlaw11.CareTides'. -/
def careTidesUptoCard : Claim7 := { stood := { row := careTidesUptoRow, standIns := [], harness := (true, "092c8d8524e1d1e905c1cf10e1fab4375ef360b35c5763037d76f663563fa647"), looks := false }, kinds := [], alts := [], laidByText := true, laidKinds := [.data], laidTests := true, laidLooks := .later }
def CareTidesUptoCardSaid : Prop := Claim7.holds Tryz.pinned (.plain (OpenSpec.upto careTidesSpec)) careTidesUptoCard
end Rows
end Go.Proofs.YtekikddpdbgkdaaGreatDoor
