/-
  DERIVED. GIVEN WITH THE SEED: THE CARDS: each row of YtoehcabplbljcaaGreatDoorRows.lean that lists a variable, with what it lists TIED to the program's text (the seventh form; the later family's looks); each row that meets fmt, with fmt's text TOLD by the authors' own Lean function (tested against real Go, not proved from fmt's source: count such statements apart). THE CARD IS WHAT COUNTS. Prove the row's statement (the work); the ties are given (YtoehcabplbljcaaGreatDoorTie.lean); close each card by the builder's one call (the guide's Derived/Test/ToyasCard.lean, 'card_holds'). Laid BY PROGRAM, IN A SANDBOX (cutbox-door.mjs). By AI agents, Wed Nov 11 2026. No macro, syntax, notation, axiom, sorry.
-/
import Derived.Test.YtoehcabplbljcaaGreatDoorRows
import GoSem.ClaimSeven
namespace Go.Proofs.YtoehcabplbljcaaGreatDoor
namespace Rows

/-- THE TIED CARD OF 'cressetlaw02.ReportPrints'. -/
def reportPrintsCard : Claim7 := { stood := { row := reportPrintsRow, standIns := [], harness := (true, "a3d0870b1c8613ff67d69874603b3e9cdcd34939394b1916c2d110d7a5a3211e"), looks := true }, kinds := [], alts := [], laidByText := true, laidKinds := [.data, .data, .data, .sentinel, .sentinel, .data], laidTests := true, laidLooks := .later }
def ReportPrintsCardSaid : Prop := Claim7.holds Tryz.pinned (.plain (OpenSpec.ofChange reportPrintsSpec)) reportPrintsCard

/-- THE TIED CARD OF 'cressetlaw02.ReportReads'. -/
def reportReadsCard : Claim7 := { stood := { row := reportReadsRow, standIns := [], harness := (true, "a3d0870b1c8613ff67d69874603b3e9cdcd34939394b1916c2d110d7a5a3211e"), looks := true }, kinds := [], alts := [], laidByText := true, laidKinds := [.data, .data, .data, .sentinel, .sentinel, .data], laidTests := true, laidLooks := .later }
def ReportReadsCardSaid : Prop := Claim7.holds Tryz.pinned (.plain (OpenSpec.ofChange reportReadsSpec)) reportReadsCard

/-- THE TIED CARD OF 'cressetlaw02.ReportBearings'. -/
def reportBearingsCard : Claim7 := { stood := { row := reportBearingsRow, standIns := [], harness := (true, "a3d0870b1c8613ff67d69874603b3e9cdcd34939394b1916c2d110d7a5a3211e"), looks := true }, kinds := [], alts := [], laidByText := true, laidKinds := [.data, .data, .data, .sentinel, .sentinel, .data], laidTests := true, laidLooks := .later }
def ReportBearingsCardSaid : Prop := Claim7.holds Tryz.pinned (.plain (OpenSpec.ofChange reportBearingsSpec)) reportBearingsCard

/-- THE TIED CARD OF 'cressetlaw02.ReportOwns'. -/
def reportOwnsCard : Claim7 := { stood := { row := reportOwnsRow, standIns := [], harness := (true, "a3d0870b1c8613ff67d69874603b3e9cdcd34939394b1916c2d110d7a5a3211e"), looks := true }, kinds := [], alts := [], laidByText := true, laidKinds := [.data, .data, .data, .sentinel, .sentinel, .data], laidTests := true, laidLooks := .later }
def ReportOwnsCardSaid : Prop := Claim7.holds Tryz.pinned (.plain (OpenSpec.ofChange reportOwnsSpec)) reportOwnsCard

/-- THE TIED CARD OF 'cressettop.TopBeacons'. -/
def topBeaconsCard : Claim7 := { stood := { row := topBeaconsRow, standIns := [], harness := (true, "a3d0870b1c8613ff67d69874603b3e9cdcd34939394b1916c2d110d7a5a3211e"), looks := true }, kinds := [], alts := [], laidByText := true, laidKinds := [.data, .data, .data, .sentinel, .sentinel, .data], laidTests := true, laidLooks := .later }
def TopBeaconsCardSaid : Prop := Claim7.holds Tryz.pinned (.plain (OpenSpec.ofChange topBeaconsSpec)) topBeaconsCard

/-- THE SECOND FORM's CARD OF 'cressetlaw02.ReportPrints'. -/
def reportPrintsUptoCard : Claim7 := { stood := { row := reportPrintsUptoRow, standIns := [], harness := (true, "a3d0870b1c8613ff67d69874603b3e9cdcd34939394b1916c2d110d7a5a3211e"), looks := true }, kinds := [], alts := [], laidByText := true, laidKinds := [.data, .data, .data, .sentinel, .sentinel, .data], laidTests := true, laidLooks := .later }
def ReportPrintsUptoCardSaid : Prop := Claim7.holds Tryz.pinned (.plain (OpenSpec.upto reportPrintsSpec)) reportPrintsUptoCard

/-- THE SECOND FORM's CARD OF 'cressetlaw02.ReportReads'. -/
def reportReadsUptoCard : Claim7 := { stood := { row := reportReadsUptoRow, standIns := [], harness := (true, "a3d0870b1c8613ff67d69874603b3e9cdcd34939394b1916c2d110d7a5a3211e"), looks := true }, kinds := [], alts := [], laidByText := true, laidKinds := [.data, .data, .data, .sentinel, .sentinel, .data], laidTests := true, laidLooks := .later }
def ReportReadsUptoCardSaid : Prop := Claim7.holds Tryz.pinned (.plain (OpenSpec.upto reportReadsSpec)) reportReadsUptoCard

/-- THE SECOND FORM's CARD OF 'cressetlaw02.ReportBearings'. -/
def reportBearingsUptoCard : Claim7 := { stood := { row := reportBearingsUptoRow, standIns := [], harness := (true, "a3d0870b1c8613ff67d69874603b3e9cdcd34939394b1916c2d110d7a5a3211e"), looks := true }, kinds := [], alts := [], laidByText := true, laidKinds := [.data, .data, .data, .sentinel, .sentinel, .data], laidTests := true, laidLooks := .later }
def ReportBearingsUptoCardSaid : Prop := Claim7.holds Tryz.pinned (.plain (OpenSpec.upto reportBearingsSpec)) reportBearingsUptoCard

/-- THE SECOND FORM's CARD OF 'cressetlaw02.ReportOwns'. -/
def reportOwnsUptoCard : Claim7 := { stood := { row := reportOwnsUptoRow, standIns := [], harness := (true, "a3d0870b1c8613ff67d69874603b3e9cdcd34939394b1916c2d110d7a5a3211e"), looks := true }, kinds := [], alts := [], laidByText := true, laidKinds := [.data, .data, .data, .sentinel, .sentinel, .data], laidTests := true, laidLooks := .later }
def ReportOwnsUptoCardSaid : Prop := Claim7.holds Tryz.pinned (.plain (OpenSpec.upto reportOwnsSpec)) reportOwnsUptoCard

/-- THE SECOND FORM's CARD OF 'cressettop.TopBeacons'. -/
def topBeaconsUptoCard : Claim7 := { stood := { row := topBeaconsUptoRow, standIns := [], harness := (true, "a3d0870b1c8613ff67d69874603b3e9cdcd34939394b1916c2d110d7a5a3211e"), looks := true }, kinds := [], alts := [], laidByText := true, laidKinds := [.data, .data, .data, .sentinel, .sentinel, .data], laidTests := true, laidLooks := .later }
def TopBeaconsUptoCardSaid : Prop := Claim7.holds Tryz.pinned (.plain (OpenSpec.upto topBeaconsSpec)) topBeaconsUptoCard
end Rows
end Go.Proofs.YtoehcabplbljcaaGreatDoor
