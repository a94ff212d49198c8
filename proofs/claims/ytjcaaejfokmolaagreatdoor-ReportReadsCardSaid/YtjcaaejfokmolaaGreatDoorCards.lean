/-
  DERIVED. GIVEN WITH THE SEED: THE CARDS: each row of YtjcaaejfokmolaaGreatDoorRows.lean that lists a variable, with what it lists TIED to the program's text (the seventh form; the later family's looks); each row that meets fmt, with fmt's text TOLD by the authors' own Lean function (tested against real Go, not proved from fmt's source: count such statements apart). THE CARD IS WHAT COUNTS. Prove the row's statement (the work); the ties are given (YtjcaaejfokmolaaGreatDoorTie.lean); close each card by the builder's one call (the guide's Derived/Test/ToyasCard.lean, 'card_holds'). Laid BY PROGRAM, IN A SANDBOX (cutbox-door.mjs). By AI agents, Wed Nov 11 2026. No macro, syntax, notation, axiom, sorry.
-/
import Derived.Test.YtjcaaejfokmolaaGreatDoorRows
import GoSem.ClaimSeven
namespace Go.Proofs.YtjcaaejfokmolaaGreatDoor
namespace Rows

/-- THE TIED CARD OF 'cressetlaw02.ReportAreas'. -/
def reportAreasCard : Claim7 := { stood := { row := reportAreasRow, standIns := [], harness := (true, "ef5e84483ce89f6f60dcc91a7f5013a50fedbec2b4d221c37da43bf24f1d784a"), looks := true }, kinds := [], alts := [], laidByText := true, laidKinds := [.data, .data, .data, .sentinel, .sentinel, .data], laidTests := true, laidLooks := .later }
def ReportAreasCardSaid : Prop := Claim7.holds Tryz.pinned (.plain (OpenSpec.ofChange reportAreasSpec)) reportAreasCard

/-- THE TIED CARD OF 'cressetlaw02.ReportPrints'. -/
def reportPrintsCard : Claim7 := { stood := { row := reportPrintsRow, standIns := [], harness := (true, "ef5e84483ce89f6f60dcc91a7f5013a50fedbec2b4d221c37da43bf24f1d784a"), looks := true }, kinds := [], alts := [], laidByText := true, laidKinds := [.data, .data, .data, .sentinel, .sentinel, .data], laidTests := true, laidLooks := .later }
def ReportPrintsCardSaid : Prop := Claim7.holds Tryz.pinned (.plain (OpenSpec.ofChange reportPrintsSpec)) reportPrintsCard

/-- THE TIED CARD OF 'cressetlaw02.ReportReads'. -/
def reportReadsCard : Claim7 := { stood := { row := reportReadsRow, standIns := [], harness := (true, "ef5e84483ce89f6f60dcc91a7f5013a50fedbec2b4d221c37da43bf24f1d784a"), looks := true }, kinds := [], alts := [], laidByText := true, laidKinds := [.data, .data, .data, .sentinel, .sentinel, .data], laidTests := true, laidLooks := .later }
def ReportReadsCardSaid : Prop := Claim7.holds Tryz.pinned (.plain (OpenSpec.ofChange reportReadsSpec)) reportReadsCard

/-- THE TIED CARD OF 'cressetlaw02.ReportSignals'. -/
def reportSignalsCard : Claim7 := { stood := { row := reportSignalsRow, standIns := [], harness := (true, "ef5e84483ce89f6f60dcc91a7f5013a50fedbec2b4d221c37da43bf24f1d784a"), looks := true }, kinds := [], alts := [], laidByText := true, laidKinds := [.data, .data, .data, .sentinel, .sentinel, .data], laidTests := true, laidLooks := .later }
def ReportSignalsCardSaid : Prop := Claim7.holds Tryz.pinned (.plain (OpenSpec.ofChange reportSignalsSpec)) reportSignalsCard

/-- THE TIED CARD OF 'cressetlaw02.ReportBearings'. -/
def reportBearingsCard : Claim7 := { stood := { row := reportBearingsRow, standIns := [], harness := (true, "ef5e84483ce89f6f60dcc91a7f5013a50fedbec2b4d221c37da43bf24f1d784a"), looks := true }, kinds := [], alts := [], laidByText := true, laidKinds := [.data, .data, .data, .sentinel, .sentinel, .data], laidTests := true, laidLooks := .later }
def ReportBearingsCardSaid : Prop := Claim7.holds Tryz.pinned (.plain (OpenSpec.ofChange reportBearingsSpec)) reportBearingsCard

/-- THE TIED CARD OF 'cressetlaw02.ReportOwns'. -/
def reportOwnsCard : Claim7 := { stood := { row := reportOwnsRow, standIns := [], harness := (true, "ef5e84483ce89f6f60dcc91a7f5013a50fedbec2b4d221c37da43bf24f1d784a"), looks := true }, kinds := [], alts := [], laidByText := true, laidKinds := [.data, .data, .data, .sentinel, .sentinel, .data], laidTests := true, laidLooks := .later }
def ReportOwnsCardSaid : Prop := Claim7.holds Tryz.pinned (.plain (OpenSpec.ofChange reportOwnsSpec)) reportOwnsCard

/-- THE SECOND FORM's CARD OF 'cressetlaw02.ReportAreas'. -/
def reportAreasUptoCard : Claim7 := { stood := { row := reportAreasUptoRow, standIns := [], harness := (true, "ef5e84483ce89f6f60dcc91a7f5013a50fedbec2b4d221c37da43bf24f1d784a"), looks := true }, kinds := [], alts := [], laidByText := true, laidKinds := [.data, .data, .data, .sentinel, .sentinel, .data], laidTests := true, laidLooks := .later }
def ReportAreasUptoCardSaid : Prop := Claim7.holds Tryz.pinned (.plain (OpenSpec.upto reportAreasSpec)) reportAreasUptoCard

/-- THE SECOND FORM's CARD OF 'cressetlaw02.ReportPrints'. -/
def reportPrintsUptoCard : Claim7 := { stood := { row := reportPrintsUptoRow, standIns := [], harness := (true, "ef5e84483ce89f6f60dcc91a7f5013a50fedbec2b4d221c37da43bf24f1d784a"), looks := true }, kinds := [], alts := [], laidByText := true, laidKinds := [.data, .data, .data, .sentinel, .sentinel, .data], laidTests := true, laidLooks := .later }
def ReportPrintsUptoCardSaid : Prop := Claim7.holds Tryz.pinned (.plain (OpenSpec.upto reportPrintsSpec)) reportPrintsUptoCard

/-- THE SECOND FORM's CARD OF 'cressetlaw02.ReportReads'. -/
def reportReadsUptoCard : Claim7 := { stood := { row := reportReadsUptoRow, standIns := [], harness := (true, "ef5e84483ce89f6f60dcc91a7f5013a50fedbec2b4d221c37da43bf24f1d784a"), looks := true }, kinds := [], alts := [], laidByText := true, laidKinds := [.data, .data, .data, .sentinel, .sentinel, .data], laidTests := true, laidLooks := .later }
def ReportReadsUptoCardSaid : Prop := Claim7.holds Tryz.pinned (.plain (OpenSpec.upto reportReadsSpec)) reportReadsUptoCard

/-- THE SECOND FORM's CARD OF 'cressetlaw02.ReportSignals'. -/
def reportSignalsUptoCard : Claim7 := { stood := { row := reportSignalsUptoRow, standIns := [], harness := (true, "ef5e84483ce89f6f60dcc91a7f5013a50fedbec2b4d221c37da43bf24f1d784a"), looks := true }, kinds := [], alts := [], laidByText := true, laidKinds := [.data, .data, .data, .sentinel, .sentinel, .data], laidTests := true, laidLooks := .later }
def ReportSignalsUptoCardSaid : Prop := Claim7.holds Tryz.pinned (.plain (OpenSpec.upto reportSignalsSpec)) reportSignalsUptoCard

/-- THE SECOND FORM's CARD OF 'cressetlaw02.ReportBearings'. -/
def reportBearingsUptoCard : Claim7 := { stood := { row := reportBearingsUptoRow, standIns := [], harness := (true, "ef5e84483ce89f6f60dcc91a7f5013a50fedbec2b4d221c37da43bf24f1d784a"), looks := true }, kinds := [], alts := [], laidByText := true, laidKinds := [.data, .data, .data, .sentinel, .sentinel, .data], laidTests := true, laidLooks := .later }
def ReportBearingsUptoCardSaid : Prop := Claim7.holds Tryz.pinned (.plain (OpenSpec.upto reportBearingsSpec)) reportBearingsUptoCard

/-- THE SECOND FORM's CARD OF 'cressetlaw02.ReportOwns'. -/
def reportOwnsUptoCard : Claim7 := { stood := { row := reportOwnsUptoRow, standIns := [], harness := (true, "ef5e84483ce89f6f60dcc91a7f5013a50fedbec2b4d221c37da43bf24f1d784a"), looks := true }, kinds := [], alts := [], laidByText := true, laidKinds := [.data, .data, .data, .sentinel, .sentinel, .data], laidTests := true, laidLooks := .later }
def ReportOwnsUptoCardSaid : Prop := Claim7.holds Tryz.pinned (.plain (OpenSpec.upto reportOwnsSpec)) reportOwnsUptoCard
end Rows
end Go.Proofs.YtjcaaejfokmolaaGreatDoor
