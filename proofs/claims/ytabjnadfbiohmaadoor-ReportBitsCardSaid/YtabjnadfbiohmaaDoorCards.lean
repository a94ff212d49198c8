/-
  DERIVED. GIVEN WITH THE SEED: THE CARDS: each row of YtabjnadfbiohmaaDoorRows.lean that lists a variable, with what it lists TIED to the program's text (the seventh form; the later family's looks); each row that meets fmt, with fmt's text TOLD by the authors' own Lean function (tested against real Go, not proved from fmt's source: count such statements apart). THE CARD IS WHAT COUNTS. Prove the row's statement (the work); the ties are given (YtabjnadfbiohmaaDoorTie.lean); close each card by the builder's one call (the guide's Derived/Test/ToyasCard.lean, 'card_holds'). Laid BY PROGRAM, IN A SANDBOX (cutbox-door.mjs). By AI agents, Wed Nov 11 2026. No macro, syntax, notation, axiom, sorry.
-/
import Derived.Test.YtabjnadfbiohmaaDoorRows
import GoSem.ClaimSeven
namespace Go.Proofs.YtabjnadfbiohmaaDoor
namespace Rows

/-- THE TIED CARD OF 'cressetlaw02.ReportBits'. -/
def reportBitsCard : Claim7 := { stood := { row := reportBitsRow, standIns := [], harness := (true, "5c29eaf8a8e1ed1bb1ada2bb71986a86b9da70335599084f112912778e3b6552"), looks := true }, kinds := [], alts := [], laidByText := true, laidKinds := [.data, .data, .data, .sentinel, .sentinel, .data], laidTests := true, laidLooks := .later }
def ReportBitsCardSaid : Prop := Claim7.holds Tryd.pinned (.plain (OpenSpec.ofChange reportBitsSpec)) reportBitsCard

/-- THE SECOND FORM's CARD OF 'cressetlaw02.ReportBits'. -/
def reportBitsUptoCard : Claim7 := { stood := { row := reportBitsUptoRow, standIns := [], harness := (true, "5c29eaf8a8e1ed1bb1ada2bb71986a86b9da70335599084f112912778e3b6552"), looks := true }, kinds := [], alts := [], laidByText := true, laidKinds := [.data, .data, .data, .sentinel, .sentinel, .data], laidTests := true, laidLooks := .later }
def ReportBitsUptoCardSaid : Prop := Claim7.holds Tryd.pinned (.plain (OpenSpec.upto reportBitsSpec)) reportBitsUptoCard
end Rows
end Go.Proofs.YtabjnadfbiohmaaDoor
