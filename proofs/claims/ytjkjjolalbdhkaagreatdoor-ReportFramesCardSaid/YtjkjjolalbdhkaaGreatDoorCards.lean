/-
  DERIVED. GIVEN WITH THE SEED: THE CARDS: each row of YtjkjjolalbdhkaaGreatDoorRows.lean that lists a variable, with what it lists TIED to the program's text (the seventh form; the later family's looks); each row that meets fmt, with fmt's text TOLD by the authors' own Lean function (tested against real Go, not proved from fmt's source: count such statements apart). THE CARD IS WHAT COUNTS. Prove the row's statement (the work); the ties are given (YtjkjjolalbdhkaaGreatDoorTie.lean); close each card by the builder's one call (the guide's Derived/Test/ToyasCard.lean, 'card_holds'). Laid BY PROGRAM, IN A SANDBOX (cutbox-door.mjs). By AI agents, Wed Nov 11 2026. No macro, syntax, notation, axiom, sorry.
-/
import Derived.Test.YtjkjjolalbdhkaaGreatDoorRows
import GoSem.ClaimSeven
namespace Go.Proofs.YtjkjjolalbdhkaaGreatDoor
namespace Rows

/-- THE TIED CARD OF 'cressetlaw02.ReportFrames'. -/
def reportFramesCard : Claim7 := { stood := { row := reportFramesRow, standIns := [], harness := (true, "578d5253273ec94f92156faf57956f6daab6f9026b504698a3ad86a343eef4ac"), looks := true }, kinds := [], alts := [], laidByText := true, laidKinds := [.data, .data, .data, .sentinel, .sentinel, .data], laidTests := true, laidLooks := .later }
def ReportFramesCardSaid : Prop := Claim7.holds Tryz.pinned (.plain (OpenSpec.ofChange reportFramesSpec)) reportFramesCard

/-- THE SECOND FORM's CARD OF 'cressetlaw02.ReportFrames'. -/
def reportFramesUptoCard : Claim7 := { stood := { row := reportFramesUptoRow, standIns := [], harness := (true, "578d5253273ec94f92156faf57956f6daab6f9026b504698a3ad86a343eef4ac"), looks := true }, kinds := [], alts := [], laidByText := true, laidKinds := [.data, .data, .data, .sentinel, .sentinel, .data], laidTests := true, laidLooks := .later }
def ReportFramesUptoCardSaid : Prop := Claim7.holds Tryz.pinned (.plain (OpenSpec.upto reportFramesSpec)) reportFramesUptoCard
end Rows
end Go.Proofs.YtjkjjolalbdhkaaGreatDoor
