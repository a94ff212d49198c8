/-
  DERIVED. GIVEN WITH THE SEED: THE CARDS: each row of YtkhffloahpdbdaaDoorRows.lean that lists a variable, with what it lists TIED to the program's text (the seventh form; the later family's looks); each row that meets fmt, with fmt's text TOLD by the authors' own Lean function (tested against real Go, not proved from fmt's source: count such statements apart). THE CARD IS WHAT COUNTS. Prove the row's statement (the work); the ties are given (YtkhffloahpdbdaaDoorTie.lean); close each card by the builder's one call (the guide's Derived/Test/ToyasCard.lean, 'card_holds'). Laid BY PROGRAM, IN A SANDBOX (cutbox-door.mjs). By AI agents, Wed Nov 11 2026. No macro, syntax, notation, axiom, sorry.
-/
import Derived.Test.YtkhffloahpdbdaaDoorRows
import GoSem.ClaimSeven
namespace Go.Proofs.YtkhffloahpdbdaaDoor
namespace Rows

/-- THE TIED CARD OF 'cressetlaw08.TracksLays'. -/
def tracksLaysCard : Claim7 := { stood := { row := tracksLaysRow, standIns := [], harness := (true, "ef29ced7d985ff8542bac78d94412cb23aa8d3860501534be300b1d3d2284d4a"), looks := false }, kinds := [], alts := [], laidByText := true, laidKinds := [.data, .data], laidTests := true, laidLooks := .later }
def TracksLaysCardSaid : Prop := Claim7.holds Tryd.pinned (.plain (OpenSpec.ofChange tracksLaysSpec)) tracksLaysCard

/-- THE TIED CARD OF 'cressetlaw08.TracksRings'. -/
def tracksRingsCard : Claim7 := { stood := { row := tracksRingsRow, standIns := [], harness := (true, "ef29ced7d985ff8542bac78d94412cb23aa8d3860501534be300b1d3d2284d4a"), looks := false }, kinds := [], alts := [], laidByText := true, laidKinds := [.data, .data], laidTests := true, laidLooks := .later }
def TracksRingsCardSaid : Prop := Claim7.holds Tryd.pinned (.plain (OpenSpec.ofChange tracksRingsSpec)) tracksRingsCard

/-- THE SECOND FORM's CARD OF 'cressetlaw08.TracksLays'. -/
def tracksLaysUptoCard : Claim7 := { stood := { row := tracksLaysUptoRow, standIns := [], harness := (true, "ef29ced7d985ff8542bac78d94412cb23aa8d3860501534be300b1d3d2284d4a"), looks := false }, kinds := [], alts := [], laidByText := true, laidKinds := [.data, .data], laidTests := true, laidLooks := .later }
def TracksLaysUptoCardSaid : Prop := Claim7.holds Tryd.pinned (.plain (OpenSpec.upto tracksLaysSpec)) tracksLaysUptoCard

/-- THE SECOND FORM's CARD OF 'cressetlaw08.TracksRings'. -/
def tracksRingsUptoCard : Claim7 := { stood := { row := tracksRingsUptoRow, standIns := [], harness := (true, "ef29ced7d985ff8542bac78d94412cb23aa8d3860501534be300b1d3d2284d4a"), looks := false }, kinds := [], alts := [], laidByText := true, laidKinds := [.data, .data], laidTests := true, laidLooks := .later }
def TracksRingsUptoCardSaid : Prop := Claim7.holds Tryd.pinned (.plain (OpenSpec.upto tracksRingsSpec)) tracksRingsUptoCard
end Rows
end Go.Proofs.YtkhffloahpdbdaaDoor
