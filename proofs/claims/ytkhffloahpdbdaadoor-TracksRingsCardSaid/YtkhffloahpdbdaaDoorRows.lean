/-
  NARROWER THAN 'FOR EVERY INPUT', by the rows' own cells (each row's printed sentence says how): TracksLays: laid · TracksRings: laid.
  DERIVED. THE GIVEN ROWS OF THIS SEAT. 2 by the template 'for every input the law returns true; each argument reads behind the call as it read before'; 0 by the template 'total and deterministic' (their statements: YtkhffloahpdbdaaDoorTotals.lean).
  GIVEN WITH THE SEED: the statements are not yours to turn. If you find one false, say at which input.
  Laid BY PROGRAM, IN A SANDBOX (cutbox-rows.mjs): the forced cells as the released guide's own fill.sh prints them over the translation cc5e0be89c9df102… (all of the seat's roots in one cut). By AI agents, Wed Nov 11 2026. No macro, syntax, notation, axiom, sorry.
-/
import Derived.Test.YtkhffloahpdbdaaDoorChecked
import GoSem.Claim
import GoSem.ClaimJoined
import GoSem.ClaimMapViews
import Derived.JoinedTies
import Derived.KernelRfl
namespace Go.Proofs.YtkhffloahpdbdaaDoor
/- THE CELL 'sum', in the pinned program and in every row, IS THE sha256 OF THE DUMP (.gsa) THAT YtkhffloahpdbdaaDoorProg.lean LOADS. Nothing in Lean hashes anything: it is a label: what it is worth is what the hold of that sum in a sandbox is worth. -/
noncomputable def Tryd.pinned : Pinned := { name := "ytkhffloahpdbdaadoor", sum := "cc5e0be89c9df10214b07de0b425e184ad1a55adcde6ee7bbbb965dc75f9c011", checked := Tryd.checked }
namespace Rows
def none {H : Type} : Left H := { results := [], args := [] }

/- WHAT THE LISTED PACKAGE-LEVEL VARIABLES READ AS WHEN THE CALL BEGINS. Each datum BY PROGRAM (the guide's laid-datum.mjs) off the statement by which the dump's own 'gosem.cut.vars' lays the variable. In a bare row this is a premise. The card (YtkhffloahpdbdaaDoorCards.lean) ties it to the program's text. -/
def laid_cresset_tracks_directions {H : Type} : DataW H := .agg [.agg [.lit (.int .i64 1), .lit (.int .i64 0)], .agg [.lit (.int .i64 0), .lit (.int .i64 1)], .agg [.lit (.int .i64 (-1)), .lit (.int .i64 0)], .agg [.lit (.int .i64 0), .lit (.int .i64 (-1))]]
def laid_cresset_tracks_sector {H : Type} : DataW H := .agg [.agg [.lit (.int .i64 1), .lit (.int .i64 0)], .agg [.lit (.int .i64 1), .lit (.int .i64 1)], .agg [.lit (.int .i64 0), .lit (.int .i64 0)], .agg [.lit (.int .i64 0), .lit (.int .i64 1)], .agg [.lit (.int .i64 (-1)), .lit (.int .i64 1)], .agg [.lit (.int .i64 0), .lit (.int .i64 0)], .agg [.lit (.int .i64 (-1)), .lit (.int .i64 0)], .agg [.lit (.int .i64 (-1)), .lit (.int .i64 (-1))], .agg [.lit (.int .i64 0), .lit (.int .i64 0)], .agg [.lit (.int .i64 0), .lit (.int .i64 (-1))], .agg [.lit (.int .i64 1), .lit (.int .i64 (-1))], .agg [.lit (.int .i64 0), .lit (.int .i64 0)]]

/-- 'cressetlaw08.TracksLays': WHATEVER THE INPUT: true; the input reads as it did. -/
def tracksLaysSpec : ChangeSpec := { name := "tracksLays", fn := fun _ => fun
  | [d1, d2, d3, d4, d5] => { results := [.lit (.bool true)], args := [d1, d2, d3, d4, d5] }
  | _ => none }
def tracksLaysRow : OpenClaim := { program := "ytkhffloahpdbdaadoor", sum := "cc5e0be89c9df10214b07de0b425e184ad1a55adcde6ee7bbbb965dc75f9c011", func := "cresset/cressetlaw08.TracksLays", spec := "tracksLays", unfollowed := true, recurses := true, named := ["cresset/tracks.directions", "cresset/tracks.sector"], apart := false, laid := [("cresset/tracks.directions", laid_cresset_tracks_directions), ("cresset/tracks.sector", laid_cresset_tracks_sector)] }
def TracksLaysSaid : Prop := tracksLaysRow.holds Tryd.pinned (OpenSpec.ofChange tracksLaysSpec)

/-- ITS FALSE NEIGHBOUR: 'it returns false'. Refute it at one input. -/
def tracksLaysWrong : ChangeSpec := { name := "tracksLays", fn := fun _ => fun
  | [d1, d2, d3, d4, d5] => { results := [.lit (.bool false)], args := [d1, d2, d3, d4, d5] }
  | _ => none }
def TracksLaysWrongFalsely : Prop := tracksLaysRow.holds Tryd.pinned (OpenSpec.ofChange tracksLaysWrong)

/-- 'cressetlaw08.TracksRings': WHATEVER THE INPUT: true; the input reads as it did. -/
def tracksRingsSpec : ChangeSpec := { name := "tracksRings", fn := fun _ => fun
  | [d1, d2, d3, d4, d5] => { results := [.lit (.bool true)], args := [d1, d2, d3, d4, d5] }
  | _ => none }
def tracksRingsRow : OpenClaim := { program := "ytkhffloahpdbdaadoor", sum := "cc5e0be89c9df10214b07de0b425e184ad1a55adcde6ee7bbbb965dc75f9c011", func := "cresset/cressetlaw08.TracksRings", spec := "tracksRings", unfollowed := true, recurses := true, named := ["cresset/tracks.directions", "cresset/tracks.sector"], apart := false, laid := [("cresset/tracks.directions", laid_cresset_tracks_directions), ("cresset/tracks.sector", laid_cresset_tracks_sector)] }
def TracksRingsSaid : Prop := tracksRingsRow.holds Tryd.pinned (OpenSpec.ofChange tracksRingsSpec)

/-- ITS FALSE NEIGHBOUR: 'it returns false'. Refute it at one input. -/
def tracksRingsWrong : ChangeSpec := { name := "tracksRings", fn := fun _ => fun
  | [d1, d2, d3, d4, d5] => { results := [.lit (.bool false)], args := [d1, d2, d3, d4, d5] }
  | _ => none }
def TracksRingsWrongFalsely : Prop := tracksRingsRow.holds Tryd.pinned (OpenSpec.ofChange tracksRingsWrong)

/- THE SECOND FORM. 'bulk': how many values and letters a reading holds, each counted each time it is reached (what is shared counts as often as it is met; a slice's spare places count too). A statement '..UptoSaid' is the law's where the arguments, and the package variables that the reading takes, are together of bulk at most 1048576: NARROWER than '..Said'. Prove '..Said' where nothing that the law and all that it calls make is longer than what came in: it says more and counts as full. Else prove '..UptoSaid'. A law counts once. -/
mutual
def uptoBulk {H : Type} : DataW H → Nat
  | .lit (.string bytes) => bytes.length + 1
  | .lit _ => 1
  | .nil => 1
  | .ptr d => uptoBulk d + 1
  | .slice elems spare => uptoBulkAll elems + uptoBulkAll spare + 1
  | .agg parts => uptoBulkAll parts + 1
  | .iface _ d => uptoBulk d + 1
  | .map entries => uptoBulkEntries entries + 1
  | .held _ => 1
def uptoBulkAll {H : Type} : List (DataW H) → Nat
  | [] => 0
  | d :: r => uptoBulk d + uptoBulkAll r
def uptoBulkEntries {H : Type} : List (Lit × DataW H) → Nat
  | [] => 0
  | x :: r => uptoBulkEntry x + uptoBulkEntries r
def uptoBulkEntry {H : Type} : Lit × DataW H → Nat
  | (.string bytes, d) => bytes.length + uptoBulk d + 1
  | (_, d) => uptoBulk d + 1
 end
def uptoSmall : (H : Type) → List (DataW H) → Bool := fun _ ds => decide (uptoBulkAll ds ≤ 1048576)
def OpenSpec.upto (s : _root_.Go.ChangeSpec) : _root_.Go.OpenSpec := { _root_.Go.OpenSpec.ofChange s with cond := some uptoSmall }

/-- 'cressetlaw08.TracksLays', WHERE WHAT IT READS IS OF BULK AT MOST 1048576: true; the input reads as it did. -/
def tracksLaysUptoRow : OpenClaim := { program := "ytkhffloahpdbdaadoor", sum := "cc5e0be89c9df10214b07de0b425e184ad1a55adcde6ee7bbbb965dc75f9c011", func := "cresset/cressetlaw08.TracksLays", spec := "tracksLays", unfollowed := true, recurses := true, named := ["cresset/tracks.directions", "cresset/tracks.sector"], apart := false, laid := [("cresset/tracks.directions", laid_cresset_tracks_directions), ("cresset/tracks.sector", laid_cresset_tracks_sector)], narrowed := true }
def TracksLaysUptoSaid : Prop := tracksLaysUptoRow.holds Tryd.pinned (OpenSpec.upto tracksLaysSpec)

/-- 'cressetlaw08.TracksRings', WHERE WHAT IT READS IS OF BULK AT MOST 1048576: true; the input reads as it did. -/
def tracksRingsUptoRow : OpenClaim := { program := "ytkhffloahpdbdaadoor", sum := "cc5e0be89c9df10214b07de0b425e184ad1a55adcde6ee7bbbb965dc75f9c011", func := "cresset/cressetlaw08.TracksRings", spec := "tracksRings", unfollowed := true, recurses := true, named := ["cresset/tracks.directions", "cresset/tracks.sector"], apart := false, laid := [("cresset/tracks.directions", laid_cresset_tracks_directions), ("cresset/tracks.sector", laid_cresset_tracks_sector)], narrowed := true }
def TracksRingsUptoSaid : Prop := tracksRingsUptoRow.holds Tryd.pinned (OpenSpec.upto tracksRingsSpec)

end Rows
end Go.Proofs.YtkhffloahpdbdaaDoor
