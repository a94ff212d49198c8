/-
  No cell of these rows narrows 'for every input' (looked for: loops, veiled, ifaces, maps, wideKeys, modest, calm, conditions, laid).
  DERIVED. THE GIVEN ROWS OF THIS SEAT. 3 by the template 'for every input the law returns true; each argument reads behind the call as it read before'; 0 by the template 'total and deterministic' (their statements: YthihccmombcihaaTotals.lean).
  GIVEN WITH THE SEED: the statements are not yours to turn. If you find one false, say at which input.
  Laid BY PROGRAM, IN A SANDBOX (cutbox-rows.mjs): the forced cells as the released guide's own fill.sh prints them over the translation 794230b5c8b29e80… (all of the seat's roots in one cut). By AI agents, Wed Nov 11 2026. No macro, syntax, notation, axiom, sorry.
-/
import Derived.Test.YthihccmombcihaaChecked
import GoSem.Claim
import GoSem.ClaimJoined
import GoSem.ClaimMapViews
import Derived.JoinedTies
import Derived.KernelRfl
namespace Go.Proofs.Ythihccmombcihaa
/- THE CELL 'sum', in the pinned program and in every row, IS THE sha256 OF THE DUMP (.gsa) THAT YthihccmombcihaaProg.lean LOADS. Nothing in Lean hashes anything: it is a label: what it is worth is what the hold of that sum in a sandbox is worth. -/
noncomputable def Try.pinned : Pinned := { name := "ythihccmombcihaa", sum := "794230b5c8b29e80b3c58f4f1bb43c96ed43bc70c2357c134722d10c4166fd21", checked := Try.checked }
namespace Rows
def none {H : Type} : Left H := { results := [], args := [] }

/-- 'cressetlaw08.TracksLengths': WHATEVER THE INPUT: true; the input reads as it did. -/
def tracksLengthsSpec : ChangeSpec := { name := "tracksLengths", fn := fun _ => fun
  | [d1, d2] => { results := [.lit (.bool true)], args := [d1, d2] }
  | _ => none }
def tracksLengthsRow : OpenClaim := { program := "ythihccmombcihaa", sum := "794230b5c8b29e80b3c58f4f1bb43c96ed43bc70c2357c134722d10c4166fd21", func := "cresset/cressetlaw08.TracksLengths", spec := "tracksLengths", unfollowed := true, recurses := true, apart := false }
def TracksLengthsSaid : Prop := tracksLengthsRow.holds Try.pinned (OpenSpec.ofChange tracksLengthsSpec)

/-- ITS FALSE NEIGHBOUR: 'it returns false'. Refute it at one input. -/
def tracksLengthsWrong : ChangeSpec := { name := "tracksLengths", fn := fun _ => fun
  | [d1, d2] => { results := [.lit (.bool false)], args := [d1, d2] }
  | _ => none }
def TracksLengthsWrongFalsely : Prop := tracksLengthsRow.holds Try.pinned (OpenSpec.ofChange tracksLengthsWrong)

/-- 'cressetlaw08.TracksBoxes': WHATEVER THE INPUT: true; the input reads as it did. -/
def tracksBoxesSpec : ChangeSpec := { name := "tracksBoxes", fn := fun _ => fun
  | [d1, d2, d3, d4, d5] => { results := [.lit (.bool true)], args := [d1, d2, d3, d4, d5] }
  | _ => none }
def tracksBoxesRow : OpenClaim := { program := "ythihccmombcihaa", sum := "794230b5c8b29e80b3c58f4f1bb43c96ed43bc70c2357c134722d10c4166fd21", func := "cresset/cressetlaw08.TracksBoxes", spec := "tracksBoxes", unfollowed := true, recurses := true, apart := false }
def TracksBoxesSaid : Prop := tracksBoxesRow.holds Try.pinned (OpenSpec.ofChange tracksBoxesSpec)

/-- ITS FALSE NEIGHBOUR: 'it returns false'. Refute it at one input. -/
def tracksBoxesWrong : ChangeSpec := { name := "tracksBoxes", fn := fun _ => fun
  | [d1, d2, d3, d4, d5] => { results := [.lit (.bool false)], args := [d1, d2, d3, d4, d5] }
  | _ => none }
def TracksBoxesWrongFalsely : Prop := tracksBoxesRow.holds Try.pinned (OpenSpec.ofChange tracksBoxesWrong)

/-- 'cressetlaw08.TracksLong': WHATEVER THE INPUT: true; the input reads as it did. -/
def tracksLongSpec : ChangeSpec := { name := "tracksLong", fn := fun _ => fun
  | [d1, d2] => { results := [.lit (.bool true)], args := [d1, d2] }
  | _ => none }
def tracksLongRow : OpenClaim := { program := "ythihccmombcihaa", sum := "794230b5c8b29e80b3c58f4f1bb43c96ed43bc70c2357c134722d10c4166fd21", func := "cresset/cressetlaw08.TracksLong", spec := "tracksLong", unfollowed := true, recurses := true, apart := false }
def TracksLongSaid : Prop := tracksLongRow.holds Try.pinned (OpenSpec.ofChange tracksLongSpec)

/-- ITS FALSE NEIGHBOUR: 'it returns false'. Refute it at one input. -/
def tracksLongWrong : ChangeSpec := { name := "tracksLong", fn := fun _ => fun
  | [d1, d2] => { results := [.lit (.bool false)], args := [d1, d2] }
  | _ => none }
def TracksLongWrongFalsely : Prop := tracksLongRow.holds Try.pinned (OpenSpec.ofChange tracksLongWrong)

/- THE SECOND FORM. 'bulk': how many values and letters a reading holds, each counted each time it is reached (what is shared counts as often as it is met; a slice's spare places count too). A statement '..UptoSaid' is the law's where the arguments, and the package variables that the reading takes, are together of bulk at most 1048576: NARROWER than '..Said'. Prove '..Said' where nothing that the law and all that it calls make is longer than what came in: it says more and counts as full. Else prove '..UptoSaid'. A law counts once. -/
mutual
def uptoBulk {H : Type} : DataW H → Nat
  | .lit (.string bytes) => bytes.length + 1
  | .lit _ => 1
  | .nil => 1
  | .ptr d => uptoBulk d + 1
  | .slice elems spare => uptoBulkAll elems + uptoBulkAll spare + 1
  | .agg parts => uptoBulkAll parts + 1
  | .iface _ d => uptoBulk d + 1
  | .map entries => uptoBulkEntries entries + 1
  | .held _ => 1
def uptoBulkAll {H : Type} : List (DataW H) → Nat
  | [] => 0
  | d :: r => uptoBulk d + uptoBulkAll r
def uptoBulkEntries {H : Type} : List (Lit × DataW H) → Nat
  | [] => 0
  | x :: r => uptoBulkEntry x + uptoBulkEntries r
def uptoBulkEntry {H : Type} : Lit × DataW H → Nat
  | (.string bytes, d) => bytes.length + uptoBulk d + 1
  | (_, d) => uptoBulk d + 1
 end
def uptoSmall : (H : Type) → List (DataW H) → Bool := fun _ ds => decide (uptoBulkAll ds ≤ 1048576)
def OpenSpec.upto (s : _root_.Go.ChangeSpec) : _root_.Go.OpenSpec := { _root_.Go.OpenSpec.ofChange s with cond := some uptoSmall }

/-- 'cressetlaw08.TracksLengths', WHERE WHAT IT READS IS OF BULK AT MOST 1048576: true; the input reads as it did. -/
def tracksLengthsUptoRow : OpenClaim := { program := "ythihccmombcihaa", sum := "794230b5c8b29e80b3c58f4f1bb43c96ed43bc70c2357c134722d10c4166fd21", func := "cresset/cressetlaw08.TracksLengths", spec := "tracksLengths", unfollowed := true, recurses := true, apart := false, narrowed := true }
def TracksLengthsUptoSaid : Prop := tracksLengthsUptoRow.holds Try.pinned (OpenSpec.upto tracksLengthsSpec)

/-- 'cressetlaw08.TracksBoxes', WHERE WHAT IT READS IS OF BULK AT MOST 1048576: true; the input reads as it did. -/
def tracksBoxesUptoRow : OpenClaim := { program := "ythihccmombcihaa", sum := "794230b5c8b29e80b3c58f4f1bb43c96ed43bc70c2357c134722d10c4166fd21", func := "cresset/cressetlaw08.TracksBoxes", spec := "tracksBoxes", unfollowed := true, recurses := true, apart := false, narrowed := true }
def TracksBoxesUptoSaid : Prop := tracksBoxesUptoRow.holds Try.pinned (OpenSpec.upto tracksBoxesSpec)

/-- 'cressetlaw08.TracksLong', WHERE WHAT IT READS IS OF BULK AT MOST 1048576: true; the input reads as it did. -/
def tracksLongUptoRow : OpenClaim := { program := "ythihccmombcihaa", sum := "794230b5c8b29e80b3c58f4f1bb43c96ed43bc70c2357c134722d10c4166fd21", func := "cresset/cressetlaw08.TracksLong", spec := "tracksLong", unfollowed := true, recurses := true, apart := false, narrowed := true }
def TracksLongUptoSaid : Prop := tracksLongUptoRow.holds Try.pinned (OpenSpec.upto tracksLongSpec)

end Rows
end Go.Proofs.Ythihccmombcihaa
