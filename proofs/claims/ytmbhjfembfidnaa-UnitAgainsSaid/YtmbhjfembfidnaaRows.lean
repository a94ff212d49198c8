/-
  No cell of these rows narrows 'for every input' (looked for: loops, veiled, ifaces, maps, wideKeys, modest, calm, conditions, laid).
  DERIVED. THE GIVEN ROWS OF THIS SEAT. 13 by the template 'for every input the law returns true; each argument reads behind the call as it read before'; 0 by the template 'total and deterministic' (their statements: YtmbhjfembfidnaaTotals.lean).
  GIVEN WITH THE SEED: the statements are not yours to turn. If you find one false, say at which input.
  Laid BY PROGRAM, IN A SANDBOX (cutbox-rows.mjs): the forced cells as the released guide's own fill.sh prints them over the translation bb91590d596547bc… (all of the seat's roots in one cut). By AI agents, Wed Nov 11 2026. No macro, syntax, notation, axiom, sorry.
-/
import Derived.Test.YtmbhjfembfidnaaChecked
import GoSem.Claim
import GoSem.ClaimJoined
import GoSem.ClaimMapViews
import Derived.JoinedTies
import Derived.KernelRfl
namespace Go.Proofs.Ytmbhjfembfidnaa
/- THE CELL 'sum', in the pinned program and in every row, IS THE sha256 OF THE DUMP (.gsa) THAT YtmbhjfembfidnaaProg.lean LOADS. Nothing in Lean hashes anything: it is a label: what it is worth is what the hold of that sum in a sandbox is worth. -/
noncomputable def Try.pinned : Pinned := { name := "ytmbhjfembfidnaa", sum := "bb91590d596547bc8e8050a2e40c8a6716bd14f65084515a737c7566e17576c3", checked := Try.checked }
namespace Rows
def none {H : Type} : Left H := { results := [], args := [] }

/-- 'cressetlaw09.UnitChecks': WHATEVER THE INPUT: true; the input reads as it did. -/
def unitChecksSpec : ChangeSpec := { name := "unitChecks", fn := fun _ => fun
  | [d1, d2, d3] => { results := [.lit (.bool true)], args := [d1, d2, d3] }
  | _ => none }
def unitChecksRow : OpenClaim := { program := "ytmbhjfembfidnaa", sum := "bb91590d596547bc8e8050a2e40c8a6716bd14f65084515a737c7566e17576c3", func := "cresset/cressetlaw09.UnitChecks", spec := "unitChecks", unfollowed := true, recurses := true, apart := false }
def UnitChecksSaid : Prop := unitChecksRow.holds Try.pinned (OpenSpec.ofChange unitChecksSpec)

/-- ITS FALSE NEIGHBOUR: 'it returns false'. Refute it at one input. -/
def unitChecksWrong : ChangeSpec := { name := "unitChecks", fn := fun _ => fun
  | [d1, d2, d3] => { results := [.lit (.bool false)], args := [d1, d2, d3] }
  | _ => none }
def UnitChecksWrongFalsely : Prop := unitChecksRow.holds Try.pinned (OpenSpec.ofChange unitChecksWrong)

/-- 'cressetlaw09.UnitPlans': WHATEVER THE INPUT: true; the input reads as it did. -/
def unitPlansSpec : ChangeSpec := { name := "unitPlans", fn := fun _ => fun
  | [d1, d2] => { results := [.lit (.bool true)], args := [d1, d2] }
  | _ => none }
def unitPlansRow : OpenClaim := { program := "ytmbhjfembfidnaa", sum := "bb91590d596547bc8e8050a2e40c8a6716bd14f65084515a737c7566e17576c3", func := "cresset/cressetlaw09.UnitPlans", spec := "unitPlans", unfollowed := true, recurses := true, apart := false }
def UnitPlansSaid : Prop := unitPlansRow.holds Try.pinned (OpenSpec.ofChange unitPlansSpec)

/-- ITS FALSE NEIGHBOUR: 'it returns false'. Refute it at one input. -/
def unitPlansWrong : ChangeSpec := { name := "unitPlans", fn := fun _ => fun
  | [d1, d2] => { results := [.lit (.bool false)], args := [d1, d2] }
  | _ => none }
def UnitPlansWrongFalsely : Prop := unitPlansRow.holds Try.pinned (OpenSpec.ofChange unitPlansWrong)

/-- 'cressetlaw09.UnitWheres': WHATEVER THE INPUT: true; the input reads as it did. -/
def unitWheresSpec : ChangeSpec := { name := "unitWheres", fn := fun _ => fun
  | [d1, d2, d3] => { results := [.lit (.bool true)], args := [d1, d2, d3] }
  | _ => none }
def unitWheresRow : OpenClaim := { program := "ytmbhjfembfidnaa", sum := "bb91590d596547bc8e8050a2e40c8a6716bd14f65084515a737c7566e17576c3", func := "cresset/cressetlaw09.UnitWheres", spec := "unitWheres", unfollowed := true, recurses := true, apart := false }
def UnitWheresSaid : Prop := unitWheresRow.holds Try.pinned (OpenSpec.ofChange unitWheresSpec)

/-- ITS FALSE NEIGHBOUR: 'it returns false'. Refute it at one input. -/
def unitWheresWrong : ChangeSpec := { name := "unitWheres", fn := fun _ => fun
  | [d1, d2, d3] => { results := [.lit (.bool false)], args := [d1, d2, d3] }
  | _ => none }
def UnitWheresWrongFalsely : Prop := unitWheresRow.holds Try.pinned (OpenSpec.ofChange unitWheresWrong)

/-- 'cressetlaw09.UnitAgains': WHATEVER THE INPUT: true; the input reads as it did. -/
def unitAgainsSpec : ChangeSpec := { name := "unitAgains", fn := fun _ => fun
  | [d1, d2, d3] => { results := [.lit (.bool true)], args := [d1, d2, d3] }
  | _ => none }
def unitAgainsRow : OpenClaim := { program := "ytmbhjfembfidnaa", sum := "bb91590d596547bc8e8050a2e40c8a6716bd14f65084515a737c7566e17576c3", func := "cresset/cressetlaw09.UnitAgains", spec := "unitAgains", unfollowed := true, recurses := true, apart := false }
def UnitAgainsSaid : Prop := unitAgainsRow.holds Try.pinned (OpenSpec.ofChange unitAgainsSpec)

/-- ITS FALSE NEIGHBOUR: 'it returns false'. Refute it at one input. -/
def unitAgainsWrong : ChangeSpec := { name := "unitAgains", fn := fun _ => fun
  | [d1, d2, d3] => { results := [.lit (.bool false)], args := [d1, d2, d3] }
  | _ => none }
def UnitAgainsWrongFalsely : Prop := unitAgainsRow.holds Try.pinned (OpenSpec.ofChange unitAgainsWrong)

/-- 'cressetlaw09.UnitHome': WHATEVER THE INPUT: true; the input reads as it did. -/
def unitHomeSpec : ChangeSpec := { name := "unitHome", fn := fun _ => fun
  | [d1, d2] => { results := [.lit (.bool true)], args := [d1, d2] }
  | _ => none }
def unitHomeRow : OpenClaim := { program := "ytmbhjfembfidnaa", sum := "bb91590d596547bc8e8050a2e40c8a6716bd14f65084515a737c7566e17576c3", func := "cresset/cressetlaw09.UnitHome", spec := "unitHome", unfollowed := true, recurses := true, apart := false }
def UnitHomeSaid : Prop := unitHomeRow.holds Try.pinned (OpenSpec.ofChange unitHomeSpec)

/-- ITS FALSE NEIGHBOUR: 'it returns false'. Refute it at one input. -/
def unitHomeWrong : ChangeSpec := { name := "unitHome", fn := fun _ => fun
  | [d1, d2] => { results := [.lit (.bool false)], args := [d1, d2] }
  | _ => none }
def UnitHomeWrongFalsely : Prop := unitHomeRow.holds Try.pinned (OpenSpec.ofChange unitHomeWrong)

/-- 'cressetlaw09.UnitTriangle': WHATEVER THE INPUT: true; the input reads as it did. -/
def unitTriangleSpec : ChangeSpec := { name := "unitTriangle", fn := fun _ => fun
  | [d1, d2, d3] => { results := [.lit (.bool true)], args := [d1, d2, d3] }
  | _ => none }
def unitTriangleRow : OpenClaim := { program := "ytmbhjfembfidnaa", sum := "bb91590d596547bc8e8050a2e40c8a6716bd14f65084515a737c7566e17576c3", func := "cresset/cressetlaw09.UnitTriangle", spec := "unitTriangle", unfollowed := true, recurses := true, apart := false }
def UnitTriangleSaid : Prop := unitTriangleRow.holds Try.pinned (OpenSpec.ofChange unitTriangleSpec)

/-- ITS FALSE NEIGHBOUR: 'it returns false'. Refute it at one input. -/
def unitTriangleWrong : ChangeSpec := { name := "unitTriangle", fn := fun _ => fun
  | [d1, d2, d3] => { results := [.lit (.bool false)], args := [d1, d2, d3] }
  | _ => none }
def UnitTriangleWrongFalsely : Prop := unitTriangleRow.holds Try.pinned (OpenSpec.ofChange unitTriangleWrong)

/-- 'cressetlaw09.UnitGoesOn': WHATEVER THE INPUT: true; the input reads as it did. -/
def unitGoesOnSpec : ChangeSpec := { name := "unitGoesOn", fn := fun _ => fun
  | [d1, d2, d3, d4] => { results := [.lit (.bool true)], args := [d1, d2, d3, d4] }
  | _ => none }
def unitGoesOnRow : OpenClaim := { program := "ytmbhjfembfidnaa", sum := "bb91590d596547bc8e8050a2e40c8a6716bd14f65084515a737c7566e17576c3", func := "cresset/cressetlaw09.UnitGoesOn", spec := "unitGoesOn", unfollowed := true, recurses := true, apart := false }
def UnitGoesOnSaid : Prop := unitGoesOnRow.holds Try.pinned (OpenSpec.ofChange unitGoesOnSpec)

/-- ITS FALSE NEIGHBOUR: 'it returns false'. Refute it at one input. -/
def unitGoesOnWrong : ChangeSpec := { name := "unitGoesOn", fn := fun _ => fun
  | [d1, d2, d3, d4] => { results := [.lit (.bool false)], args := [d1, d2, d3, d4] }
  | _ => none }
def UnitGoesOnWrongFalsely : Prop := unitGoesOnRow.holds Try.pinned (OpenSpec.ofChange unitGoesOnWrong)

/-- 'cressetlaw09.UnitBoxes': WHATEVER THE INPUT: true; the input reads as it did. -/
def unitBoxesSpec : ChangeSpec := { name := "unitBoxes", fn := fun _ => fun
  | [d1, d2, d3] => { results := [.lit (.bool true)], args := [d1, d2, d3] }
  | _ => none }
def unitBoxesRow : OpenClaim := { program := "ytmbhjfembfidnaa", sum := "bb91590d596547bc8e8050a2e40c8a6716bd14f65084515a737c7566e17576c3", func := "cresset/cressetlaw09.UnitBoxes", spec := "unitBoxes", unfollowed := true, recurses := true, apart := false }
def UnitBoxesSaid : Prop := unitBoxesRow.holds Try.pinned (OpenSpec.ofChange unitBoxesSpec)

/-- ITS FALSE NEIGHBOUR: 'it returns false'. Refute it at one input. -/
def unitBoxesWrong : ChangeSpec := { name := "unitBoxes", fn := fun _ => fun
  | [d1, d2, d3] => { results := [.lit (.bool false)], args := [d1, d2, d3] }
  | _ => none }
def UnitBoxesWrongFalsely : Prop := unitBoxesRow.holds Try.pinned (OpenSpec.ofChange unitBoxesWrong)

/-- 'cressetlaw09.UnitClashes': WHATEVER THE INPUT: true; the input reads as it did. -/
def unitClashesSpec : ChangeSpec := { name := "unitClashes", fn := fun _ => fun
  | [d1, d2] => { results := [.lit (.bool true)], args := [d1, d2] }
  | _ => none }
def unitClashesRow : OpenClaim := { program := "ytmbhjfembfidnaa", sum := "bb91590d596547bc8e8050a2e40c8a6716bd14f65084515a737c7566e17576c3", func := "cresset/cressetlaw09.UnitClashes", spec := "unitClashes", unfollowed := true, recurses := true, apart := false }
def UnitClashesSaid : Prop := unitClashesRow.holds Try.pinned (OpenSpec.ofChange unitClashesSpec)

/-- ITS FALSE NEIGHBOUR: 'it returns false'. Refute it at one input. -/
def unitClashesWrong : ChangeSpec := { name := "unitClashes", fn := fun _ => fun
  | [d1, d2] => { results := [.lit (.bool false)], args := [d1, d2] }
  | _ => none }
def UnitClashesWrongFalsely : Prop := unitClashesRow.holds Try.pinned (OpenSpec.ofChange unitClashesWrong)

/-- 'cressetlaw09.UnitApart': WHATEVER THE INPUT: true; the input reads as it did. -/
def unitApartSpec : ChangeSpec := { name := "unitApart", fn := fun _ => fun
  | [d1, d2, d3, d4] => { results := [.lit (.bool true)], args := [d1, d2, d3, d4] }
  | _ => none }
def unitApartRow : OpenClaim := { program := "ytmbhjfembfidnaa", sum := "bb91590d596547bc8e8050a2e40c8a6716bd14f65084515a737c7566e17576c3", func := "cresset/cressetlaw09.UnitApart", spec := "unitApart", unfollowed := true, recurses := true, apart := false }
def UnitApartSaid : Prop := unitApartRow.holds Try.pinned (OpenSpec.ofChange unitApartSpec)

/-- ITS FALSE NEIGHBOUR: 'it returns false'. Refute it at one input. -/
def unitApartWrong : ChangeSpec := { name := "unitApart", fn := fun _ => fun
  | [d1, d2, d3, d4] => { results := [.lit (.bool false)], args := [d1, d2, d3, d4] }
  | _ => none }
def UnitApartWrongFalsely : Prop := unitApartRow.holds Try.pinned (OpenSpec.ofChange unitApartWrong)

/-- 'cressetlaw09.UnitAssigns': WHATEVER THE INPUT: true; the input reads as it did. -/
def unitAssignsSpec : ChangeSpec := { name := "unitAssigns", fn := fun _ => fun
  | [d] => { results := [.lit (.bool true)], args := [d] }
  | _ => none }
def unitAssignsRow : OpenClaim := { program := "ytmbhjfembfidnaa", sum := "bb91590d596547bc8e8050a2e40c8a6716bd14f65084515a737c7566e17576c3", func := "cresset/cressetlaw09.UnitAssigns", spec := "unitAssigns", unfollowed := true, recurses := true, apart := false }
def UnitAssignsSaid : Prop := unitAssignsRow.holds Try.pinned (OpenSpec.ofChange unitAssignsSpec)

/-- ITS FALSE NEIGHBOUR: 'it returns false'. Refute it at one input. -/
def unitAssignsWrong : ChangeSpec := { name := "unitAssigns", fn := fun _ => fun
  | [d] => { results := [.lit (.bool false)], args := [d] }
  | _ => none }
def UnitAssignsWrongFalsely : Prop := unitAssignsRow.holds Try.pinned (OpenSpec.ofChange unitAssignsWrong)

/-- 'cressetlaw09.UnitBest': WHATEVER THE INPUT: true; the input reads as it did. -/
def unitBestSpec : ChangeSpec := { name := "unitBest", fn := fun _ => fun
  | [d1, d2] => { results := [.lit (.bool true)], args := [d1, d2] }
  | _ => none }
def unitBestRow : OpenClaim := { program := "ytmbhjfembfidnaa", sum := "bb91590d596547bc8e8050a2e40c8a6716bd14f65084515a737c7566e17576c3", func := "cresset/cressetlaw09.UnitBest", spec := "unitBest", unfollowed := true, recurses := true, apart := false }
def UnitBestSaid : Prop := unitBestRow.holds Try.pinned (OpenSpec.ofChange unitBestSpec)

/-- ITS FALSE NEIGHBOUR: 'it returns false'. Refute it at one input. -/
def unitBestWrong : ChangeSpec := { name := "unitBest", fn := fun _ => fun
  | [d1, d2] => { results := [.lit (.bool false)], args := [d1, d2] }
  | _ => none }
def UnitBestWrongFalsely : Prop := unitBestRow.holds Try.pinned (OpenSpec.ofChange unitBestWrong)

/-- 'cressetlaw09.UnitOwns': WHATEVER THE INPUT: true; the input reads as it did. -/
def unitOwnsSpec : ChangeSpec := { name := "unitOwns", fn := fun _ => fun
  | [d1, d2, d3] => { results := [.lit (.bool true)], args := [d1, d2, d3] }
  | _ => none }
def unitOwnsRow : OpenClaim := { program := "ytmbhjfembfidnaa", sum := "bb91590d596547bc8e8050a2e40c8a6716bd14f65084515a737c7566e17576c3", func := "cresset/cressetlaw09.UnitOwns", spec := "unitOwns", unfollowed := true, recurses := true, apart := false }
def UnitOwnsSaid : Prop := unitOwnsRow.holds Try.pinned (OpenSpec.ofChange unitOwnsSpec)

/-- ITS FALSE NEIGHBOUR: 'it returns false'. Refute it at one input. -/
def unitOwnsWrong : ChangeSpec := { name := "unitOwns", fn := fun _ => fun
  | [d1, d2, d3] => { results := [.lit (.bool false)], args := [d1, d2, d3] }
  | _ => none }
def UnitOwnsWrongFalsely : Prop := unitOwnsRow.holds Try.pinned (OpenSpec.ofChange unitOwnsWrong)

/- THE SECOND FORM. 'bulk': how many values and letters a reading holds, each counted each time it is reached (what is shared counts as often as it is met; a slice's spare places count too). A statement '..UptoSaid' is the law's where the arguments, and the package variables that the reading takes, are together of bulk at most 1048576: NARROWER than '..Said'. Prove '..Said' where nothing that the law and all that it calls make is longer than what came in: it says more and counts as full. Else prove '..UptoSaid'. A law counts once. -/
mutual
def uptoBulk {H : Type} : DataW H → Nat
  | .lit (.string bytes) => bytes.length + 1
  | .lit _ => 1
  | .nil => 1
  | .ptr d => uptoBulk d + 1
  | .slice elems spare => uptoBulkAll elems + uptoBulkAll spare + 1
  | .agg parts => uptoBulkAll parts + 1
  | .iface _ d => uptoBulk d + 1
  | .map entries => uptoBulkEntries entries + 1
  | .held _ => 1
def uptoBulkAll {H : Type} : List (DataW H) → Nat
  | [] => 0
  | d :: r => uptoBulk d + uptoBulkAll r
def uptoBulkEntries {H : Type} : List (Lit × DataW H) → Nat
  | [] => 0
  | x :: r => uptoBulkEntry x + uptoBulkEntries r
def uptoBulkEntry {H : Type} : Lit × DataW H → Nat
  | (.string bytes, d) => bytes.length + uptoBulk d + 1
  | (_, d) => uptoBulk d + 1
 end
def uptoSmall : (H : Type) → List (DataW H) → Bool := fun _ ds => decide (uptoBulkAll ds ≤ 1048576)
def OpenSpec.upto (s : _root_.Go.ChangeSpec) : _root_.Go.OpenSpec := { _root_.Go.OpenSpec.ofChange s with cond := some uptoSmall }

/-- 'cressetlaw09.UnitChecks', WHERE WHAT IT READS IS OF BULK AT MOST 1048576: true; the input reads as it did. -/
def unitChecksUptoRow : OpenClaim := { program := "ytmbhjfembfidnaa", sum := "bb91590d596547bc8e8050a2e40c8a6716bd14f65084515a737c7566e17576c3", func := "cresset/cressetlaw09.UnitChecks", spec := "unitChecks", unfollowed := true, recurses := true, apart := false, narrowed := true }
def UnitChecksUptoSaid : Prop := unitChecksUptoRow.holds Try.pinned (OpenSpec.upto unitChecksSpec)

/-- 'cressetlaw09.UnitPlans', WHERE WHAT IT READS IS OF BULK AT MOST 1048576: true; the input reads as it did. -/
def unitPlansUptoRow : OpenClaim := { program := "ytmbhjfembfidnaa", sum := "bb91590d596547bc8e8050a2e40c8a6716bd14f65084515a737c7566e17576c3", func := "cresset/cressetlaw09.UnitPlans", spec := "unitPlans", unfollowed := true, recurses := true, apart := false, narrowed := true }
def UnitPlansUptoSaid : Prop := unitPlansUptoRow.holds Try.pinned (OpenSpec.upto unitPlansSpec)

/-- 'cressetlaw09.UnitWheres', WHERE WHAT IT READS IS OF BULK AT MOST 1048576: true; the input reads as it did. -/
def unitWheresUptoRow : OpenClaim := { program := "ytmbhjfembfidnaa", sum := "bb91590d596547bc8e8050a2e40c8a6716bd14f65084515a737c7566e17576c3", func := "cresset/cressetlaw09.UnitWheres", spec := "unitWheres", unfollowed := true, recurses := true, apart := false, narrowed := true }
def UnitWheresUptoSaid : Prop := unitWheresUptoRow.holds Try.pinned (OpenSpec.upto unitWheresSpec)

/-- 'cressetlaw09.UnitAgains', WHERE WHAT IT READS IS OF BULK AT MOST 1048576: true; the input reads as it did. -/
def unitAgainsUptoRow : OpenClaim := { program := "ytmbhjfembfidnaa", sum := "bb91590d596547bc8e8050a2e40c8a6716bd14f65084515a737c7566e17576c3", func := "cresset/cressetlaw09.UnitAgains", spec := "unitAgains", unfollowed := true, recurses := true, apart := false, narrowed := true }
def UnitAgainsUptoSaid : Prop := unitAgainsUptoRow.holds Try.pinned (OpenSpec.upto unitAgainsSpec)

/-- 'cressetlaw09.UnitHome', WHERE WHAT IT READS IS OF BULK AT MOST 1048576: true; the input reads as it did. -/
def unitHomeUptoRow : OpenClaim := { program := "ytmbhjfembfidnaa", sum := "bb91590d596547bc8e8050a2e40c8a6716bd14f65084515a737c7566e17576c3", func := "cresset/cressetlaw09.UnitHome", spec := "unitHome", unfollowed := true, recurses := true, apart := false, narrowed := true }
def UnitHomeUptoSaid : Prop := unitHomeUptoRow.holds Try.pinned (OpenSpec.upto unitHomeSpec)

/-- 'cressetlaw09.UnitTriangle', WHERE WHAT IT READS IS OF BULK AT MOST 1048576: true; the input reads as it did. -/
def unitTriangleUptoRow : OpenClaim := { program := "ytmbhjfembfidnaa", sum := "bb91590d596547bc8e8050a2e40c8a6716bd14f65084515a737c7566e17576c3", func := "cresset/cressetlaw09.UnitTriangle", spec := "unitTriangle", unfollowed := true, recurses := true, apart := false, narrowed := true }
def UnitTriangleUptoSaid : Prop := unitTriangleUptoRow.holds Try.pinned (OpenSpec.upto unitTriangleSpec)

/-- 'cressetlaw09.UnitGoesOn', WHERE WHAT IT READS IS OF BULK AT MOST 1048576: true; the input reads as it did. -/
def unitGoesOnUptoRow : OpenClaim := { program := "ytmbhjfembfidnaa", sum := "bb91590d596547bc8e8050a2e40c8a6716bd14f65084515a737c7566e17576c3", func := "cresset/cressetlaw09.UnitGoesOn", spec := "unitGoesOn", unfollowed := true, recurses := true, apart := false, narrowed := true }
def UnitGoesOnUptoSaid : Prop := unitGoesOnUptoRow.holds Try.pinned (OpenSpec.upto unitGoesOnSpec)

/-- 'cressetlaw09.UnitBoxes', WHERE WHAT IT READS IS OF BULK AT MOST 1048576: true; the input reads as it did. -/
def unitBoxesUptoRow : OpenClaim := { program := "ytmbhjfembfidnaa", sum := "bb91590d596547bc8e8050a2e40c8a6716bd14f65084515a737c7566e17576c3", func := "cresset/cressetlaw09.UnitBoxes", spec := "unitBoxes", unfollowed := true, recurses := true, apart := false, narrowed := true }
def UnitBoxesUptoSaid : Prop := unitBoxesUptoRow.holds Try.pinned (OpenSpec.upto unitBoxesSpec)

/-- 'cressetlaw09.UnitClashes', WHERE WHAT IT READS IS OF BULK AT MOST 1048576: true; the input reads as it did. -/
def unitClashesUptoRow : OpenClaim := { program := "ytmbhjfembfidnaa", sum := "bb91590d596547bc8e8050a2e40c8a6716bd14f65084515a737c7566e17576c3", func := "cresset/cressetlaw09.UnitClashes", spec := "unitClashes", unfollowed := true, recurses := true, apart := false, narrowed := true }
def UnitClashesUptoSaid : Prop := unitClashesUptoRow.holds Try.pinned (OpenSpec.upto unitClashesSpec)

/-- 'cressetlaw09.UnitApart', WHERE WHAT IT READS IS OF BULK AT MOST 1048576: true; the input reads as it did. -/
def unitApartUptoRow : OpenClaim := { program := "ytmbhjfembfidnaa", sum := "bb91590d596547bc8e8050a2e40c8a6716bd14f65084515a737c7566e17576c3", func := "cresset/cressetlaw09.UnitApart", spec := "unitApart", unfollowed := true, recurses := true, apart := false, narrowed := true }
def UnitApartUptoSaid : Prop := unitApartUptoRow.holds Try.pinned (OpenSpec.upto unitApartSpec)

/-- 'cressetlaw09.UnitAssigns', WHERE WHAT IT READS IS OF BULK AT MOST 1048576: true; the input reads as it did. -/
def unitAssignsUptoRow : OpenClaim := { program := "ytmbhjfembfidnaa", sum := "bb91590d596547bc8e8050a2e40c8a6716bd14f65084515a737c7566e17576c3", func := "cresset/cressetlaw09.UnitAssigns", spec := "unitAssigns", unfollowed := true, recurses := true, apart := false, narrowed := true }
def UnitAssignsUptoSaid : Prop := unitAssignsUptoRow.holds Try.pinned (OpenSpec.upto unitAssignsSpec)

/-- 'cressetlaw09.UnitBest', WHERE WHAT IT READS IS OF BULK AT MOST 1048576: true; the input reads as it did. -/
def unitBestUptoRow : OpenClaim := { program := "ytmbhjfembfidnaa", sum := "bb91590d596547bc8e8050a2e40c8a6716bd14f65084515a737c7566e17576c3", func := "cresset/cressetlaw09.UnitBest", spec := "unitBest", unfollowed := true, recurses := true, apart := false, narrowed := true }
def UnitBestUptoSaid : Prop := unitBestUptoRow.holds Try.pinned (OpenSpec.upto unitBestSpec)

/-- 'cressetlaw09.UnitOwns', WHERE WHAT IT READS IS OF BULK AT MOST 1048576: true; the input reads as it did. -/
def unitOwnsUptoRow : OpenClaim := { program := "ytmbhjfembfidnaa", sum := "bb91590d596547bc8e8050a2e40c8a6716bd14f65084515a737c7566e17576c3", func := "cresset/cressetlaw09.UnitOwns", spec := "unitOwns", unfollowed := true, recurses := true, apart := false, narrowed := true }
def UnitOwnsUptoSaid : Prop := unitOwnsUptoRow.holds Try.pinned (OpenSpec.upto unitOwnsSpec)

end Rows
end Go.Proofs.Ytmbhjfembfidnaa
