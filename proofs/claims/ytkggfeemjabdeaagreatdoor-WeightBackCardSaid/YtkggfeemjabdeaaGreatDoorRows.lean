/-
  NARROWER THAN 'FOR EVERY INPUT', by the rows' own cells (each row's printed sentence says how): WeightNames: laid · WeightField: laid · WeightOrders: laid · WeightBack: laid · WeightWhole: laid · WeightBayes: laid · WeightFewest: laid.
  DERIVED. THE GIVEN ROWS OF THIS SEAT. 7 by the template 'for every input the law returns true; each argument reads behind the call as it read before'; 0 by the template 'total and deterministic' (their statements: YtkggfeemjabdeaaGreatDoorTotals.lean).
  GIVEN WITH THE SEED: the statements are not yours to turn. If you find one false, say at which input.
  Laid BY PROGRAM, IN A SANDBOX (cutbox-rows.mjs): the forced cells as the released guide's own fill.sh prints them over the translation 72f81ae467b6d0a1… (all of the seat's roots in one cut). By AI agents, Wed Nov 11 2026. No macro, syntax, notation, axiom, sorry.
-/
import Derived.Test.YtkggfeemjabdeaaGreatDoorChecked
import GoSem.PinnedTables
import GoSem.Claim
import GoSem.ClaimJoined
import GoSem.ClaimMapViews
import Derived.JoinedTies
import Derived.KernelRfl
namespace Go.Proofs.YtkggfeemjabdeaaGreatDoor
/- THE CELL 'sum', in the pinned program and in every row, IS THE sha256 OF THE DUMP (.gsa) THAT YtkggfeemjabdeaaGreatDoorProg.lean LOADS. Nothing in Lean hashes anything: it is a label: what it is worth is what the hold of that sum in a sandbox is worth. -/
noncomputable def Tryz.pinned : Pinned := { name := "ytkggfeemjabdeaagreatdoor", sum := "72f81ae467b6d0a1fb07ac4d21683b31392a8df31119dfd22ff365be46f6daf2", checked := Tryz.checked }
namespace Rows
def none {H : Type} : Left H := { results := [], args := [] }

/- WHAT THE LISTED PACKAGE-LEVEL VARIABLES READ AS WHEN THE CALL BEGINS. Each datum BY PROGRAM (the guide's laid-datum.mjs) off the statement by which the dump's own 'gosem.cut.vars' lays the variable. In a bare row this is a premise. The card (YtkggfeemjabdeaaGreatDoorCards.lean) ties it to the program's text. -/
def laid_unicode_utf8_acceptRanges {H : Type} : DataW H := .agg [.agg [.lit (.int .u8 128), .lit (.int .u8 191)], .agg [.lit (.int .u8 160), .lit (.int .u8 191)], .agg [.lit (.int .u8 128), .lit (.int .u8 159)], .agg [.lit (.int .u8 144), .lit (.int .u8 191)], .agg [.lit (.int .u8 128), .lit (.int .u8 143)], .agg [.lit (.int .u8 0), .lit (.int .u8 0)], .agg [.lit (.int .u8 0), .lit (.int .u8 0)], .agg [.lit (.int .u8 0), .lit (.int .u8 0)], .agg [.lit (.int .u8 0), .lit (.int .u8 0)], .agg [.lit (.int .u8 0), .lit (.int .u8 0)], .agg [.lit (.int .u8 0), .lit (.int .u8 0)], .agg [.lit (.int .u8 0), .lit (.int .u8 0)], .agg [.lit (.int .u8 0), .lit (.int .u8 0)], .agg [.lit (.int .u8 0), .lit (.int .u8 0)], .agg [.lit (.int .u8 0), .lit (.int .u8 0)], .agg [.lit (.int .u8 0), .lit (.int .u8 0)]]
def laid_cresset_weight_tens {H : Type} : DataW H := .agg [.lit (.int .u64 1), .lit (.int .u64 10), .lit (.int .u64 100), .lit (.int .u64 1000), .lit (.int .u64 10000), .lit (.int .u64 100000), .lit (.int .u64 1000000), .lit (.int .u64 10000000), .lit (.int .u64 100000000), .lit (.int .u64 1000000000), .lit (.int .u64 10000000000), .lit (.int .u64 100000000000), .lit (.int .u64 1000000000000), .lit (.int .u64 10000000000000), .lit (.int .u64 100000000000000), .lit (.int .u64 1000000000000000), .lit (.int .u64 10000000000000000), .lit (.int .u64 100000000000000000), .lit (.int .u64 1000000000000000000)]
/-- One of Go's own tables, pinned by name: the form's constant. -/
def laid_unicode_utf8_first : DataW Unit := Go.Pinned.utf8First

/-- 'cressetlaw01.WeightNames': WHATEVER THE INPUT: true; the input reads as it did. -/
def weightNamesSpec : ChangeSpec := { name := "weightNames", fn := fun _ => fun
  | [] => { results := [.lit (.bool true)], args := [] }
  | _ => none }
def weightNamesRow : OpenClaim := { program := "ytkggfeemjabdeaagreatdoor", sum := "72f81ae467b6d0a1fb07ac4d21683b31392a8df31119dfd22ff365be46f6daf2", func := "cresset/cressetlaw01.WeightNames", spec := "weightNames", inPlace := ["math/bits.Add64", "math/bits.Sub64", "internal/bytealg.IndexByteString", "internal/bytealg.IndexString", "internal/abi.NoEscape", "internal/bytealg.MakeNoZero"], unfollowed := true, recurses := true, named := ["cresset/weight.tens", "math/bits.divideError", "math/bits.overflowError", "unicode/utf8.first", "unicode/utf8.acceptRanges", "internal/bytealg.MaxLen"], apart := false, laid := [("unicode/utf8.acceptRanges", laid_unicode_utf8_acceptRanges), ("cresset/weight.tens", laid_cresset_weight_tens), ("unicode/utf8.first", laid_unicode_utf8_first)] }
def WeightNamesSaid : Prop := weightNamesRow.holds Tryz.pinned (OpenSpec.ofChange weightNamesSpec)

/-- ITS FALSE NEIGHBOUR: 'it returns false'. Refute it at one input. -/
def weightNamesWrong : ChangeSpec := { name := "weightNames", fn := fun _ => fun
  | [] => { results := [.lit (.bool false)], args := [] }
  | _ => none }
def WeightNamesWrongFalsely : Prop := weightNamesRow.holds Tryz.pinned (OpenSpec.ofChange weightNamesWrong)

/-- 'cressetlaw01.WeightField': WHATEVER THE INPUT: true; the input reads as it did. -/
def weightFieldSpec : ChangeSpec := { name := "weightField", fn := fun _ => fun
  | [d1, d2, d3] => { results := [.lit (.bool true)], args := [d1, d2, d3] }
  | _ => none }
def weightFieldRow : OpenClaim := { program := "ytkggfeemjabdeaagreatdoor", sum := "72f81ae467b6d0a1fb07ac4d21683b31392a8df31119dfd22ff365be46f6daf2", func := "cresset/cressetlaw01.WeightField", spec := "weightField", inPlace := ["math/bits.Add64", "math/bits.Sub64", "internal/bytealg.IndexByteString", "internal/bytealg.IndexString"], unfollowed := true, recurses := true, named := ["cresset/weight.tens", "math/bits.divideError", "math/bits.overflowError", "unicode/utf8.first", "unicode/utf8.acceptRanges", "internal/bytealg.MaxLen"], apart := false, laid := [("unicode/utf8.acceptRanges", laid_unicode_utf8_acceptRanges), ("cresset/weight.tens", laid_cresset_weight_tens), ("unicode/utf8.first", laid_unicode_utf8_first)] }
def WeightFieldSaid : Prop := weightFieldRow.holds Tryz.pinned (OpenSpec.ofChange weightFieldSpec)

/-- ITS FALSE NEIGHBOUR: 'it returns false'. Refute it at one input. -/
def weightFieldWrong : ChangeSpec := { name := "weightField", fn := fun _ => fun
  | [d1, d2, d3] => { results := [.lit (.bool false)], args := [d1, d2, d3] }
  | _ => none }
def WeightFieldWrongFalsely : Prop := weightFieldRow.holds Tryz.pinned (OpenSpec.ofChange weightFieldWrong)

/-- 'cressetlaw01.WeightOrders': WHATEVER THE INPUT: true; the input reads as it did. -/
def weightOrdersSpec : ChangeSpec := { name := "weightOrders", fn := fun _ => fun
  | [d1, d2, d3] => { results := [.lit (.bool true)], args := [d1, d2, d3] }
  | _ => none }
def weightOrdersRow : OpenClaim := { program := "ytkggfeemjabdeaagreatdoor", sum := "72f81ae467b6d0a1fb07ac4d21683b31392a8df31119dfd22ff365be46f6daf2", func := "cresset/cressetlaw01.WeightOrders", spec := "weightOrders", inPlace := ["math/bits.Add64", "math/bits.Sub64", "internal/bytealg.IndexByteString", "internal/bytealg.IndexString"], unfollowed := true, recurses := true, named := ["cresset/weight.tens", "math/bits.divideError", "math/bits.overflowError", "unicode/utf8.first", "unicode/utf8.acceptRanges", "internal/bytealg.MaxLen"], apart := false, laid := [("unicode/utf8.acceptRanges", laid_unicode_utf8_acceptRanges), ("cresset/weight.tens", laid_cresset_weight_tens), ("unicode/utf8.first", laid_unicode_utf8_first)] }
def WeightOrdersSaid : Prop := weightOrdersRow.holds Tryz.pinned (OpenSpec.ofChange weightOrdersSpec)

/-- ITS FALSE NEIGHBOUR: 'it returns false'. Refute it at one input. -/
def weightOrdersWrong : ChangeSpec := { name := "weightOrders", fn := fun _ => fun
  | [d1, d2, d3] => { results := [.lit (.bool false)], args := [d1, d2, d3] }
  | _ => none }
def WeightOrdersWrongFalsely : Prop := weightOrdersRow.holds Tryz.pinned (OpenSpec.ofChange weightOrdersWrong)

/-- 'cressetlaw01.WeightBack': WHATEVER THE INPUT: true; the input reads as it did. -/
def weightBackSpec : ChangeSpec := { name := "weightBack", fn := fun _ => fun
  | [d1, d2] => { results := [.lit (.bool true)], args := [d1, d2] }
  | _ => none }
def weightBackRow : OpenClaim := { program := "ytkggfeemjabdeaagreatdoor", sum := "72f81ae467b6d0a1fb07ac4d21683b31392a8df31119dfd22ff365be46f6daf2", func := "cresset/cressetlaw01.WeightBack", spec := "weightBack", inPlace := ["math/bits.Add64", "math/bits.Sub64", "internal/bytealg.IndexByteString", "internal/bytealg.IndexString", "internal/abi.NoEscape", "internal/bytealg.MakeNoZero"], unfollowed := true, recurses := true, named := ["cresset/weight.tens", "math/bits.divideError", "math/bits.overflowError", "unicode/utf8.first", "unicode/utf8.acceptRanges", "internal/bytealg.MaxLen"], apart := false, laid := [("unicode/utf8.acceptRanges", laid_unicode_utf8_acceptRanges), ("cresset/weight.tens", laid_cresset_weight_tens), ("unicode/utf8.first", laid_unicode_utf8_first)] }
def WeightBackSaid : Prop := weightBackRow.holds Tryz.pinned (OpenSpec.ofChange weightBackSpec)

/-- ITS FALSE NEIGHBOUR: 'it returns false'. Refute it at one input. -/
def weightBackWrong : ChangeSpec := { name := "weightBack", fn := fun _ => fun
  | [d1, d2] => { results := [.lit (.bool false)], args := [d1, d2] }
  | _ => none }
def WeightBackWrongFalsely : Prop := weightBackRow.holds Tryz.pinned (OpenSpec.ofChange weightBackWrong)

/-- 'cressetlaw01.WeightWhole': WHATEVER THE INPUT: true; the input reads as it did. -/
def weightWholeSpec : ChangeSpec := { name := "weightWhole", fn := fun _ => fun
  | [d1, d2, d3] => { results := [.lit (.bool true)], args := [d1, d2, d3] }
  | _ => none }
def weightWholeRow : OpenClaim := { program := "ytkggfeemjabdeaagreatdoor", sum := "72f81ae467b6d0a1fb07ac4d21683b31392a8df31119dfd22ff365be46f6daf2", func := "cresset/cressetlaw01.WeightWhole", spec := "weightWhole", inPlace := ["math/bits.Add64", "math/bits.Sub64", "internal/bytealg.IndexByteString", "internal/bytealg.IndexString"], unfollowed := true, recurses := true, named := ["cresset/weight.tens", "math/bits.divideError", "math/bits.overflowError", "unicode/utf8.first", "unicode/utf8.acceptRanges", "internal/bytealg.MaxLen"], apart := false, laid := [("unicode/utf8.acceptRanges", laid_unicode_utf8_acceptRanges), ("cresset/weight.tens", laid_cresset_weight_tens), ("unicode/utf8.first", laid_unicode_utf8_first)] }
def WeightWholeSaid : Prop := weightWholeRow.holds Tryz.pinned (OpenSpec.ofChange weightWholeSpec)

/-- ITS FALSE NEIGHBOUR: 'it returns false'. Refute it at one input. -/
def weightWholeWrong : ChangeSpec := { name := "weightWhole", fn := fun _ => fun
  | [d1, d2, d3] => { results := [.lit (.bool false)], args := [d1, d2, d3] }
  | _ => none }
def WeightWholeWrongFalsely : Prop := weightWholeRow.holds Tryz.pinned (OpenSpec.ofChange weightWholeWrong)

/-- 'cressetlaw01.WeightBayes': WHATEVER THE INPUT: true; the input reads as it did. -/
def weightBayesSpec : ChangeSpec := { name := "weightBayes", fn := fun _ => fun
  | [d1, d2, d3] => { results := [.lit (.bool true)], args := [d1, d2, d3] }
  | _ => none }
def weightBayesRow : OpenClaim := { program := "ytkggfeemjabdeaagreatdoor", sum := "72f81ae467b6d0a1fb07ac4d21683b31392a8df31119dfd22ff365be46f6daf2", func := "cresset/cressetlaw01.WeightBayes", spec := "weightBayes", inPlace := ["math/bits.Add64", "math/bits.Sub64", "internal/bytealg.IndexByteString", "internal/bytealg.IndexString"], unfollowed := true, recurses := true, named := ["cresset/weight.tens", "math/bits.divideError", "math/bits.overflowError", "unicode/utf8.first", "unicode/utf8.acceptRanges", "internal/bytealg.MaxLen"], apart := false, laid := [("unicode/utf8.acceptRanges", laid_unicode_utf8_acceptRanges), ("cresset/weight.tens", laid_cresset_weight_tens), ("unicode/utf8.first", laid_unicode_utf8_first)] }
def WeightBayesSaid : Prop := weightBayesRow.holds Tryz.pinned (OpenSpec.ofChange weightBayesSpec)

/-- ITS FALSE NEIGHBOUR: 'it returns false'. Refute it at one input. -/
def weightBayesWrong : ChangeSpec := { name := "weightBayes", fn := fun _ => fun
  | [d1, d2, d3] => { results := [.lit (.bool false)], args := [d1, d2, d3] }
  | _ => none }
def WeightBayesWrongFalsely : Prop := weightBayesRow.holds Tryz.pinned (OpenSpec.ofChange weightBayesWrong)

/-- 'cressetlaw01.WeightFewest': WHATEVER THE INPUT: true; the input reads as it did. -/
def weightFewestSpec : ChangeSpec := { name := "weightFewest", fn := fun _ => fun
  | [d1, d2, d3] => { results := [.lit (.bool true)], args := [d1, d2, d3] }
  | _ => none }
def weightFewestRow : OpenClaim := { program := "ytkggfeemjabdeaagreatdoor", sum := "72f81ae467b6d0a1fb07ac4d21683b31392a8df31119dfd22ff365be46f6daf2", func := "cresset/cressetlaw01.WeightFewest", spec := "weightFewest", inPlace := ["math/bits.Add64", "math/bits.Sub64", "internal/bytealg.IndexByteString", "internal/bytealg.IndexString"], unfollowed := true, recurses := true, named := ["cresset/weight.tens", "math/bits.divideError", "math/bits.overflowError", "unicode/utf8.first", "unicode/utf8.acceptRanges", "internal/bytealg.MaxLen"], apart := false, laid := [("unicode/utf8.acceptRanges", laid_unicode_utf8_acceptRanges), ("cresset/weight.tens", laid_cresset_weight_tens), ("unicode/utf8.first", laid_unicode_utf8_first)] }
def WeightFewestSaid : Prop := weightFewestRow.holds Tryz.pinned (OpenSpec.ofChange weightFewestSpec)

/-- ITS FALSE NEIGHBOUR: 'it returns false'. Refute it at one input. -/
def weightFewestWrong : ChangeSpec := { name := "weightFewest", fn := fun _ => fun
  | [d1, d2, d3] => { results := [.lit (.bool false)], args := [d1, d2, d3] }
  | _ => none }
def WeightFewestWrongFalsely : Prop := weightFewestRow.holds Tryz.pinned (OpenSpec.ofChange weightFewestWrong)

/- THE SECOND FORM. 'bulk': how many values and letters a reading holds, each counted each time it is reached (what is shared counts as often as it is met; a slice's spare places count too). A statement '..UptoSaid' is the law's where the arguments, and the package variables that the reading takes, are together of bulk at most 1048576: NARROWER than '..Said'. Prove '..Said' where nothing that the law and all that it calls make is longer than what came in: it says more and counts as full. Else prove '..UptoSaid'. A law counts once. -/
mutual
def uptoBulk {H : Type} : DataW H → Nat
  | .lit (.string bytes) => bytes.length + 1
  | .lit _ => 1
  | .nil => 1
  | .ptr d => uptoBulk d + 1
  | .slice elems spare => uptoBulkAll elems + uptoBulkAll spare + 1
  | .agg parts => uptoBulkAll parts + 1
  | .iface _ d => uptoBulk d + 1
  | .map entries => uptoBulkEntries entries + 1
  | .held _ => 1
def uptoBulkAll {H : Type} : List (DataW H) → Nat
  | [] => 0
  | d :: r => uptoBulk d + uptoBulkAll r
def uptoBulkEntries {H : Type} : List (Lit × DataW H) → Nat
  | [] => 0
  | x :: r => uptoBulkEntry x + uptoBulkEntries r
def uptoBulkEntry {H : Type} : Lit × DataW H → Nat
  | (.string bytes, d) => bytes.length + uptoBulk d + 1
  | (_, d) => uptoBulk d + 1
 end
def uptoSmall : (H : Type) → List (DataW H) → Bool := fun _ ds => decide (uptoBulkAll ds ≤ 1048576)
def OpenSpec.upto (s : _root_.Go.ChangeSpec) : _root_.Go.OpenSpec := { _root_.Go.OpenSpec.ofChange s with cond := some uptoSmall }

/-- 'cressetlaw01.WeightNames', WHERE WHAT IT READS IS OF BULK AT MOST 1048576: true; the input reads as it did. -/
def weightNamesUptoRow : OpenClaim := { program := "ytkggfeemjabdeaagreatdoor", sum := "72f81ae467b6d0a1fb07ac4d21683b31392a8df31119dfd22ff365be46f6daf2", func := "cresset/cressetlaw01.WeightNames", spec := "weightNames", inPlace := ["math/bits.Add64", "math/bits.Sub64", "internal/bytealg.IndexByteString", "internal/bytealg.IndexString", "internal/abi.NoEscape", "internal/bytealg.MakeNoZero"], unfollowed := true, recurses := true, named := ["cresset/weight.tens", "math/bits.divideError", "math/bits.overflowError", "unicode/utf8.first", "unicode/utf8.acceptRanges", "internal/bytealg.MaxLen"], apart := false, laid := [("unicode/utf8.acceptRanges", laid_unicode_utf8_acceptRanges), ("cresset/weight.tens", laid_cresset_weight_tens), ("unicode/utf8.first", laid_unicode_utf8_first)], narrowed := true }
def WeightNamesUptoSaid : Prop := weightNamesUptoRow.holds Tryz.pinned (OpenSpec.upto weightNamesSpec)

/-- 'cressetlaw01.WeightField', WHERE WHAT IT READS IS OF BULK AT MOST 1048576: true; the input reads as it did. -/
def weightFieldUptoRow : OpenClaim := { program := "ytkggfeemjabdeaagreatdoor", sum := "72f81ae467b6d0a1fb07ac4d21683b31392a8df31119dfd22ff365be46f6daf2", func := "cresset/cressetlaw01.WeightField", spec := "weightField", inPlace := ["math/bits.Add64", "math/bits.Sub64", "internal/bytealg.IndexByteString", "internal/bytealg.IndexString"], unfollowed := true, recurses := true, named := ["cresset/weight.tens", "math/bits.divideError", "math/bits.overflowError", "unicode/utf8.first", "unicode/utf8.acceptRanges", "internal/bytealg.MaxLen"], apart := false, laid := [("unicode/utf8.acceptRanges", laid_unicode_utf8_acceptRanges), ("cresset/weight.tens", laid_cresset_weight_tens), ("unicode/utf8.first", laid_unicode_utf8_first)], narrowed := true }
def WeightFieldUptoSaid : Prop := weightFieldUptoRow.holds Tryz.pinned (OpenSpec.upto weightFieldSpec)

/-- 'cressetlaw01.WeightOrders', WHERE WHAT IT READS IS OF BULK AT MOST 1048576: true; the input reads as it did. -/
def weightOrdersUptoRow : OpenClaim := { program := "ytkggfeemjabdeaagreatdoor", sum := "72f81ae467b6d0a1fb07ac4d21683b31392a8df31119dfd22ff365be46f6daf2", func := "cresset/cressetlaw01.WeightOrders", spec := "weightOrders", inPlace := ["math/bits.Add64", "math/bits.Sub64", "internal/bytealg.IndexByteString", "internal/bytealg.IndexString"], unfollowed := true, recurses := true, named := ["cresset/weight.tens", "math/bits.divideError", "math/bits.overflowError", "unicode/utf8.first", "unicode/utf8.acceptRanges", "internal/bytealg.MaxLen"], apart := false, laid := [("unicode/utf8.acceptRanges", laid_unicode_utf8_acceptRanges), ("cresset/weight.tens", laid_cresset_weight_tens), ("unicode/utf8.first", laid_unicode_utf8_first)], narrowed := true }
def WeightOrdersUptoSaid : Prop := weightOrdersUptoRow.holds Tryz.pinned (OpenSpec.upto weightOrdersSpec)

/-- 'cressetlaw01.WeightBack', WHERE WHAT IT READS IS OF BULK AT MOST 1048576: true; the input reads as it did. -/
def weightBackUptoRow : OpenClaim := { program := "ytkggfeemjabdeaagreatdoor", sum := "72f81ae467b6d0a1fb07ac4d21683b31392a8df31119dfd22ff365be46f6daf2", func := "cresset/cressetlaw01.WeightBack", spec := "weightBack", inPlace := ["math/bits.Add64", "math/bits.Sub64", "internal/bytealg.IndexByteString", "internal/bytealg.IndexString", "internal/abi.NoEscape", "internal/bytealg.MakeNoZero"], unfollowed := true, recurses := true, named := ["cresset/weight.tens", "math/bits.divideError", "math/bits.overflowError", "unicode/utf8.first", "unicode/utf8.acceptRanges", "internal/bytealg.MaxLen"], apart := false, laid := [("unicode/utf8.acceptRanges", laid_unicode_utf8_acceptRanges), ("cresset/weight.tens", laid_cresset_weight_tens), ("unicode/utf8.first", laid_unicode_utf8_first)], narrowed := true }
def WeightBackUptoSaid : Prop := weightBackUptoRow.holds Tryz.pinned (OpenSpec.upto weightBackSpec)

/-- 'cressetlaw01.WeightWhole', WHERE WHAT IT READS IS OF BULK AT MOST 1048576: true; the input reads as it did. -/
def weightWholeUptoRow : OpenClaim := { program := "ytkggfeemjabdeaagreatdoor", sum := "72f81ae467b6d0a1fb07ac4d21683b31392a8df31119dfd22ff365be46f6daf2", func := "cresset/cressetlaw01.WeightWhole", spec := "weightWhole", inPlace := ["math/bits.Add64", "math/bits.Sub64", "internal/bytealg.IndexByteString", "internal/bytealg.IndexString"], unfollowed := true, recurses := true, named := ["cresset/weight.tens", "math/bits.divideError", "math/bits.overflowError", "unicode/utf8.first", "unicode/utf8.acceptRanges", "internal/bytealg.MaxLen"], apart := false, laid := [("unicode/utf8.acceptRanges", laid_unicode_utf8_acceptRanges), ("cresset/weight.tens", laid_cresset_weight_tens), ("unicode/utf8.first", laid_unicode_utf8_first)], narrowed := true }
def WeightWholeUptoSaid : Prop := weightWholeUptoRow.holds Tryz.pinned (OpenSpec.upto weightWholeSpec)

/-- 'cressetlaw01.WeightBayes', WHERE WHAT IT READS IS OF BULK AT MOST 1048576: true; the input reads as it did. -/
def weightBayesUptoRow : OpenClaim := { program := "ytkggfeemjabdeaagreatdoor", sum := "72f81ae467b6d0a1fb07ac4d21683b31392a8df31119dfd22ff365be46f6daf2", func := "cresset/cressetlaw01.WeightBayes", spec := "weightBayes", inPlace := ["math/bits.Add64", "math/bits.Sub64", "internal/bytealg.IndexByteString", "internal/bytealg.IndexString"], unfollowed := true, recurses := true, named := ["cresset/weight.tens", "math/bits.divideError", "math/bits.overflowError", "unicode/utf8.first", "unicode/utf8.acceptRanges", "internal/bytealg.MaxLen"], apart := false, laid := [("unicode/utf8.acceptRanges", laid_unicode_utf8_acceptRanges), ("cresset/weight.tens", laid_cresset_weight_tens), ("unicode/utf8.first", laid_unicode_utf8_first)], narrowed := true }
def WeightBayesUptoSaid : Prop := weightBayesUptoRow.holds Tryz.pinned (OpenSpec.upto weightBayesSpec)

/-- 'cressetlaw01.WeightFewest', WHERE WHAT IT READS IS OF BULK AT MOST 1048576: true; the input reads as it did. -/
def weightFewestUptoRow : OpenClaim := { program := "ytkggfeemjabdeaagreatdoor", sum := "72f81ae467b6d0a1fb07ac4d21683b31392a8df31119dfd22ff365be46f6daf2", func := "cresset/cressetlaw01.WeightFewest", spec := "weightFewest", inPlace := ["math/bits.Add64", "math/bits.Sub64", "internal/bytealg.IndexByteString", "internal/bytealg.IndexString"], unfollowed := true, recurses := true, named := ["cresset/weight.tens", "math/bits.divideError", "math/bits.overflowError", "unicode/utf8.first", "unicode/utf8.acceptRanges", "internal/bytealg.MaxLen"], apart := false, laid := [("unicode/utf8.acceptRanges", laid_unicode_utf8_acceptRanges), ("cresset/weight.tens", laid_cresset_weight_tens), ("unicode/utf8.first", laid_unicode_utf8_first)], narrowed := true }
def WeightFewestUptoSaid : Prop := weightFewestUptoRow.holds Tryz.pinned (OpenSpec.upto weightFewestSpec)

end Rows
end Go.Proofs.YtkggfeemjabdeaaGreatDoor
