/-
  DERIVED. GIVEN WITH THE SEED: THE CARDS: each row of YtkggfeemjabdeaaGreatDoorRows.lean that lists a variable, with what it lists TIED to the program's text (the seventh form; the later family's looks); each row that meets fmt, with fmt's text TOLD by the authors' own Lean function (tested against real Go, not proved from fmt's source: count such statements apart). THE CARD IS WHAT COUNTS. Prove the row's statement (the work); the ties are given (YtkggfeemjabdeaaGreatDoorTie.lean); close each card by the builder's one call (the guide's Derived/Test/ToyasCard.lean, 'card_holds'). Laid BY PROGRAM, IN A SANDBOX (cutbox-door.mjs). By AI agents, Wed Nov 11 2026. No macro, syntax, notation, axiom, sorry.
-/
import Derived.Test.YtkggfeemjabdeaaGreatDoorRows
import GoSem.ClaimSeven
namespace Go.Proofs.YtkggfeemjabdeaaGreatDoor
namespace Rows

/-- THE TIED CARD OF 'cressetlaw01.WeightNames'. -/
def weightNamesCard : Claim7 := { stood := { row := weightNamesRow, standIns := [], harness := (true, "3a8543d57b98aced8931f7089efd59f937b151c31e335e849a3fb7833ddaef94"), looks := false }, kinds := [], alts := [], laidByText := true, laidKinds := [.data, .data, .pinned], laidTests := true, laidLooks := .later }
def WeightNamesCardSaid : Prop := Claim7.holds Tryz.pinned (.plain (OpenSpec.ofChange weightNamesSpec)) weightNamesCard

/-- THE TIED CARD OF 'cressetlaw01.WeightField'. -/
def weightFieldCard : Claim7 := { stood := { row := weightFieldRow, standIns := [], harness := (true, "3a8543d57b98aced8931f7089efd59f937b151c31e335e849a3fb7833ddaef94"), looks := false }, kinds := [], alts := [], laidByText := true, laidKinds := [.data, .data, .pinned], laidTests := true, laidLooks := .later }
def WeightFieldCardSaid : Prop := Claim7.holds Tryz.pinned (.plain (OpenSpec.ofChange weightFieldSpec)) weightFieldCard

/-- THE TIED CARD OF 'cressetlaw01.WeightOrders'. -/
def weightOrdersCard : Claim7 := { stood := { row := weightOrdersRow, standIns := [], harness := (true, "3a8543d57b98aced8931f7089efd59f937b151c31e335e849a3fb7833ddaef94"), looks := false }, kinds := [], alts := [], laidByText := true, laidKinds := [.data, .data, .pinned], laidTests := true, laidLooks := .later }
def WeightOrdersCardSaid : Prop := Claim7.holds Tryz.pinned (.plain (OpenSpec.ofChange weightOrdersSpec)) weightOrdersCard

/-- THE TIED CARD OF 'cressetlaw01.WeightBack'. -/
def weightBackCard : Claim7 := { stood := { row := weightBackRow, standIns := [], harness := (true, "3a8543d57b98aced8931f7089efd59f937b151c31e335e849a3fb7833ddaef94"), looks := false }, kinds := [], alts := [], laidByText := true, laidKinds := [.data, .data, .pinned], laidTests := true, laidLooks := .later }
def WeightBackCardSaid : Prop := Claim7.holds Tryz.pinned (.plain (OpenSpec.ofChange weightBackSpec)) weightBackCard

/-- THE TIED CARD OF 'cressetlaw01.WeightWhole'. -/
def weightWholeCard : Claim7 := { stood := { row := weightWholeRow, standIns := [], harness := (true, "3a8543d57b98aced8931f7089efd59f937b151c31e335e849a3fb7833ddaef94"), looks := false }, kinds := [], alts := [], laidByText := true, laidKinds := [.data, .data, .pinned], laidTests := true, laidLooks := .later }
def WeightWholeCardSaid : Prop := Claim7.holds Tryz.pinned (.plain (OpenSpec.ofChange weightWholeSpec)) weightWholeCard

/-- THE TIED CARD OF 'cressetlaw01.WeightBayes'. -/
def weightBayesCard : Claim7 := { stood := { row := weightBayesRow, standIns := [], harness := (true, "3a8543d57b98aced8931f7089efd59f937b151c31e335e849a3fb7833ddaef94"), looks := false }, kinds := [], alts := [], laidByText := true, laidKinds := [.data, .data, .pinned], laidTests := true, laidLooks := .later }
def WeightBayesCardSaid : Prop := Claim7.holds Tryz.pinned (.plain (OpenSpec.ofChange weightBayesSpec)) weightBayesCard

/-- THE TIED CARD OF 'cressetlaw01.WeightFewest'. -/
def weightFewestCard : Claim7 := { stood := { row := weightFewestRow, standIns := [], harness := (true, "3a8543d57b98aced8931f7089efd59f937b151c31e335e849a3fb7833ddaef94"), looks := false }, kinds := [], alts := [], laidByText := true, laidKinds := [.data, .data, .pinned], laidTests := true, laidLooks := .later }
def WeightFewestCardSaid : Prop := Claim7.holds Tryz.pinned (.plain (OpenSpec.ofChange weightFewestSpec)) weightFewestCard

/-- THE SECOND FORM's CARD OF 'cressetlaw01.WeightNames'. -/
def weightNamesUptoCard : Claim7 := { stood := { row := weightNamesUptoRow, standIns := [], harness := (true, "3a8543d57b98aced8931f7089efd59f937b151c31e335e849a3fb7833ddaef94"), looks := false }, kinds := [], alts := [], laidByText := true, laidKinds := [.data, .data, .pinned], laidTests := true, laidLooks := .later }
def WeightNamesUptoCardSaid : Prop := Claim7.holds Tryz.pinned (.plain (OpenSpec.upto weightNamesSpec)) weightNamesUptoCard

/-- THE SECOND FORM's CARD OF 'cressetlaw01.WeightField'. -/
def weightFieldUptoCard : Claim7 := { stood := { row := weightFieldUptoRow, standIns := [], harness := (true, "3a8543d57b98aced8931f7089efd59f937b151c31e335e849a3fb7833ddaef94"), looks := false }, kinds := [], alts := [], laidByText := true, laidKinds := [.data, .data, .pinned], laidTests := true, laidLooks := .later }
def WeightFieldUptoCardSaid : Prop := Claim7.holds Tryz.pinned (.plain (OpenSpec.upto weightFieldSpec)) weightFieldUptoCard

/-- THE SECOND FORM's CARD OF 'cressetlaw01.WeightOrders'. -/
def weightOrdersUptoCard : Claim7 := { stood := { row := weightOrdersUptoRow, standIns := [], harness := (true, "3a8543d57b98aced8931f7089efd59f937b151c31e335e849a3fb7833ddaef94"), looks := false }, kinds := [], alts := [], laidByText := true, laidKinds := [.data, .data, .pinned], laidTests := true, laidLooks := .later }
def WeightOrdersUptoCardSaid : Prop := Claim7.holds Tryz.pinned (.plain (OpenSpec.upto weightOrdersSpec)) weightOrdersUptoCard

/-- THE SECOND FORM's CARD OF 'cressetlaw01.WeightBack'. -/
def weightBackUptoCard : Claim7 := { stood := { row := weightBackUptoRow, standIns := [], harness := (true, "3a8543d57b98aced8931f7089efd59f937b151c31e335e849a3fb7833ddaef94"), looks := false }, kinds := [], alts := [], laidByText := true, laidKinds := [.data, .data, .pinned], laidTests := true, laidLooks := .later }
def WeightBackUptoCardSaid : Prop := Claim7.holds Tryz.pinned (.plain (OpenSpec.upto weightBackSpec)) weightBackUptoCard

/-- THE SECOND FORM's CARD OF 'cressetlaw01.WeightWhole'. -/
def weightWholeUptoCard : Claim7 := { stood := { row := weightWholeUptoRow, standIns := [], harness := (true, "3a8543d57b98aced8931f7089efd59f937b151c31e335e849a3fb7833ddaef94"), looks := false }, kinds := [], alts := [], laidByText := true, laidKinds := [.data, .data, .pinned], laidTests := true, laidLooks := .later }
def WeightWholeUptoCardSaid : Prop := Claim7.holds Tryz.pinned (.plain (OpenSpec.upto weightWholeSpec)) weightWholeUptoCard

/-- THE SECOND FORM's CARD OF 'cressetlaw01.WeightBayes'. -/
def weightBayesUptoCard : Claim7 := { stood := { row := weightBayesUptoRow, standIns := [], harness := (true, "3a8543d57b98aced8931f7089efd59f937b151c31e335e849a3fb7833ddaef94"), looks := false }, kinds := [], alts := [], laidByText := true, laidKinds := [.data, .data, .pinned], laidTests := true, laidLooks := .later }
def WeightBayesUptoCardSaid : Prop := Claim7.holds Tryz.pinned (.plain (OpenSpec.upto weightBayesSpec)) weightBayesUptoCard

/-- THE SECOND FORM's CARD OF 'cressetlaw01.WeightFewest'. -/
def weightFewestUptoCard : Claim7 := { stood := { row := weightFewestUptoRow, standIns := [], harness := (true, "3a8543d57b98aced8931f7089efd59f937b151c31e335e849a3fb7833ddaef94"), looks := false }, kinds := [], alts := [], laidByText := true, laidKinds := [.data, .data, .pinned], laidTests := true, laidLooks := .later }
def WeightFewestUptoCardSaid : Prop := Claim7.holds Tryz.pinned (.plain (OpenSpec.upto weightFewestSpec)) weightFewestUptoCard
end Rows
end Go.Proofs.YtkggfeemjabdeaaGreatDoor
