/-
  DERIVED. GIVEN WITH THE SEED: THE CARDS: each row of YthpodbhiopnnbaaDoorRows.lean that lists a variable, with what it lists TIED to the program's text (the seventh form; the later family's looks); each row that meets fmt, with fmt's text TOLD by the authors' own Lean function (tested against real Go, not proved from fmt's source: count such statements apart). THE CARD IS WHAT COUNTS. Prove the row's statement (the work); the ties are given (YthpodbhiopnnbaaDoorTie.lean); close each card by the builder's one call (the guide's Derived/Test/ToyasCard.lean, 'card_holds'). Laid BY PROGRAM, IN A SANDBOX (cutbox-door.mjs). By AI agents, Wed Nov 11 2026. No macro, syntax, notation, axiom, sorry.
-/
import Derived.Test.YthpodbhiopnnbaaDoorRows
import GoSem.ClaimSeven
namespace Go.Proofs.YthpodbhiopnnbaaDoor
namespace Rows

/-- THE TIED CARD OF 'laws.FnExactCanMoveGuards'. -/
def fnExactCanMoveGuardsCard : Claim7 := { stood := { row := fnExactCanMoveGuardsRow, standIns := [], harness := (true, "d818140c75e3587235b6c71daa8804403d57e5ee9c0c4ff1fe780fbcec1bf40e"), looks := false }, kinds := [], alts := [], laidByText := true, laidKinds := [.data, .data], laidTests := true, laidLooks := .later }
def FnExactCanMoveGuardsCardSaid : Prop := Claim7.holds Tryd.pinned (.plain (OpenSpec.ofChange fnExactCanMoveGuardsSpec)) fnExactCanMoveGuardsCard

/-- THE TIED CARD OF 'laws.FnExactGuardAnswers'. -/
def fnExactGuardAnswersCard : Claim7 := { stood := { row := fnExactGuardAnswersRow, standIns := [], harness := (true, "d818140c75e3587235b6c71daa8804403d57e5ee9c0c4ff1fe780fbcec1bf40e"), looks := false }, kinds := [], alts := [], laidByText := true, laidKinds := [.data, .data], laidTests := true, laidLooks := .later }
def FnExactGuardAnswersCardSaid : Prop := Claim7.holds Tryd.pinned (.plain (OpenSpec.ofChange fnExactGuardAnswersSpec)) fnExactGuardAnswersCard

/-- THE TIED CARD OF 'laws.FnExactResistances'. -/
def fnExactResistancesCard : Claim7 := { stood := { row := fnExactResistancesRow, standIns := [], harness := (true, "d818140c75e3587235b6c71daa8804403d57e5ee9c0c4ff1fe780fbcec1bf40e"), looks := false }, kinds := [], alts := [], laidByText := true, laidKinds := [.data, .data], laidTests := true, laidLooks := .later }
def FnExactResistancesCardSaid : Prop := Claim7.holds Tryd.pinned (.plain (OpenSpec.ofChange fnExactResistancesSpec)) fnExactResistancesCard

/-- THE TIED CARD OF 'laws.FnExactEternalFamily'. -/
def fnExactEternalFamilyCard : Claim7 := { stood := { row := fnExactEternalFamilyRow, standIns := [], harness := (true, "d818140c75e3587235b6c71daa8804403d57e5ee9c0c4ff1fe780fbcec1bf40e"), looks := false }, kinds := [], alts := [], laidByText := true, laidKinds := [.data, .data], laidTests := true, laidLooks := .later }
def FnExactEternalFamilyCardSaid : Prop := Claim7.holds Tryd.pinned (.plain (OpenSpec.ofChange fnExactEternalFamilySpec)) fnExactEternalFamilyCard

/-- THE TIED CARD OF 'laws.FnExactIsEternalFamily'. -/
def fnExactIsEternalFamilyCard : Claim7 := { stood := { row := fnExactIsEternalFamilyRow, standIns := [], harness := (true, "d818140c75e3587235b6c71daa8804403d57e5ee9c0c4ff1fe780fbcec1bf40e"), looks := false }, kinds := [], alts := [], laidByText := true, laidKinds := [.data, .data], laidTests := true, laidLooks := .later }
def FnExactIsEternalFamilyCardSaid : Prop := Claim7.holds Tryd.pinned (.plain (OpenSpec.ofChange fnExactIsEternalFamilySpec)) fnExactIsEternalFamilyCard

/-- THE TIED CARD OF 'laws.FnExactEternalNumber'. -/
def fnExactEternalNumberCard : Claim7 := { stood := { row := fnExactEternalNumberRow, standIns := [], harness := (true, "d818140c75e3587235b6c71daa8804403d57e5ee9c0c4ff1fe780fbcec1bf40e"), looks := false }, kinds := [], alts := [], laidByText := true, laidKinds := [.data, .data], laidTests := true, laidLooks := .later }
def FnExactEternalNumberCardSaid : Prop := Claim7.holds Tryd.pinned (.plain (OpenSpec.ofChange fnExactEternalNumberSpec)) fnExactEternalNumberCard

/-- THE SECOND FORM's CARD OF 'laws.FnExactCanMoveGuards'. -/
def fnExactCanMoveGuardsUptoCard : Claim7 := { stood := { row := fnExactCanMoveGuardsUptoRow, standIns := [], harness := (true, "d818140c75e3587235b6c71daa8804403d57e5ee9c0c4ff1fe780fbcec1bf40e"), looks := false }, kinds := [], alts := [], laidByText := true, laidKinds := [.data, .data], laidTests := true, laidLooks := .later }
def FnExactCanMoveGuardsUptoCardSaid : Prop := Claim7.holds Tryd.pinned (.plain (OpenSpec.upto fnExactCanMoveGuardsSpec)) fnExactCanMoveGuardsUptoCard

/-- THE SECOND FORM's CARD OF 'laws.FnExactGuardAnswers'. -/
def fnExactGuardAnswersUptoCard : Claim7 := { stood := { row := fnExactGuardAnswersUptoRow, standIns := [], harness := (true, "d818140c75e3587235b6c71daa8804403d57e5ee9c0c4ff1fe780fbcec1bf40e"), looks := false }, kinds := [], alts := [], laidByText := true, laidKinds := [.data, .data], laidTests := true, laidLooks := .later }
def FnExactGuardAnswersUptoCardSaid : Prop := Claim7.holds Tryd.pinned (.plain (OpenSpec.upto fnExactGuardAnswersSpec)) fnExactGuardAnswersUptoCard

/-- THE SECOND FORM's CARD OF 'laws.FnExactResistances'. -/
def fnExactResistancesUptoCard : Claim7 := { stood := { row := fnExactResistancesUptoRow, standIns := [], harness := (true, "d818140c75e3587235b6c71daa8804403d57e5ee9c0c4ff1fe780fbcec1bf40e"), looks := false }, kinds := [], alts := [], laidByText := true, laidKinds := [.data, .data], laidTests := true, laidLooks := .later }
def FnExactResistancesUptoCardSaid : Prop := Claim7.holds Tryd.pinned (.plain (OpenSpec.upto fnExactResistancesSpec)) fnExactResistancesUptoCard

/-- THE SECOND FORM's CARD OF 'laws.FnExactEternalFamily'. -/
def fnExactEternalFamilyUptoCard : Claim7 := { stood := { row := fnExactEternalFamilyUptoRow, standIns := [], harness := (true, "d818140c75e3587235b6c71daa8804403d57e5ee9c0c4ff1fe780fbcec1bf40e"), looks := false }, kinds := [], alts := [], laidByText := true, laidKinds := [.data, .data], laidTests := true, laidLooks := .later }
def FnExactEternalFamilyUptoCardSaid : Prop := Claim7.holds Tryd.pinned (.plain (OpenSpec.upto fnExactEternalFamilySpec)) fnExactEternalFamilyUptoCard

/-- THE SECOND FORM's CARD OF 'laws.FnExactIsEternalFamily'. -/
def fnExactIsEternalFamilyUptoCard : Claim7 := { stood := { row := fnExactIsEternalFamilyUptoRow, standIns := [], harness := (true, "d818140c75e3587235b6c71daa8804403d57e5ee9c0c4ff1fe780fbcec1bf40e"), looks := false }, kinds := [], alts := [], laidByText := true, laidKinds := [.data, .data], laidTests := true, laidLooks := .later }
def FnExactIsEternalFamilyUptoCardSaid : Prop := Claim7.holds Tryd.pinned (.plain (OpenSpec.upto fnExactIsEternalFamilySpec)) fnExactIsEternalFamilyUptoCard

/-- THE SECOND FORM's CARD OF 'laws.FnExactEternalNumber'. -/
def fnExactEternalNumberUptoCard : Claim7 := { stood := { row := fnExactEternalNumberUptoRow, standIns := [], harness := (true, "d818140c75e3587235b6c71daa8804403d57e5ee9c0c4ff1fe780fbcec1bf40e"), looks := false }, kinds := [], alts := [], laidByText := true, laidKinds := [.data, .data], laidTests := true, laidLooks := .later }
def FnExactEternalNumberUptoCardSaid : Prop := Claim7.holds Tryd.pinned (.plain (OpenSpec.upto fnExactEternalNumberSpec)) fnExactEternalNumberUptoCard
end Rows
end Go.Proofs.YthpodbhiopnnbaaDoor
