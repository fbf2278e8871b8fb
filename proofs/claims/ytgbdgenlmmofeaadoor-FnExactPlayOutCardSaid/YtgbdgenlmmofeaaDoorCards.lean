/-
  DERIVED. GIVEN WITH THE SEED: THE CARDS: each row of YtgbdgenlmmofeaaDoorRows.lean that lists a variable, with what it lists TIED to the program's text (the seventh form; the later family's looks); each row that meets fmt, with fmt's text TOLD by the authors' own Lean function (tested against real Go, not proved from fmt's source: count such statements apart). THE CARD IS WHAT COUNTS. Prove the row's statement (the work); the ties are given (YtgbdgenlmmofeaaDoorTie.lean); close each card by the builder's one call (the guide's Derived/Test/ToyasCard.lean, 'card_holds'). Laid BY PROGRAM, IN A SANDBOX (cutbox-door.mjs). By AI agents, Wed Nov 11 2026. No macro, syntax, notation, axiom, sorry.
-/
import Derived.Test.YtgbdgenlmmofeaaDoorRows
import GoSem.ClaimSeven
namespace Go.Proofs.YtgbdgenlmmofeaaDoor
namespace Rows

/-- THE TIED CARD OF 'laws.FnExactRetractionOf'. -/
def fnExactRetractionOfCard : Claim7 := { stood := { row := fnExactRetractionOfRow, standIns := [], harness := (true, "9fb57fdad3ba8e2c07981bc6fc3a5cfa0bbf67295ba6ed427b0229fe6696cac9"), looks := false }, kinds := [], alts := [], laidByText := true, laidKinds := [.data, .data], laidTests := true, laidLooks := .later }
def FnExactRetractionOfCardSaid : Prop := Claim7.holds Tryd.pinned (.plain (OpenSpec.ofChange fnExactRetractionOfSpec)) fnExactRetractionOfCard

/-- THE TIED CARD OF 'laws.FnExactCopMove'. -/
def fnExactCopMoveCard : Claim7 := { stood := { row := fnExactCopMoveRow, standIns := [], harness := (true, "9fb57fdad3ba8e2c07981bc6fc3a5cfa0bbf67295ba6ed427b0229fe6696cac9"), looks := false }, kinds := [], alts := [], laidByText := true, laidKinds := [.data, .data], laidTests := true, laidLooks := .later }
def FnExactCopMoveCardSaid : Prop := Claim7.holds Tryd.pinned (.plain (OpenSpec.ofChange fnExactCopMoveSpec)) fnExactCopMoveCard

/-- THE TIED CARD OF 'laws.FnExactRobberMove'. -/
def fnExactRobberMoveCard : Claim7 := { stood := { row := fnExactRobberMoveRow, standIns := [], harness := (true, "9fb57fdad3ba8e2c07981bc6fc3a5cfa0bbf67295ba6ed427b0229fe6696cac9"), looks := false }, kinds := [], alts := [], laidByText := true, laidKinds := [.data, .data], laidTests := true, laidLooks := .later }
def FnExactRobberMoveCardSaid : Prop := Claim7.holds Tryd.pinned (.plain (OpenSpec.ofChange fnExactRobberMoveSpec)) fnExactRobberMoveCard

/-- THE TIED CARD OF 'laws.FnExactPlayOut'. -/
def fnExactPlayOutCard : Claim7 := { stood := { row := fnExactPlayOutRow, standIns := [], harness := (true, "9fb57fdad3ba8e2c07981bc6fc3a5cfa0bbf67295ba6ed427b0229fe6696cac9"), looks := false }, kinds := [], alts := [], laidByText := true, laidKinds := [.data, .data], laidTests := true, laidLooks := .later }
def FnExactPlayOutCardSaid : Prop := Claim7.holds Tryd.pinned (.plain (OpenSpec.ofChange fnExactPlayOutSpec)) fnExactPlayOutCard

/-- THE SECOND FORM's CARD OF 'laws.FnExactRetractionOf'. -/
def fnExactRetractionOfUptoCard : Claim7 := { stood := { row := fnExactRetractionOfUptoRow, standIns := [], harness := (true, "9fb57fdad3ba8e2c07981bc6fc3a5cfa0bbf67295ba6ed427b0229fe6696cac9"), looks := false }, kinds := [], alts := [], laidByText := true, laidKinds := [.data, .data], laidTests := true, laidLooks := .later }
def FnExactRetractionOfUptoCardSaid : Prop := Claim7.holds Tryd.pinned (.plain (OpenSpec.upto fnExactRetractionOfSpec)) fnExactRetractionOfUptoCard

/-- THE SECOND FORM's CARD OF 'laws.FnExactCopMove'. -/
def fnExactCopMoveUptoCard : Claim7 := { stood := { row := fnExactCopMoveUptoRow, standIns := [], harness := (true, "9fb57fdad3ba8e2c07981bc6fc3a5cfa0bbf67295ba6ed427b0229fe6696cac9"), looks := false }, kinds := [], alts := [], laidByText := true, laidKinds := [.data, .data], laidTests := true, laidLooks := .later }
def FnExactCopMoveUptoCardSaid : Prop := Claim7.holds Tryd.pinned (.plain (OpenSpec.upto fnExactCopMoveSpec)) fnExactCopMoveUptoCard

/-- THE SECOND FORM's CARD OF 'laws.FnExactRobberMove'. -/
def fnExactRobberMoveUptoCard : Claim7 := { stood := { row := fnExactRobberMoveUptoRow, standIns := [], harness := (true, "9fb57fdad3ba8e2c07981bc6fc3a5cfa0bbf67295ba6ed427b0229fe6696cac9"), looks := false }, kinds := [], alts := [], laidByText := true, laidKinds := [.data, .data], laidTests := true, laidLooks := .later }
def FnExactRobberMoveUptoCardSaid : Prop := Claim7.holds Tryd.pinned (.plain (OpenSpec.upto fnExactRobberMoveSpec)) fnExactRobberMoveUptoCard

/-- THE SECOND FORM's CARD OF 'laws.FnExactPlayOut'. -/
def fnExactPlayOutUptoCard : Claim7 := { stood := { row := fnExactPlayOutUptoRow, standIns := [], harness := (true, "9fb57fdad3ba8e2c07981bc6fc3a5cfa0bbf67295ba6ed427b0229fe6696cac9"), looks := false }, kinds := [], alts := [], laidByText := true, laidKinds := [.data, .data], laidTests := true, laidLooks := .later }
def FnExactPlayOutUptoCardSaid : Prop := Claim7.holds Tryd.pinned (.plain (OpenSpec.upto fnExactPlayOutSpec)) fnExactPlayOutUptoCard
end Rows
end Go.Proofs.YtgbdgenlmmofeaaDoor
