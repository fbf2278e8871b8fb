/-
  DERIVED. GIVEN WITH THE SEED: THE CARDS: each row of YtbdappkhkngdlabDoorRows.lean that lists a variable, with what it lists TIED to the program's text (the seventh form; the later family's looks); each row that meets fmt, with fmt's text TOLD by the authors' own Lean function (tested against real Go, not proved from fmt's source: count such statements apart). THE CARD IS WHAT COUNTS. Prove the row's statement (the work); the ties are given (YtbdappkhkngdlabDoorTie.lean); close each card by the builder's one call (the guide's Derived/Test/ToyasCard.lean, 'card_holds'). Laid BY PROGRAM, IN A SANDBOX (cutbox-door.mjs). By AI agents, Wed Nov 11 2026. No macro, syntax, notation, axiom, sorry.
-/
import Derived.Test.YtbdappkhkngdlabDoorRows
import GoSem.ClaimSeven
namespace Go.Proofs.YtbdappkhkngdlabDoor
namespace Rows

/-- THE TIED CARD OF 'laws.FnExactStrippingOf'. -/
def fnExactStrippingOfCard : Claim7 := { stood := { row := fnExactStrippingOfRow, standIns := [], harness := (true, "3ca9184f52659aa1dc31f4ee32984a27caad4ede54134043cf2586aadc0835da"), looks := false }, kinds := [], alts := [], laidByText := true, laidKinds := [.data, .data], laidTests := true, laidLooks := .later }
def FnExactStrippingOfCardSaid : Prop := Claim7.holds Tryd.pinned (.plain (OpenSpec.ofChange fnExactStrippingOfSpec)) fnExactStrippingOfCard

/-- THE TIED CARD OF 'laws.FnExactDismantlingOf'. -/
def fnExactDismantlingOfCard : Claim7 := { stood := { row := fnExactDismantlingOfRow, standIns := [], harness := (true, "3ca9184f52659aa1dc31f4ee32984a27caad4ede54134043cf2586aadc0835da"), looks := false }, kinds := [], alts := [], laidByText := true, laidKinds := [.data, .data], laidTests := true, laidLooks := .later }
def FnExactDismantlingOfCardSaid : Prop := Claim7.holds Tryd.pinned (.plain (OpenSpec.ofChange fnExactDismantlingOfSpec)) fnExactDismantlingOfCard

/-- THE SECOND FORM's CARD OF 'laws.FnExactStrippingOf'. -/
def fnExactStrippingOfUptoCard : Claim7 := { stood := { row := fnExactStrippingOfUptoRow, standIns := [], harness := (true, "3ca9184f52659aa1dc31f4ee32984a27caad4ede54134043cf2586aadc0835da"), looks := false }, kinds := [], alts := [], laidByText := true, laidKinds := [.data, .data], laidTests := true, laidLooks := .later }
def FnExactStrippingOfUptoCardSaid : Prop := Claim7.holds Tryd.pinned (.plain (OpenSpec.upto fnExactStrippingOfSpec)) fnExactStrippingOfUptoCard

/-- THE SECOND FORM's CARD OF 'laws.FnExactDismantlingOf'. -/
def fnExactDismantlingOfUptoCard : Claim7 := { stood := { row := fnExactDismantlingOfUptoRow, standIns := [], harness := (true, "3ca9184f52659aa1dc31f4ee32984a27caad4ede54134043cf2586aadc0835da"), looks := false }, kinds := [], alts := [], laidByText := true, laidKinds := [.data, .data], laidTests := true, laidLooks := .later }
def FnExactDismantlingOfUptoCardSaid : Prop := Claim7.holds Tryd.pinned (.plain (OpenSpec.upto fnExactDismantlingOfSpec)) fnExactDismantlingOfUptoCard
end Rows
end Go.Proofs.YtbdappkhkngdlabDoor
