/-
  DERIVED. GIVEN WITH THE SEED: THE CARDS: each row of YtcnfeijniidclaaDoorRows.lean that lists a variable, with what it lists TIED to the program's text (the seventh form; the later family's looks); each row that meets fmt, with fmt's text TOLD by the authors' own Lean function (tested against real Go, not proved from fmt's source: count such statements apart). THE CARD IS WHAT COUNTS. Prove the row's statement (the work); the ties are given (YtcnfeijniidclaaDoorTie.lean); close each card by the builder's one call (the guide's Derived/Test/ToyasCard.lean, 'card_holds'). Laid BY PROGRAM, IN A SANDBOX (cutbox-door.mjs). By AI agents, Wed Nov 11 2026. No macro, syntax, notation, axiom, sorry.
-/
import Derived.Test.YtcnfeijniidclaaDoorRows
import GoSem.ClaimSeven
namespace Go.Proofs.YtcnfeijniidclaaDoor
namespace Rows

/-- THE TIED CARD OF 'laws.FnExactShadowsOf'. -/
def fnExactShadowsOfCard : Claim7 := { stood := { row := fnExactShadowsOfRow, standIns := [], harness := (true, "f3875c95a3394a5c36d6d401fb826ab72fd873ba69396f41ccb94a67348c0b54"), looks := false }, kinds := [], alts := [], laidByText := true, laidKinds := [.data, .data], laidTests := true, laidLooks := .later }
def FnExactShadowsOfCardSaid : Prop := Claim7.holds Tryd.pinned (.plain (OpenSpec.ofChange fnExactShadowsOfSpec)) fnExactShadowsOfCard

/-- THE TIED CARD OF 'laws.FnExactRetractionOf'. -/
def fnExactRetractionOfCard : Claim7 := { stood := { row := fnExactRetractionOfRow, standIns := [], harness := (true, "f3875c95a3394a5c36d6d401fb826ab72fd873ba69396f41ccb94a67348c0b54"), looks := false }, kinds := [], alts := [], laidByText := true, laidKinds := [.data, .data], laidTests := true, laidLooks := .later }
def FnExactRetractionOfCardSaid : Prop := Claim7.holds Tryd.pinned (.plain (OpenSpec.ofChange fnExactRetractionOfSpec)) fnExactRetractionOfCard

/-- THE SECOND FORM's CARD OF 'laws.FnExactShadowsOf'. -/
def fnExactShadowsOfUptoCard : Claim7 := { stood := { row := fnExactShadowsOfUptoRow, standIns := [], harness := (true, "f3875c95a3394a5c36d6d401fb826ab72fd873ba69396f41ccb94a67348c0b54"), looks := false }, kinds := [], alts := [], laidByText := true, laidKinds := [.data, .data], laidTests := true, laidLooks := .later }
def FnExactShadowsOfUptoCardSaid : Prop := Claim7.holds Tryd.pinned (.plain (OpenSpec.upto fnExactShadowsOfSpec)) fnExactShadowsOfUptoCard

/-- THE SECOND FORM's CARD OF 'laws.FnExactRetractionOf'. -/
def fnExactRetractionOfUptoCard : Claim7 := { stood := { row := fnExactRetractionOfUptoRow, standIns := [], harness := (true, "f3875c95a3394a5c36d6d401fb826ab72fd873ba69396f41ccb94a67348c0b54"), looks := false }, kinds := [], alts := [], laidByText := true, laidKinds := [.data, .data], laidTests := true, laidLooks := .later }
def FnExactRetractionOfUptoCardSaid : Prop := Claim7.holds Tryd.pinned (.plain (OpenSpec.upto fnExactRetractionOfSpec)) fnExactRetractionOfUptoCard
end Rows
end Go.Proofs.YtcnfeijniidclaaDoor
