/-
  DERIVED. GIVEN WITH THE SEED: THE CARDS: each row of YtbdappkhkngdlaaDoorRows.lean that lists a variable, with what it lists TIED to the program's text (the seventh form; the later family's looks); each row that meets fmt, with fmt's text TOLD by the authors' own Lean function (tested against real Go, not proved from fmt's source: count such statements apart). THE CARD IS WHAT COUNTS. Prove the row's statement (the work); the ties are given (YtbdappkhkngdlaaDoorTie.lean); close each card by the builder's one call (the guide's Derived/Test/ToyasCard.lean, 'card_holds'). Laid BY PROGRAM, IN A SANDBOX (cutbox-door.mjs). By AI agents, Wed Nov 11 2026. No macro, syntax, notation, axiom, sorry.
-/
import Derived.Test.YtbdappkhkngdlaaDoorRows
import GoSem.ClaimSeven
namespace Go.Proofs.YtbdappkhkngdlaaDoor
namespace Rows

/-- THE TIED CARD OF 'laws.FnExactCoreOf'. -/
def fnExactCoreOfCard : Claim7 := { stood := { row := fnExactCoreOfRow, standIns := [], harness := (true, "fdd2005549817b1690ac6a939823c9f2fcce561c8e944db4d651a066d9a4b356"), looks := false }, kinds := [], alts := [], laidByText := true, laidKinds := [.data, .data], laidTests := true, laidLooks := .later }
def FnExactCoreOfCardSaid : Prop := Claim7.holds Tryd.pinned (.plain (OpenSpec.ofChange fnExactCoreOfSpec)) fnExactCoreOfCard

/-- THE SECOND FORM's CARD OF 'laws.FnExactCoreOf'. -/
def fnExactCoreOfUptoCard : Claim7 := { stood := { row := fnExactCoreOfUptoRow, standIns := [], harness := (true, "fdd2005549817b1690ac6a939823c9f2fcce561c8e944db4d651a066d9a4b356"), looks := false }, kinds := [], alts := [], laidByText := true, laidKinds := [.data, .data], laidTests := true, laidLooks := .later }
def FnExactCoreOfUptoCardSaid : Prop := Claim7.holds Tryd.pinned (.plain (OpenSpec.upto fnExactCoreOfSpec)) fnExactCoreOfUptoCard
end Rows
end Go.Proofs.YtbdappkhkngdlaaDoor
