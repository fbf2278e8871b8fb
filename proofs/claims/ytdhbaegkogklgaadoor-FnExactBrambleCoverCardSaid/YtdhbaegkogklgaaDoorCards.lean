/-
  DERIVED. GIVEN WITH THE SEED: THE CARDS: each row of YtdhbaegkogklgaaDoorRows.lean that lists a variable, with what it lists TIED to the program's text (the seventh form; the later family's looks); each row that meets fmt, with fmt's text TOLD by the authors' own Lean function (tested against real Go, not proved from fmt's source: count such statements apart). THE CARD IS WHAT COUNTS. Prove the row's statement (the work); the ties are given (YtdhbaegkogklgaaDoorTie.lean); close each card by the builder's one call (the guide's Derived/Test/ToyasCard.lean, 'card_holds'). Laid BY PROGRAM, IN A SANDBOX (cutbox-door.mjs). By AI agents, Wed Nov 11 2026. No macro, syntax, notation, axiom, sorry.
-/
import Derived.Test.YtdhbaegkogklgaaDoorRows
import GoSem.ClaimSeven
namespace Go.Proofs.YtdhbaegkogklgaaDoor
namespace Rows

/-- THE TIED CARD OF 'laws.FnExactWorstAttack'. -/
def fnExactWorstAttackCard : Claim7 := { stood := { row := fnExactWorstAttackRow, standIns := [], harness := (true, "0d24009138f6ba496f24c8d86996d36666748445dd20e6ad104064bc82afaf7a"), looks := false }, kinds := [], alts := [], laidByText := true, laidKinds := [.data, .data], laidTests := true, laidLooks := .later }
def FnExactWorstAttackCardSaid : Prop := Claim7.holds Tryd.pinned (.plain (OpenSpec.ofChange fnExactWorstAttackSpec)) fnExactWorstAttackCard

/-- THE TIED CARD OF 'laws.FnExactBestAnswer'. -/
def fnExactBestAnswerCard : Claim7 := { stood := { row := fnExactBestAnswerRow, standIns := [], harness := (true, "0d24009138f6ba496f24c8d86996d36666748445dd20e6ad104064bc82afaf7a"), looks := false }, kinds := [], alts := [], laidByText := true, laidKinds := [.data, .data], laidTests := true, laidLooks := .later }
def FnExactBestAnswerCardSaid : Prop := Claim7.holds Tryd.pinned (.plain (OpenSpec.ofChange fnExactBestAnswerSpec)) fnExactBestAnswerCard

/-- THE TIED CARD OF 'laws.FnExactPlayAttacks'. -/
def fnExactPlayAttacksCard : Claim7 := { stood := { row := fnExactPlayAttacksRow, standIns := [], harness := (true, "0d24009138f6ba496f24c8d86996d36666748445dd20e6ad104064bc82afaf7a"), looks := false }, kinds := [], alts := [], laidByText := true, laidKinds := [.data, .data], laidTests := true, laidLooks := .later }
def FnExactPlayAttacksCardSaid : Prop := Claim7.holds Tryd.pinned (.plain (OpenSpec.ofChange fnExactPlayAttacksSpec)) fnExactPlayAttacksCard

/-- THE TIED CARD OF 'laws.FnExactBrambleCover'. -/
def fnExactBrambleCoverCard : Claim7 := { stood := { row := fnExactBrambleCoverRow, standIns := [], harness := (true, "0d24009138f6ba496f24c8d86996d36666748445dd20e6ad104064bc82afaf7a"), looks := false }, kinds := [], alts := [], laidByText := true, laidKinds := [.data, .data], laidTests := true, laidLooks := .later }
def FnExactBrambleCoverCardSaid : Prop := Claim7.holds Tryd.pinned (.plain (OpenSpec.ofChange fnExactBrambleCoverSpec)) fnExactBrambleCoverCard

/-- THE TIED CARD OF 'laws.FnExactChainsOf'. -/
def fnExactChainsOfCard : Claim7 := { stood := { row := fnExactChainsOfRow, standIns := [], harness := (true, "0d24009138f6ba496f24c8d86996d36666748445dd20e6ad104064bc82afaf7a"), looks := false }, kinds := [], alts := [], laidByText := true, laidKinds := [.data, .data], laidTests := true, laidLooks := .later }
def FnExactChainsOfCardSaid : Prop := Claim7.holds Tryd.pinned (.plain (OpenSpec.ofChange fnExactChainsOfSpec)) fnExactChainsOfCard

/-- THE TIED CARD OF 'laws.FnExactReversedSet'. -/
def fnExactReversedSetCard : Claim7 := { stood := { row := fnExactReversedSetRow, standIns := [], harness := (true, "0d24009138f6ba496f24c8d86996d36666748445dd20e6ad104064bc82afaf7a"), looks := false }, kinds := [], alts := [], laidByText := true, laidKinds := [.data, .data], laidTests := true, laidLooks := .later }
def FnExactReversedSetCardSaid : Prop := Claim7.holds Tryd.pinned (.plain (OpenSpec.ofChange fnExactReversedSetSpec)) fnExactReversedSetCard

/-- THE SECOND FORM's CARD OF 'laws.FnExactWorstAttack'. -/
def fnExactWorstAttackUptoCard : Claim7 := { stood := { row := fnExactWorstAttackUptoRow, standIns := [], harness := (true, "0d24009138f6ba496f24c8d86996d36666748445dd20e6ad104064bc82afaf7a"), looks := false }, kinds := [], alts := [], laidByText := true, laidKinds := [.data, .data], laidTests := true, laidLooks := .later }
def FnExactWorstAttackUptoCardSaid : Prop := Claim7.holds Tryd.pinned (.plain (OpenSpec.upto fnExactWorstAttackSpec)) fnExactWorstAttackUptoCard

/-- THE SECOND FORM's CARD OF 'laws.FnExactBestAnswer'. -/
def fnExactBestAnswerUptoCard : Claim7 := { stood := { row := fnExactBestAnswerUptoRow, standIns := [], harness := (true, "0d24009138f6ba496f24c8d86996d36666748445dd20e6ad104064bc82afaf7a"), looks := false }, kinds := [], alts := [], laidByText := true, laidKinds := [.data, .data], laidTests := true, laidLooks := .later }
def FnExactBestAnswerUptoCardSaid : Prop := Claim7.holds Tryd.pinned (.plain (OpenSpec.upto fnExactBestAnswerSpec)) fnExactBestAnswerUptoCard

/-- THE SECOND FORM's CARD OF 'laws.FnExactPlayAttacks'. -/
def fnExactPlayAttacksUptoCard : Claim7 := { stood := { row := fnExactPlayAttacksUptoRow, standIns := [], harness := (true, "0d24009138f6ba496f24c8d86996d36666748445dd20e6ad104064bc82afaf7a"), looks := false }, kinds := [], alts := [], laidByText := true, laidKinds := [.data, .data], laidTests := true, laidLooks := .later }
def FnExactPlayAttacksUptoCardSaid : Prop := Claim7.holds Tryd.pinned (.plain (OpenSpec.upto fnExactPlayAttacksSpec)) fnExactPlayAttacksUptoCard

/-- THE SECOND FORM's CARD OF 'laws.FnExactBrambleCover'. -/
def fnExactBrambleCoverUptoCard : Claim7 := { stood := { row := fnExactBrambleCoverUptoRow, standIns := [], harness := (true, "0d24009138f6ba496f24c8d86996d36666748445dd20e6ad104064bc82afaf7a"), looks := false }, kinds := [], alts := [], laidByText := true, laidKinds := [.data, .data], laidTests := true, laidLooks := .later }
def FnExactBrambleCoverUptoCardSaid : Prop := Claim7.holds Tryd.pinned (.plain (OpenSpec.upto fnExactBrambleCoverSpec)) fnExactBrambleCoverUptoCard

/-- THE SECOND FORM's CARD OF 'laws.FnExactChainsOf'. -/
def fnExactChainsOfUptoCard : Claim7 := { stood := { row := fnExactChainsOfUptoRow, standIns := [], harness := (true, "0d24009138f6ba496f24c8d86996d36666748445dd20e6ad104064bc82afaf7a"), looks := false }, kinds := [], alts := [], laidByText := true, laidKinds := [.data, .data], laidTests := true, laidLooks := .later }
def FnExactChainsOfUptoCardSaid : Prop := Claim7.holds Tryd.pinned (.plain (OpenSpec.upto fnExactChainsOfSpec)) fnExactChainsOfUptoCard

/-- THE SECOND FORM's CARD OF 'laws.FnExactReversedSet'. -/
def fnExactReversedSetUptoCard : Claim7 := { stood := { row := fnExactReversedSetUptoRow, standIns := [], harness := (true, "0d24009138f6ba496f24c8d86996d36666748445dd20e6ad104064bc82afaf7a"), looks := false }, kinds := [], alts := [], laidByText := true, laidKinds := [.data, .data], laidTests := true, laidLooks := .later }
def FnExactReversedSetUptoCardSaid : Prop := Claim7.holds Tryd.pinned (.plain (OpenSpec.upto fnExactReversedSetSpec)) fnExactReversedSetUptoCard
end Rows
end Go.Proofs.YtdhbaegkogklgaaDoor
