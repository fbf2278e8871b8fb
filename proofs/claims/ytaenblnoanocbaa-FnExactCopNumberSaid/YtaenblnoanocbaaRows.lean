/-
  No cell of these rows narrows 'for every input' (looked for: loops, veiled, ifaces, maps, wideKeys, modest, calm, conditions, laid).
  DERIVED. THE GIVEN ROWS OF THIS SEAT. 10 by the template 'for every input the law returns true; each argument reads behind the call as it read before'; 0 by the template 'total and deterministic' (their statements: YtaenblnoanocbaaTotals.lean).
  GIVEN WITH THE SEED: the statements are not yours to turn. If you find one false, say at which input.
  Laid BY PROGRAM, IN A SANDBOX (cutbox-rows.mjs): the forced cells as the released guide's own fill.sh prints them over the translation 71d2c347c819096a… (all of the seat's roots in one cut). By AI agents, Wed Nov 11 2026. No macro, syntax, notation, axiom, sorry.
-/
import Derived.Test.YtaenblnoanocbaaChecked
import GoSem.Claim
import GoSem.ClaimJoined
import GoSem.ClaimMapViews
import Derived.JoinedTies
import Derived.KernelRfl
namespace Go.Proofs.Ytaenblnoanocbaa
/- THE CELL 'sum', in the pinned program and in every row, IS THE sha256 OF THE DUMP (.gsa) THAT YtaenblnoanocbaaProg.lean LOADS. Nothing in Lean hashes anything: it is a label: what it is worth is what the hold of that sum in a sandbox is worth. -/
noncomputable def Try.pinned : Pinned := { name := "ytaenblnoanocbaa", sum := "71d2c347c819096a4635f34f11bd194a49139330048315a48a8392edb1863188", checked := Try.checked }
namespace Rows
def none {H : Type} : Left H := { results := [], args := [] }

/-- 'laws.FnExactCopLists': WHATEVER THE INPUT: true; the input reads as it did. -/
def fnExactCopListsSpec : ChangeSpec := { name := "fnExactCopLists", fn := fun _ => fun
  | [d1, d2] => { results := [.lit (.bool true)], args := [d1, d2] }
  | _ => none }
def fnExactCopListsRow : OpenClaim := { program := "ytaenblnoanocbaa", sum := "71d2c347c819096a4635f34f11bd194a49139330048315a48a8392edb1863188", func := "loop.example/g01109/laws.FnExactCopLists", spec := "fnExactCopLists", recurses := true, apart := false }
def FnExactCopListsSaid : Prop := fnExactCopListsRow.holds Try.pinned (OpenSpec.ofChange fnExactCopListsSpec)

/-- ITS FALSE NEIGHBOUR: 'it returns false'. Refute it at one input. -/
def fnExactCopListsWrong : ChangeSpec := { name := "fnExactCopLists", fn := fun _ => fun
  | [d1, d2] => { results := [.lit (.bool false)], args := [d1, d2] }
  | _ => none }
def FnExactCopListsWrongFalsely : Prop := fnExactCopListsRow.holds Try.pinned (OpenSpec.ofChange fnExactCopListsWrong)

/-- 'laws.FnExactCopMoves': WHATEVER THE INPUT: true; the input reads as it did. -/
def fnExactCopMovesSpec : ChangeSpec := { name := "fnExactCopMoves", fn := fun _ => fun
  | [d1, d2] => { results := [.lit (.bool true)], args := [d1, d2] }
  | _ => none }
def fnExactCopMovesRow : OpenClaim := { program := "ytaenblnoanocbaa", sum := "71d2c347c819096a4635f34f11bd194a49139330048315a48a8392edb1863188", func := "loop.example/g01109/laws.FnExactCopMoves", spec := "fnExactCopMoves", unfollowed := true, recurses := true, apart := false }
def FnExactCopMovesSaid : Prop := fnExactCopMovesRow.holds Try.pinned (OpenSpec.ofChange fnExactCopMovesSpec)

/-- ITS FALSE NEIGHBOUR: 'it returns false'. Refute it at one input. -/
def fnExactCopMovesWrong : ChangeSpec := { name := "fnExactCopMoves", fn := fun _ => fun
  | [d1, d2] => { results := [.lit (.bool false)], args := [d1, d2] }
  | _ => none }
def FnExactCopMovesWrongFalsely : Prop := fnExactCopMovesRow.holds Try.pinned (OpenSpec.ofChange fnExactCopMovesWrong)

/-- 'laws.FnExactCaptureTimes': WHATEVER THE INPUT: true; the input reads as it did. -/
def fnExactCaptureTimesSpec : ChangeSpec := { name := "fnExactCaptureTimes", fn := fun _ => fun
  | [d1, d2] => { results := [.lit (.bool true)], args := [d1, d2] }
  | _ => none }
def fnExactCaptureTimesRow : OpenClaim := { program := "ytaenblnoanocbaa", sum := "71d2c347c819096a4635f34f11bd194a49139330048315a48a8392edb1863188", func := "loop.example/g01109/laws.FnExactCaptureTimes", spec := "fnExactCaptureTimes", unfollowed := true, recurses := true, apart := false }
def FnExactCaptureTimesSaid : Prop := fnExactCaptureTimesRow.holds Try.pinned (OpenSpec.ofChange fnExactCaptureTimesSpec)

/-- ITS FALSE NEIGHBOUR: 'it returns false'. Refute it at one input. -/
def fnExactCaptureTimesWrong : ChangeSpec := { name := "fnExactCaptureTimes", fn := fun _ => fun
  | [d1, d2] => { results := [.lit (.bool false)], args := [d1, d2] }
  | _ => none }
def FnExactCaptureTimesWrongFalsely : Prop := fnExactCaptureTimesRow.holds Try.pinned (OpenSpec.ofChange fnExactCaptureTimesWrong)

/-- 'laws.FnExactCanCatch': WHATEVER THE INPUT: true; the input reads as it did. -/
def fnExactCanCatchSpec : ChangeSpec := { name := "fnExactCanCatch", fn := fun _ => fun
  | [d1, d2] => { results := [.lit (.bool true)], args := [d1, d2] }
  | _ => none }
def fnExactCanCatchRow : OpenClaim := { program := "ytaenblnoanocbaa", sum := "71d2c347c819096a4635f34f11bd194a49139330048315a48a8392edb1863188", func := "loop.example/g01109/laws.FnExactCanCatch", spec := "fnExactCanCatch", unfollowed := true, recurses := true, apart := false }
def FnExactCanCatchSaid : Prop := fnExactCanCatchRow.holds Try.pinned (OpenSpec.ofChange fnExactCanCatchSpec)

/-- ITS FALSE NEIGHBOUR: 'it returns false'. Refute it at one input. -/
def fnExactCanCatchWrong : ChangeSpec := { name := "fnExactCanCatch", fn := fun _ => fun
  | [d1, d2] => { results := [.lit (.bool false)], args := [d1, d2] }
  | _ => none }
def FnExactCanCatchWrongFalsely : Prop := fnExactCanCatchRow.holds Try.pinned (OpenSpec.ofChange fnExactCanCatchWrong)

/-- 'laws.FnExactCopNumber': WHATEVER THE INPUT: true; the input reads as it did. -/
def fnExactCopNumberSpec : ChangeSpec := { name := "fnExactCopNumber", fn := fun _ => fun
  | [d] => { results := [.lit (.bool true)], args := [d] }
  | _ => none }
def fnExactCopNumberRow : OpenClaim := { program := "ytaenblnoanocbaa", sum := "71d2c347c819096a4635f34f11bd194a49139330048315a48a8392edb1863188", func := "loop.example/g01109/laws.FnExactCopNumber", spec := "fnExactCopNumber", unfollowed := true, recurses := true, apart := false }
def FnExactCopNumberSaid : Prop := fnExactCopNumberRow.holds Try.pinned (OpenSpec.ofChange fnExactCopNumberSpec)

/-- ITS FALSE NEIGHBOUR: 'it returns false'. Refute it at one input. -/
def fnExactCopNumberWrong : ChangeSpec := { name := "fnExactCopNumber", fn := fun _ => fun
  | [d] => { results := [.lit (.bool false)], args := [d] }
  | _ => none }
def FnExactCopNumberWrongFalsely : Prop := fnExactCopNumberRow.holds Try.pinned (OpenSpec.ofChange fnExactCopNumberWrong)

/-- 'laws.FnExactBestCops': WHATEVER THE INPUT: true; the input reads as it did. -/
def fnExactBestCopsSpec : ChangeSpec := { name := "fnExactBestCops", fn := fun _ => fun
  | [d1, d2] => { results := [.lit (.bool true)], args := [d1, d2] }
  | _ => none }
def fnExactBestCopsRow : OpenClaim := { program := "ytaenblnoanocbaa", sum := "71d2c347c819096a4635f34f11bd194a49139330048315a48a8392edb1863188", func := "loop.example/g01109/laws.FnExactBestCops", spec := "fnExactBestCops", unfollowed := true, recurses := true, apart := false }
def FnExactBestCopsSaid : Prop := fnExactBestCopsRow.holds Try.pinned (OpenSpec.ofChange fnExactBestCopsSpec)

/-- ITS FALSE NEIGHBOUR: 'it returns false'. Refute it at one input. -/
def fnExactBestCopsWrong : ChangeSpec := { name := "fnExactBestCops", fn := fun _ => fun
  | [d1, d2] => { results := [.lit (.bool false)], args := [d1, d2] }
  | _ => none }
def FnExactBestCopsWrongFalsely : Prop := fnExactBestCopsRow.holds Try.pinned (OpenSpec.ofChange fnExactBestCopsWrong)

/-- 'laws.FnExactSafeSets': WHATEVER THE INPUT: true; the input reads as it did. -/
def fnExactSafeSetsSpec : ChangeSpec := { name := "fnExactSafeSets", fn := fun _ => fun
  | [d1, d2] => { results := [.lit (.bool true)], args := [d1, d2] }
  | _ => none }
def fnExactSafeSetsRow : OpenClaim := { program := "ytaenblnoanocbaa", sum := "71d2c347c819096a4635f34f11bd194a49139330048315a48a8392edb1863188", func := "loop.example/g01109/laws.FnExactSafeSets", spec := "fnExactSafeSets", unfollowed := true, recurses := true, apart := false }
def FnExactSafeSetsSaid : Prop := fnExactSafeSetsRow.holds Try.pinned (OpenSpec.ofChange fnExactSafeSetsSpec)

/-- ITS FALSE NEIGHBOUR: 'it returns false'. Refute it at one input. -/
def fnExactSafeSetsWrong : ChangeSpec := { name := "fnExactSafeSets", fn := fun _ => fun
  | [d1, d2] => { results := [.lit (.bool false)], args := [d1, d2] }
  | _ => none }
def FnExactSafeSetsWrongFalsely : Prop := fnExactSafeSetsRow.holds Try.pinned (OpenSpec.ofChange fnExactSafeSetsWrong)

/-- 'laws.FnExactTrapsOf': WHATEVER THE INPUT: true; the input reads as it did. -/
def fnExactTrapsOfSpec : ChangeSpec := { name := "fnExactTrapsOf", fn := fun _ => fun
  | [d1, d2] => { results := [.lit (.bool true)], args := [d1, d2] }
  | _ => none }
def fnExactTrapsOfRow : OpenClaim := { program := "ytaenblnoanocbaa", sum := "71d2c347c819096a4635f34f11bd194a49139330048315a48a8392edb1863188", func := "loop.example/g01109/laws.FnExactTrapsOf", spec := "fnExactTrapsOf", unfollowed := true, recurses := true, apart := false }
def FnExactTrapsOfSaid : Prop := fnExactTrapsOfRow.holds Try.pinned (OpenSpec.ofChange fnExactTrapsOfSpec)

/-- ITS FALSE NEIGHBOUR: 'it returns false'. Refute it at one input. -/
def fnExactTrapsOfWrong : ChangeSpec := { name := "fnExactTrapsOf", fn := fun _ => fun
  | [d1, d2] => { results := [.lit (.bool false)], args := [d1, d2] }
  | _ => none }
def FnExactTrapsOfWrongFalsely : Prop := fnExactTrapsOfRow.holds Try.pinned (OpenSpec.ofChange fnExactTrapsOfWrong)

/-- 'laws.FnExactIsCaptureProof': WHATEVER THE INPUT: true; the input reads as it did. -/
def fnExactIsCaptureProofSpec : ChangeSpec := { name := "fnExactIsCaptureProof", fn := fun _ => fun
  | [d1, d2, d3] => { results := [.lit (.bool true)], args := [d1, d2, d3] }
  | _ => none }
def fnExactIsCaptureProofRow : OpenClaim := { program := "ytaenblnoanocbaa", sum := "71d2c347c819096a4635f34f11bd194a49139330048315a48a8392edb1863188", func := "loop.example/g01109/laws.FnExactIsCaptureProof", spec := "fnExactIsCaptureProof", unfollowed := true, recurses := true, apart := false }
def FnExactIsCaptureProofSaid : Prop := fnExactIsCaptureProofRow.holds Try.pinned (OpenSpec.ofChange fnExactIsCaptureProofSpec)

/-- ITS FALSE NEIGHBOUR: 'it returns false'. Refute it at one input. -/
def fnExactIsCaptureProofWrong : ChangeSpec := { name := "fnExactIsCaptureProof", fn := fun _ => fun
  | [d1, d2, d3] => { results := [.lit (.bool false)], args := [d1, d2, d3] }
  | _ => none }
def FnExactIsCaptureProofWrongFalsely : Prop := fnExactIsCaptureProofRow.holds Try.pinned (OpenSpec.ofChange fnExactIsCaptureProofWrong)

/-- 'laws.FnExactIsEvasion': WHATEVER THE INPUT: true; the input reads as it did. -/
def fnExactIsEvasionSpec : ChangeSpec := { name := "fnExactIsEvasion", fn := fun _ => fun
  | [d1, d2, d3] => { results := [.lit (.bool true)], args := [d1, d2, d3] }
  | _ => none }
def fnExactIsEvasionRow : OpenClaim := { program := "ytaenblnoanocbaa", sum := "71d2c347c819096a4635f34f11bd194a49139330048315a48a8392edb1863188", func := "loop.example/g01109/laws.FnExactIsEvasion", spec := "fnExactIsEvasion", unfollowed := true, recurses := true, apart := false }
def FnExactIsEvasionSaid : Prop := fnExactIsEvasionRow.holds Try.pinned (OpenSpec.ofChange fnExactIsEvasionSpec)

/-- ITS FALSE NEIGHBOUR: 'it returns false'. Refute it at one input. -/
def fnExactIsEvasionWrong : ChangeSpec := { name := "fnExactIsEvasion", fn := fun _ => fun
  | [d1, d2, d3] => { results := [.lit (.bool false)], args := [d1, d2, d3] }
  | _ => none }
def FnExactIsEvasionWrongFalsely : Prop := fnExactIsEvasionRow.holds Try.pinned (OpenSpec.ofChange fnExactIsEvasionWrong)

/- THE SECOND FORM. 'bulk': how many values and letters a reading holds, each counted each time it is reached (what is shared counts as often as it is met; a slice's spare places count too). A statement '..UptoSaid' is the law's where the arguments, and the package variables that the reading takes, are together of bulk at most 1048576: NARROWER than '..Said'. Prove '..Said' where nothing that the law and all that it calls make is longer than what came in: it says more and counts as full. Else prove '..UptoSaid'. A law counts once. -/
mutual
def uptoBulk {H : Type} : DataW H → Nat
  | .lit (.string bytes) => bytes.length + 1
  | .lit _ => 1
  | .nil => 1
  | .ptr d => uptoBulk d + 1
  | .slice elems spare => uptoBulkAll elems + uptoBulkAll spare + 1
  | .agg parts => uptoBulkAll parts + 1
  | .iface _ d => uptoBulk d + 1
  | .map entries => uptoBulkEntries entries + 1
  | .held _ => 1
def uptoBulkAll {H : Type} : List (DataW H) → Nat
  | [] => 0
  | d :: r => uptoBulk d + uptoBulkAll r
def uptoBulkEntries {H : Type} : List (Lit × DataW H) → Nat
  | [] => 0
  | x :: r => uptoBulkEntry x + uptoBulkEntries r
def uptoBulkEntry {H : Type} : Lit × DataW H → Nat
  | (.string bytes, d) => bytes.length + uptoBulk d + 1
  | (_, d) => uptoBulk d + 1
 end
def uptoSmall : (H : Type) → List (DataW H) → Bool := fun _ ds => decide (uptoBulkAll ds ≤ 1048576)
def OpenSpec.upto (s : _root_.Go.ChangeSpec) : _root_.Go.OpenSpec := { _root_.Go.OpenSpec.ofChange s with cond := some uptoSmall }

/-- 'laws.FnExactCopLists', WHERE WHAT IT READS IS OF BULK AT MOST 1048576: true; the input reads as it did. -/
def fnExactCopListsUptoRow : OpenClaim := { program := "ytaenblnoanocbaa", sum := "71d2c347c819096a4635f34f11bd194a49139330048315a48a8392edb1863188", func := "loop.example/g01109/laws.FnExactCopLists", spec := "fnExactCopLists", recurses := true, apart := false, narrowed := true }
def FnExactCopListsUptoSaid : Prop := fnExactCopListsUptoRow.holds Try.pinned (OpenSpec.upto fnExactCopListsSpec)

/-- 'laws.FnExactCopMoves', WHERE WHAT IT READS IS OF BULK AT MOST 1048576: true; the input reads as it did. -/
def fnExactCopMovesUptoRow : OpenClaim := { program := "ytaenblnoanocbaa", sum := "71d2c347c819096a4635f34f11bd194a49139330048315a48a8392edb1863188", func := "loop.example/g01109/laws.FnExactCopMoves", spec := "fnExactCopMoves", unfollowed := true, recurses := true, apart := false, narrowed := true }
def FnExactCopMovesUptoSaid : Prop := fnExactCopMovesUptoRow.holds Try.pinned (OpenSpec.upto fnExactCopMovesSpec)

/-- 'laws.FnExactCaptureTimes', WHERE WHAT IT READS IS OF BULK AT MOST 1048576: true; the input reads as it did. -/
def fnExactCaptureTimesUptoRow : OpenClaim := { program := "ytaenblnoanocbaa", sum := "71d2c347c819096a4635f34f11bd194a49139330048315a48a8392edb1863188", func := "loop.example/g01109/laws.FnExactCaptureTimes", spec := "fnExactCaptureTimes", unfollowed := true, recurses := true, apart := false, narrowed := true }
def FnExactCaptureTimesUptoSaid : Prop := fnExactCaptureTimesUptoRow.holds Try.pinned (OpenSpec.upto fnExactCaptureTimesSpec)

/-- 'laws.FnExactCanCatch', WHERE WHAT IT READS IS OF BULK AT MOST 1048576: true; the input reads as it did. -/
def fnExactCanCatchUptoRow : OpenClaim := { program := "ytaenblnoanocbaa", sum := "71d2c347c819096a4635f34f11bd194a49139330048315a48a8392edb1863188", func := "loop.example/g01109/laws.FnExactCanCatch", spec := "fnExactCanCatch", unfollowed := true, recurses := true, apart := false, narrowed := true }
def FnExactCanCatchUptoSaid : Prop := fnExactCanCatchUptoRow.holds Try.pinned (OpenSpec.upto fnExactCanCatchSpec)

/-- 'laws.FnExactCopNumber', WHERE WHAT IT READS IS OF BULK AT MOST 1048576: true; the input reads as it did. -/
def fnExactCopNumberUptoRow : OpenClaim := { program := "ytaenblnoanocbaa", sum := "71d2c347c819096a4635f34f11bd194a49139330048315a48a8392edb1863188", func := "loop.example/g01109/laws.FnExactCopNumber", spec := "fnExactCopNumber", unfollowed := true, recurses := true, apart := false, narrowed := true }
def FnExactCopNumberUptoSaid : Prop := fnExactCopNumberUptoRow.holds Try.pinned (OpenSpec.upto fnExactCopNumberSpec)

/-- 'laws.FnExactBestCops', WHERE WHAT IT READS IS OF BULK AT MOST 1048576: true; the input reads as it did. -/
def fnExactBestCopsUptoRow : OpenClaim := { program := "ytaenblnoanocbaa", sum := "71d2c347c819096a4635f34f11bd194a49139330048315a48a8392edb1863188", func := "loop.example/g01109/laws.FnExactBestCops", spec := "fnExactBestCops", unfollowed := true, recurses := true, apart := false, narrowed := true }
def FnExactBestCopsUptoSaid : Prop := fnExactBestCopsUptoRow.holds Try.pinned (OpenSpec.upto fnExactBestCopsSpec)

/-- 'laws.FnExactSafeSets', WHERE WHAT IT READS IS OF BULK AT MOST 1048576: true; the input reads as it did. -/
def fnExactSafeSetsUptoRow : OpenClaim := { program := "ytaenblnoanocbaa", sum := "71d2c347c819096a4635f34f11bd194a49139330048315a48a8392edb1863188", func := "loop.example/g01109/laws.FnExactSafeSets", spec := "fnExactSafeSets", unfollowed := true, recurses := true, apart := false, narrowed := true }
def FnExactSafeSetsUptoSaid : Prop := fnExactSafeSetsUptoRow.holds Try.pinned (OpenSpec.upto fnExactSafeSetsSpec)

/-- 'laws.FnExactTrapsOf', WHERE WHAT IT READS IS OF BULK AT MOST 1048576: true; the input reads as it did. -/
def fnExactTrapsOfUptoRow : OpenClaim := { program := "ytaenblnoanocbaa", sum := "71d2c347c819096a4635f34f11bd194a49139330048315a48a8392edb1863188", func := "loop.example/g01109/laws.FnExactTrapsOf", spec := "fnExactTrapsOf", unfollowed := true, recurses := true, apart := false, narrowed := true }
def FnExactTrapsOfUptoSaid : Prop := fnExactTrapsOfUptoRow.holds Try.pinned (OpenSpec.upto fnExactTrapsOfSpec)

/-- 'laws.FnExactIsCaptureProof', WHERE WHAT IT READS IS OF BULK AT MOST 1048576: true; the input reads as it did. -/
def fnExactIsCaptureProofUptoRow : OpenClaim := { program := "ytaenblnoanocbaa", sum := "71d2c347c819096a4635f34f11bd194a49139330048315a48a8392edb1863188", func := "loop.example/g01109/laws.FnExactIsCaptureProof", spec := "fnExactIsCaptureProof", unfollowed := true, recurses := true, apart := false, narrowed := true }
def FnExactIsCaptureProofUptoSaid : Prop := fnExactIsCaptureProofUptoRow.holds Try.pinned (OpenSpec.upto fnExactIsCaptureProofSpec)

/-- 'laws.FnExactIsEvasion', WHERE WHAT IT READS IS OF BULK AT MOST 1048576: true; the input reads as it did. -/
def fnExactIsEvasionUptoRow : OpenClaim := { program := "ytaenblnoanocbaa", sum := "71d2c347c819096a4635f34f11bd194a49139330048315a48a8392edb1863188", func := "loop.example/g01109/laws.FnExactIsEvasion", spec := "fnExactIsEvasion", unfollowed := true, recurses := true, apart := false, narrowed := true }
def FnExactIsEvasionUptoSaid : Prop := fnExactIsEvasionUptoRow.holds Try.pinned (OpenSpec.upto fnExactIsEvasionSpec)

end Rows
end Go.Proofs.Ytaenblnoanocbaa
