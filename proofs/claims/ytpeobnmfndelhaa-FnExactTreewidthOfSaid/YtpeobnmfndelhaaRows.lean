/-
  No cell of these rows narrows 'for every input' (looked for: loops, veiled, ifaces, maps, wideKeys, modest, calm, conditions, laid).
  DERIVED. THE GIVEN ROWS OF THIS SEAT. 10 by the template 'for every input the law returns true; each argument reads behind the call as it read before'; 0 by the template 'total and deterministic' (their statements: YtpeobnmfndelhaaTotals.lean).
  GIVEN WITH THE SEED: the statements are not yours to turn. If you find one false, say at which input.
  Laid BY PROGRAM, IN A SANDBOX (cutbox-rows.mjs): the forced cells as the released guide's own fill.sh prints them over the translation 09b2cc4804ba668f… (all of the seat's roots in one cut). By AI agents, Wed Nov 11 2026. No macro, syntax, notation, axiom, sorry.
-/
import Derived.Test.YtpeobnmfndelhaaChecked
import GoSem.Claim
import GoSem.ClaimJoined
import GoSem.ClaimMapViews
import Derived.JoinedTies
import Derived.KernelRfl
namespace Go.Proofs.Ytpeobnmfndelhaa
/- THE CELL 'sum', in the pinned program and in every row, IS THE sha256 OF THE DUMP (.gsa) THAT YtpeobnmfndelhaaProg.lean LOADS. Nothing in Lean hashes anything: it is a label: what it is worth is what the hold of that sum in a sandbox is worth. -/
noncomputable def Try.pinned : Pinned := { name := "ytpeobnmfndelhaa", sum := "09b2cc4804ba668f2853c91991a04de77f6519ad1b36d0c7f0d84cecbf57de15", checked := Try.checked }
namespace Rows
def none {H : Type} : Left H := { results := [], args := [] }

/-- 'laws.FnExactCopMoves': WHATEVER THE INPUT: true; the input reads as it did. -/
def fnExactCopMovesSpec : ChangeSpec := { name := "fnExactCopMoves", fn := fun _ => fun
  | [d1, d2] => { results := [.lit (.bool true)], args := [d1, d2] }
  | _ => none }
def fnExactCopMovesRow : OpenClaim := { program := "ytpeobnmfndelhaa", sum := "09b2cc4804ba668f2853c91991a04de77f6519ad1b36d0c7f0d84cecbf57de15", func := "loop.example/g01109/laws.FnExactCopMoves", spec := "fnExactCopMoves", unfollowed := true, recurses := true, apart := false }
def FnExactCopMovesSaid : Prop := fnExactCopMovesRow.holds Try.pinned (OpenSpec.ofChange fnExactCopMovesSpec)

/-- ITS FALSE NEIGHBOUR: 'it returns false'. Refute it at one input. -/
def fnExactCopMovesWrong : ChangeSpec := { name := "fnExactCopMoves", fn := fun _ => fun
  | [d1, d2] => { results := [.lit (.bool false)], args := [d1, d2] }
  | _ => none }
def FnExactCopMovesWrongFalsely : Prop := fnExactCopMovesRow.holds Try.pinned (OpenSpec.ofChange fnExactCopMovesWrong)

/-- 'laws.FnExactBestCops': WHATEVER THE INPUT: true; the input reads as it did. -/
def fnExactBestCopsSpec : ChangeSpec := { name := "fnExactBestCops", fn := fun _ => fun
  | [d1, d2] => { results := [.lit (.bool true)], args := [d1, d2] }
  | _ => none }
def fnExactBestCopsRow : OpenClaim := { program := "ytpeobnmfndelhaa", sum := "09b2cc4804ba668f2853c91991a04de77f6519ad1b36d0c7f0d84cecbf57de15", func := "loop.example/g01109/laws.FnExactBestCops", spec := "fnExactBestCops", unfollowed := true, recurses := true, apart := false }
def FnExactBestCopsSaid : Prop := fnExactBestCopsRow.holds Try.pinned (OpenSpec.ofChange fnExactBestCopsSpec)

/-- ITS FALSE NEIGHBOUR: 'it returns false'. Refute it at one input. -/
def fnExactBestCopsWrong : ChangeSpec := { name := "fnExactBestCops", fn := fun _ => fun
  | [d1, d2] => { results := [.lit (.bool false)], args := [d1, d2] }
  | _ => none }
def FnExactBestCopsWrongFalsely : Prop := fnExactBestCopsRow.holds Try.pinned (OpenSpec.ofChange fnExactBestCopsWrong)

/-- 'laws.FnExactSafeSets': WHATEVER THE INPUT: true; the input reads as it did. -/
def fnExactSafeSetsSpec : ChangeSpec := { name := "fnExactSafeSets", fn := fun _ => fun
  | [d1, d2] => { results := [.lit (.bool true)], args := [d1, d2] }
  | _ => none }
def fnExactSafeSetsRow : OpenClaim := { program := "ytpeobnmfndelhaa", sum := "09b2cc4804ba668f2853c91991a04de77f6519ad1b36d0c7f0d84cecbf57de15", func := "loop.example/g01109/laws.FnExactSafeSets", spec := "fnExactSafeSets", unfollowed := true, recurses := true, apart := false }
def FnExactSafeSetsSaid : Prop := fnExactSafeSetsRow.holds Try.pinned (OpenSpec.ofChange fnExactSafeSetsSpec)

/-- ITS FALSE NEIGHBOUR: 'it returns false'. Refute it at one input. -/
def fnExactSafeSetsWrong : ChangeSpec := { name := "fnExactSafeSets", fn := fun _ => fun
  | [d1, d2] => { results := [.lit (.bool false)], args := [d1, d2] }
  | _ => none }
def FnExactSafeSetsWrongFalsely : Prop := fnExactSafeSetsRow.holds Try.pinned (OpenSpec.ofChange fnExactSafeSetsWrong)

/-- 'laws.FnExactTrapsOf': WHATEVER THE INPUT: true; the input reads as it did. -/
def fnExactTrapsOfSpec : ChangeSpec := { name := "fnExactTrapsOf", fn := fun _ => fun
  | [d1, d2] => { results := [.lit (.bool true)], args := [d1, d2] }
  | _ => none }
def fnExactTrapsOfRow : OpenClaim := { program := "ytpeobnmfndelhaa", sum := "09b2cc4804ba668f2853c91991a04de77f6519ad1b36d0c7f0d84cecbf57de15", func := "loop.example/g01109/laws.FnExactTrapsOf", spec := "fnExactTrapsOf", unfollowed := true, recurses := true, apart := false }
def FnExactTrapsOfSaid : Prop := fnExactTrapsOfRow.holds Try.pinned (OpenSpec.ofChange fnExactTrapsOfSpec)

/-- ITS FALSE NEIGHBOUR: 'it returns false'. Refute it at one input. -/
def fnExactTrapsOfWrong : ChangeSpec := { name := "fnExactTrapsOf", fn := fun _ => fun
  | [d1, d2] => { results := [.lit (.bool false)], args := [d1, d2] }
  | _ => none }
def FnExactTrapsOfWrongFalsely : Prop := fnExactTrapsOfRow.holds Try.pinned (OpenSpec.ofChange fnExactTrapsOfWrong)

/-- 'laws.FnExactIsCaptureProof': WHATEVER THE INPUT: true; the input reads as it did. -/
def fnExactIsCaptureProofSpec : ChangeSpec := { name := "fnExactIsCaptureProof", fn := fun _ => fun
  | [d1, d2, d3] => { results := [.lit (.bool true)], args := [d1, d2, d3] }
  | _ => none }
def fnExactIsCaptureProofRow : OpenClaim := { program := "ytpeobnmfndelhaa", sum := "09b2cc4804ba668f2853c91991a04de77f6519ad1b36d0c7f0d84cecbf57de15", func := "loop.example/g01109/laws.FnExactIsCaptureProof", spec := "fnExactIsCaptureProof", unfollowed := true, recurses := true, apart := false }
def FnExactIsCaptureProofSaid : Prop := fnExactIsCaptureProofRow.holds Try.pinned (OpenSpec.ofChange fnExactIsCaptureProofSpec)

/-- ITS FALSE NEIGHBOUR: 'it returns false'. Refute it at one input. -/
def fnExactIsCaptureProofWrong : ChangeSpec := { name := "fnExactIsCaptureProof", fn := fun _ => fun
  | [d1, d2, d3] => { results := [.lit (.bool false)], args := [d1, d2, d3] }
  | _ => none }
def FnExactIsCaptureProofWrongFalsely : Prop := fnExactIsCaptureProofRow.holds Try.pinned (OpenSpec.ofChange fnExactIsCaptureProofWrong)

/-- 'laws.FnExactIsEvasion': WHATEVER THE INPUT: true; the input reads as it did. -/
def fnExactIsEvasionSpec : ChangeSpec := { name := "fnExactIsEvasion", fn := fun _ => fun
  | [d1, d2, d3] => { results := [.lit (.bool true)], args := [d1, d2, d3] }
  | _ => none }
def fnExactIsEvasionRow : OpenClaim := { program := "ytpeobnmfndelhaa", sum := "09b2cc4804ba668f2853c91991a04de77f6519ad1b36d0c7f0d84cecbf57de15", func := "loop.example/g01109/laws.FnExactIsEvasion", spec := "fnExactIsEvasion", unfollowed := true, recurses := true, apart := false }
def FnExactIsEvasionSaid : Prop := fnExactIsEvasionRow.holds Try.pinned (OpenSpec.ofChange fnExactIsEvasionSpec)

/-- ITS FALSE NEIGHBOUR: 'it returns false'. Refute it at one input. -/
def fnExactIsEvasionWrong : ChangeSpec := { name := "fnExactIsEvasion", fn := fun _ => fun
  | [d1, d2, d3] => { results := [.lit (.bool false)], args := [d1, d2, d3] }
  | _ => none }
def FnExactIsEvasionWrongFalsely : Prop := fnExactIsEvasionRow.holds Try.pinned (OpenSpec.ofChange fnExactIsEvasionWrong)

/-- 'laws.FnExactTreewidthOf': WHATEVER THE INPUT: true; the input reads as it did. -/
def fnExactTreewidthOfSpec : ChangeSpec := { name := "fnExactTreewidthOf", fn := fun _ => fun
  | [d] => { results := [.lit (.bool true)], args := [d] }
  | _ => none }
def fnExactTreewidthOfRow : OpenClaim := { program := "ytpeobnmfndelhaa", sum := "09b2cc4804ba668f2853c91991a04de77f6519ad1b36d0c7f0d84cecbf57de15", func := "loop.example/g01109/laws.FnExactTreewidthOf", spec := "fnExactTreewidthOf", unfollowed := true, recurses := true, apart := false }
def FnExactTreewidthOfSaid : Prop := fnExactTreewidthOfRow.holds Try.pinned (OpenSpec.ofChange fnExactTreewidthOfSpec)

/-- ITS FALSE NEIGHBOUR: 'it returns false'. Refute it at one input. -/
def fnExactTreewidthOfWrong : ChangeSpec := { name := "fnExactTreewidthOf", fn := fun _ => fun
  | [d] => { results := [.lit (.bool false)], args := [d] }
  | _ => none }
def FnExactTreewidthOfWrongFalsely : Prop := fnExactTreewidthOfRow.holds Try.pinned (OpenSpec.ofChange fnExactTreewidthOfWrong)

/-- 'laws.FnExactBestElimination': WHATEVER THE INPUT: true; the input reads as it did. -/
def fnExactBestEliminationSpec : ChangeSpec := { name := "fnExactBestElimination", fn := fun _ => fun
  | [d] => { results := [.lit (.bool true)], args := [d] }
  | _ => none }
def fnExactBestEliminationRow : OpenClaim := { program := "ytpeobnmfndelhaa", sum := "09b2cc4804ba668f2853c91991a04de77f6519ad1b36d0c7f0d84cecbf57de15", func := "loop.example/g01109/laws.FnExactBestElimination", spec := "fnExactBestElimination", unfollowed := true, recurses := true, apart := false }
def FnExactBestEliminationSaid : Prop := fnExactBestEliminationRow.holds Try.pinned (OpenSpec.ofChange fnExactBestEliminationSpec)

/-- ITS FALSE NEIGHBOUR: 'it returns false'. Refute it at one input. -/
def fnExactBestEliminationWrong : ChangeSpec := { name := "fnExactBestElimination", fn := fun _ => fun
  | [d] => { results := [.lit (.bool false)], args := [d] }
  | _ => none }
def FnExactBestEliminationWrongFalsely : Prop := fnExactBestEliminationRow.holds Try.pinned (OpenSpec.ofChange fnExactBestEliminationWrong)

/-- 'laws.FnExactPerfectElimination': WHATEVER THE INPUT: true; the input reads as it did. -/
def fnExactPerfectEliminationSpec : ChangeSpec := { name := "fnExactPerfectElimination", fn := fun _ => fun
  | [d] => { results := [.lit (.bool true)], args := [d] }
  | _ => none }
def fnExactPerfectEliminationRow : OpenClaim := { program := "ytpeobnmfndelhaa", sum := "09b2cc4804ba668f2853c91991a04de77f6519ad1b36d0c7f0d84cecbf57de15", func := "loop.example/g01109/laws.FnExactPerfectElimination", spec := "fnExactPerfectElimination", unfollowed := true, recurses := true, apart := false }
def FnExactPerfectEliminationSaid : Prop := fnExactPerfectEliminationRow.holds Try.pinned (OpenSpec.ofChange fnExactPerfectEliminationSpec)

/-- ITS FALSE NEIGHBOUR: 'it returns false'. Refute it at one input. -/
def fnExactPerfectEliminationWrong : ChangeSpec := { name := "fnExactPerfectElimination", fn := fun _ => fun
  | [d] => { results := [.lit (.bool false)], args := [d] }
  | _ => none }
def FnExactPerfectEliminationWrongFalsely : Prop := fnExactPerfectEliminationRow.holds Try.pinned (OpenSpec.ofChange fnExactPerfectEliminationWrong)

/-- 'laws.FnExactDecompositionOf': WHATEVER THE INPUT: true; the input reads as it did. -/
def fnExactDecompositionOfSpec : ChangeSpec := { name := "fnExactDecompositionOf", fn := fun _ => fun
  | [d1, d2] => { results := [.lit (.bool true)], args := [d1, d2] }
  | _ => none }
def fnExactDecompositionOfRow : OpenClaim := { program := "ytpeobnmfndelhaa", sum := "09b2cc4804ba668f2853c91991a04de77f6519ad1b36d0c7f0d84cecbf57de15", func := "loop.example/g01109/laws.FnExactDecompositionOf", spec := "fnExactDecompositionOf", unfollowed := true, recurses := true, apart := false }
def FnExactDecompositionOfSaid : Prop := fnExactDecompositionOfRow.holds Try.pinned (OpenSpec.ofChange fnExactDecompositionOfSpec)

/-- ITS FALSE NEIGHBOUR: 'it returns false'. Refute it at one input. -/
def fnExactDecompositionOfWrong : ChangeSpec := { name := "fnExactDecompositionOf", fn := fun _ => fun
  | [d1, d2] => { results := [.lit (.bool false)], args := [d1, d2] }
  | _ => none }
def FnExactDecompositionOfWrongFalsely : Prop := fnExactDecompositionOfRow.holds Try.pinned (OpenSpec.ofChange fnExactDecompositionOfWrong)

/- THE SECOND FORM. 'bulk': how many values and letters a reading holds, each counted each time it is reached (what is shared counts as often as it is met; a slice's spare places count too). A statement '..UptoSaid' is the law's where the arguments, and the package variables that the reading takes, are together of bulk at most 1048576: NARROWER than '..Said'. Prove '..Said' where nothing that the law and all that it calls make is longer than what came in: it says more and counts as full. Else prove '..UptoSaid'. A law counts once. -/
mutual
def uptoBulk {H : Type} : DataW H → Nat
  | .lit (.string bytes) => bytes.length + 1
  | .lit _ => 1
  | .nil => 1
  | .ptr d => uptoBulk d + 1
  | .slice elems spare => uptoBulkAll elems + uptoBulkAll spare + 1
  | .agg parts => uptoBulkAll parts + 1
  | .iface _ d => uptoBulk d + 1
  | .map entries => uptoBulkEntries entries + 1
  | .held _ => 1
def uptoBulkAll {H : Type} : List (DataW H) → Nat
  | [] => 0
  | d :: r => uptoBulk d + uptoBulkAll r
def uptoBulkEntries {H : Type} : List (Lit × DataW H) → Nat
  | [] => 0
  | x :: r => uptoBulkEntry x + uptoBulkEntries r
def uptoBulkEntry {H : Type} : Lit × DataW H → Nat
  | (.string bytes, d) => bytes.length + uptoBulk d + 1
  | (_, d) => uptoBulk d + 1
 end
def uptoSmall : (H : Type) → List (DataW H) → Bool := fun _ ds => decide (uptoBulkAll ds ≤ 1048576)
def OpenSpec.upto (s : _root_.Go.ChangeSpec) : _root_.Go.OpenSpec := { _root_.Go.OpenSpec.ofChange s with cond := some uptoSmall }

/-- 'laws.FnExactCopMoves', WHERE WHAT IT READS IS OF BULK AT MOST 1048576: true; the input reads as it did. -/
def fnExactCopMovesUptoRow : OpenClaim := { program := "ytpeobnmfndelhaa", sum := "09b2cc4804ba668f2853c91991a04de77f6519ad1b36d0c7f0d84cecbf57de15", func := "loop.example/g01109/laws.FnExactCopMoves", spec := "fnExactCopMoves", unfollowed := true, recurses := true, apart := false, narrowed := true }
def FnExactCopMovesUptoSaid : Prop := fnExactCopMovesUptoRow.holds Try.pinned (OpenSpec.upto fnExactCopMovesSpec)

/-- 'laws.FnExactBestCops', WHERE WHAT IT READS IS OF BULK AT MOST 1048576: true; the input reads as it did. -/
def fnExactBestCopsUptoRow : OpenClaim := { program := "ytpeobnmfndelhaa", sum := "09b2cc4804ba668f2853c91991a04de77f6519ad1b36d0c7f0d84cecbf57de15", func := "loop.example/g01109/laws.FnExactBestCops", spec := "fnExactBestCops", unfollowed := true, recurses := true, apart := false, narrowed := true }
def FnExactBestCopsUptoSaid : Prop := fnExactBestCopsUptoRow.holds Try.pinned (OpenSpec.upto fnExactBestCopsSpec)

/-- 'laws.FnExactSafeSets', WHERE WHAT IT READS IS OF BULK AT MOST 1048576: true; the input reads as it did. -/
def fnExactSafeSetsUptoRow : OpenClaim := { program := "ytpeobnmfndelhaa", sum := "09b2cc4804ba668f2853c91991a04de77f6519ad1b36d0c7f0d84cecbf57de15", func := "loop.example/g01109/laws.FnExactSafeSets", spec := "fnExactSafeSets", unfollowed := true, recurses := true, apart := false, narrowed := true }
def FnExactSafeSetsUptoSaid : Prop := fnExactSafeSetsUptoRow.holds Try.pinned (OpenSpec.upto fnExactSafeSetsSpec)

/-- 'laws.FnExactTrapsOf', WHERE WHAT IT READS IS OF BULK AT MOST 1048576: true; the input reads as it did. -/
def fnExactTrapsOfUptoRow : OpenClaim := { program := "ytpeobnmfndelhaa", sum := "09b2cc4804ba668f2853c91991a04de77f6519ad1b36d0c7f0d84cecbf57de15", func := "loop.example/g01109/laws.FnExactTrapsOf", spec := "fnExactTrapsOf", unfollowed := true, recurses := true, apart := false, narrowed := true }
def FnExactTrapsOfUptoSaid : Prop := fnExactTrapsOfUptoRow.holds Try.pinned (OpenSpec.upto fnExactTrapsOfSpec)

/-- 'laws.FnExactIsCaptureProof', WHERE WHAT IT READS IS OF BULK AT MOST 1048576: true; the input reads as it did. -/
def fnExactIsCaptureProofUptoRow : OpenClaim := { program := "ytpeobnmfndelhaa", sum := "09b2cc4804ba668f2853c91991a04de77f6519ad1b36d0c7f0d84cecbf57de15", func := "loop.example/g01109/laws.FnExactIsCaptureProof", spec := "fnExactIsCaptureProof", unfollowed := true, recurses := true, apart := false, narrowed := true }
def FnExactIsCaptureProofUptoSaid : Prop := fnExactIsCaptureProofUptoRow.holds Try.pinned (OpenSpec.upto fnExactIsCaptureProofSpec)

/-- 'laws.FnExactIsEvasion', WHERE WHAT IT READS IS OF BULK AT MOST 1048576: true; the input reads as it did. -/
def fnExactIsEvasionUptoRow : OpenClaim := { program := "ytpeobnmfndelhaa", sum := "09b2cc4804ba668f2853c91991a04de77f6519ad1b36d0c7f0d84cecbf57de15", func := "loop.example/g01109/laws.FnExactIsEvasion", spec := "fnExactIsEvasion", unfollowed := true, recurses := true, apart := false, narrowed := true }
def FnExactIsEvasionUptoSaid : Prop := fnExactIsEvasionUptoRow.holds Try.pinned (OpenSpec.upto fnExactIsEvasionSpec)

/-- 'laws.FnExactTreewidthOf', WHERE WHAT IT READS IS OF BULK AT MOST 1048576: true; the input reads as it did. -/
def fnExactTreewidthOfUptoRow : OpenClaim := { program := "ytpeobnmfndelhaa", sum := "09b2cc4804ba668f2853c91991a04de77f6519ad1b36d0c7f0d84cecbf57de15", func := "loop.example/g01109/laws.FnExactTreewidthOf", spec := "fnExactTreewidthOf", unfollowed := true, recurses := true, apart := false, narrowed := true }
def FnExactTreewidthOfUptoSaid : Prop := fnExactTreewidthOfUptoRow.holds Try.pinned (OpenSpec.upto fnExactTreewidthOfSpec)

/-- 'laws.FnExactBestElimination', WHERE WHAT IT READS IS OF BULK AT MOST 1048576: true; the input reads as it did. -/
def fnExactBestEliminationUptoRow : OpenClaim := { program := "ytpeobnmfndelhaa", sum := "09b2cc4804ba668f2853c91991a04de77f6519ad1b36d0c7f0d84cecbf57de15", func := "loop.example/g01109/laws.FnExactBestElimination", spec := "fnExactBestElimination", unfollowed := true, recurses := true, apart := false, narrowed := true }
def FnExactBestEliminationUptoSaid : Prop := fnExactBestEliminationUptoRow.holds Try.pinned (OpenSpec.upto fnExactBestEliminationSpec)

/-- 'laws.FnExactPerfectElimination', WHERE WHAT IT READS IS OF BULK AT MOST 1048576: true; the input reads as it did. -/
def fnExactPerfectEliminationUptoRow : OpenClaim := { program := "ytpeobnmfndelhaa", sum := "09b2cc4804ba668f2853c91991a04de77f6519ad1b36d0c7f0d84cecbf57de15", func := "loop.example/g01109/laws.FnExactPerfectElimination", spec := "fnExactPerfectElimination", unfollowed := true, recurses := true, apart := false, narrowed := true }
def FnExactPerfectEliminationUptoSaid : Prop := fnExactPerfectEliminationUptoRow.holds Try.pinned (OpenSpec.upto fnExactPerfectEliminationSpec)

/-- 'laws.FnExactDecompositionOf', WHERE WHAT IT READS IS OF BULK AT MOST 1048576: true; the input reads as it did. -/
def fnExactDecompositionOfUptoRow : OpenClaim := { program := "ytpeobnmfndelhaa", sum := "09b2cc4804ba668f2853c91991a04de77f6519ad1b36d0c7f0d84cecbf57de15", func := "loop.example/g01109/laws.FnExactDecompositionOf", spec := "fnExactDecompositionOf", unfollowed := true, recurses := true, apart := false, narrowed := true }
def FnExactDecompositionOfUptoSaid : Prop := fnExactDecompositionOfUptoRow.holds Try.pinned (OpenSpec.upto fnExactDecompositionOfSpec)

end Rows
end Go.Proofs.Ytpeobnmfndelhaa
