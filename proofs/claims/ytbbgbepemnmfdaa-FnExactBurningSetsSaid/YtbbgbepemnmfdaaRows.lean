/-
  No cell of these rows narrows 'for every input' (looked for: loops, veiled, ifaces, maps, wideKeys, modest, calm, conditions, laid).
  DERIVED. THE GIVEN ROWS OF THIS SEAT. 10 by the template 'for every input the law returns true; each argument reads behind the call as it read before'; 0 by the template 'total and deterministic' (their statements: YtbbgbepemnmfdaaTotals.lean).
  GIVEN WITH THE SEED: the statements are not yours to turn. If you find one false, say at which input.
  Laid BY PROGRAM, IN A SANDBOX (cutbox-rows.mjs): the forced cells as the released guide's own fill.sh prints them over the translation 7f5b8c8e141e9ed3… (all of the seat's roots in one cut). By AI agents, Wed Nov 11 2026. No macro, syntax, notation, axiom, sorry.
-/
import Derived.Test.YtbbgbepemnmfdaaChecked
import GoSem.Claim
import GoSem.ClaimJoined
import GoSem.ClaimMapViews
import Derived.JoinedTies
import Derived.KernelRfl
namespace Go.Proofs.Ytbbgbepemnmfdaa
/- THE CELL 'sum', in the pinned program and in every row, IS THE sha256 OF THE DUMP (.gsa) THAT YtbbgbepemnmfdaaProg.lean LOADS. Nothing in Lean hashes anything: it is a label: what it is worth is what the hold of that sum in a sandbox is worth. -/
noncomputable def Try.pinned : Pinned := { name := "ytbbgbepemnmfdaa", sum := "7f5b8c8e141e9ed3e391e7b1726184872302e8b5bf58d3167544121c78d568e3", checked := Try.checked }
namespace Rows
def none {H : Type} : Left H := { results := [], args := [] }

/-- 'laws.FnExactCliqueOf': WHATEVER THE INPUT: true; the input reads as it did. -/
def fnExactCliqueOfSpec : ChangeSpec := { name := "fnExactCliqueOf", fn := fun _ => fun
  | [d] => { results := [.lit (.bool true)], args := [d] }
  | _ => none }
def fnExactCliqueOfRow : OpenClaim := { program := "ytbbgbepemnmfdaa", sum := "7f5b8c8e141e9ed3e391e7b1726184872302e8b5bf58d3167544121c78d568e3", func := "loop.example/g01109/laws.FnExactCliqueOf", spec := "fnExactCliqueOf", unfollowed := true, recurses := true, apart := false }
def FnExactCliqueOfSaid : Prop := fnExactCliqueOfRow.holds Try.pinned (OpenSpec.ofChange fnExactCliqueOfSpec)

/-- ITS FALSE NEIGHBOUR: 'it returns false'. Refute it at one input. -/
def fnExactCliqueOfWrong : ChangeSpec := { name := "fnExactCliqueOf", fn := fun _ => fun
  | [d] => { results := [.lit (.bool false)], args := [d] }
  | _ => none }
def FnExactCliqueOfWrongFalsely : Prop := fnExactCliqueOfRow.holds Try.pinned (OpenSpec.ofChange fnExactCliqueOfWrong)

/-- 'laws.FnExactDegeneracyOf': WHATEVER THE INPUT: true; the input reads as it did. -/
def fnExactDegeneracyOfSpec : ChangeSpec := { name := "fnExactDegeneracyOf", fn := fun _ => fun
  | [d] => { results := [.lit (.bool true)], args := [d] }
  | _ => none }
def fnExactDegeneracyOfRow : OpenClaim := { program := "ytbbgbepemnmfdaa", sum := "7f5b8c8e141e9ed3e391e7b1726184872302e8b5bf58d3167544121c78d568e3", func := "loop.example/g01109/laws.FnExactDegeneracyOf", spec := "fnExactDegeneracyOf", unfollowed := true, recurses := true, apart := false }
def FnExactDegeneracyOfSaid : Prop := fnExactDegeneracyOfRow.holds Try.pinned (OpenSpec.ofChange fnExactDegeneracyOfSpec)

/-- ITS FALSE NEIGHBOUR: 'it returns false'. Refute it at one input. -/
def fnExactDegeneracyOfWrong : ChangeSpec := { name := "fnExactDegeneracyOf", fn := fun _ => fun
  | [d] => { results := [.lit (.bool false)], args := [d] }
  | _ => none }
def FnExactDegeneracyOfWrongFalsely : Prop := fnExactDegeneracyOfRow.holds Try.pinned (OpenSpec.ofChange fnExactDegeneracyOfWrong)

/-- 'laws.FnExactFrontBound': WHATEVER THE INPUT: true; the input reads as it did. -/
def fnExactFrontBoundSpec : ChangeSpec := { name := "fnExactFrontBound", fn := fun _ => fun
  | [d] => { results := [.lit (.bool true)], args := [d] }
  | _ => none }
def fnExactFrontBoundRow : OpenClaim := { program := "ytbbgbepemnmfdaa", sum := "7f5b8c8e141e9ed3e391e7b1726184872302e8b5bf58d3167544121c78d568e3", func := "loop.example/g01109/laws.FnExactFrontBound", spec := "fnExactFrontBound", apart := false }
def FnExactFrontBoundSaid : Prop := fnExactFrontBoundRow.holds Try.pinned (OpenSpec.ofChange fnExactFrontBoundSpec)

/-- ITS FALSE NEIGHBOUR: 'it returns false'. Refute it at one input. -/
def fnExactFrontBoundWrong : ChangeSpec := { name := "fnExactFrontBound", fn := fun _ => fun
  | [d] => { results := [.lit (.bool false)], args := [d] }
  | _ => none }
def FnExactFrontBoundWrongFalsely : Prop := fnExactFrontBoundRow.holds Try.pinned (OpenSpec.ofChange fnExactFrontBoundWrong)

/-- 'laws.FnExactLeastCutwidth': WHATEVER THE INPUT: true; the input reads as it did. -/
def fnExactLeastCutwidthSpec : ChangeSpec := { name := "fnExactLeastCutwidth", fn := fun _ => fun
  | [d] => { results := [.lit (.bool true)], args := [d] }
  | _ => none }
def fnExactLeastCutwidthRow : OpenClaim := { program := "ytbbgbepemnmfdaa", sum := "7f5b8c8e141e9ed3e391e7b1726184872302e8b5bf58d3167544121c78d568e3", func := "loop.example/g01109/laws.FnExactLeastCutwidth", spec := "fnExactLeastCutwidth", unfollowed := true, recurses := true, apart := false }
def FnExactLeastCutwidthSaid : Prop := fnExactLeastCutwidthRow.holds Try.pinned (OpenSpec.ofChange fnExactLeastCutwidthSpec)

/-- ITS FALSE NEIGHBOUR: 'it returns false'. Refute it at one input. -/
def fnExactLeastCutwidthWrong : ChangeSpec := { name := "fnExactLeastCutwidth", fn := fun _ => fun
  | [d] => { results := [.lit (.bool false)], args := [d] }
  | _ => none }
def FnExactLeastCutwidthWrongFalsely : Prop := fnExactLeastCutwidthRow.holds Try.pinned (OpenSpec.ofChange fnExactLeastCutwidthWrong)

/-- 'laws.FnExactLeastBandwidth': WHATEVER THE INPUT: true; the input reads as it did. -/
def fnExactLeastBandwidthSpec : ChangeSpec := { name := "fnExactLeastBandwidth", fn := fun _ => fun
  | [d] => { results := [.lit (.bool true)], args := [d] }
  | _ => none }
def fnExactLeastBandwidthRow : OpenClaim := { program := "ytbbgbepemnmfdaa", sum := "7f5b8c8e141e9ed3e391e7b1726184872302e8b5bf58d3167544121c78d568e3", func := "loop.example/g01109/laws.FnExactLeastBandwidth", spec := "fnExactLeastBandwidth", unfollowed := true, recurses := true, apart := false }
def FnExactLeastBandwidthSaid : Prop := fnExactLeastBandwidthRow.holds Try.pinned (OpenSpec.ofChange fnExactLeastBandwidthSpec)

/-- ITS FALSE NEIGHBOUR: 'it returns false'. Refute it at one input. -/
def fnExactLeastBandwidthWrong : ChangeSpec := { name := "fnExactLeastBandwidth", fn := fun _ => fun
  | [d] => { results := [.lit (.bool false)], args := [d] }
  | _ => none }
def FnExactLeastBandwidthWrongFalsely : Prop := fnExactLeastBandwidthRow.holds Try.pinned (OpenSpec.ofChange fnExactLeastBandwidthWrong)

/-- 'laws.FnExactIsFirePlan': WHATEVER THE INPUT: true; the input reads as it did. -/
def fnExactIsFirePlanSpec : ChangeSpec := { name := "fnExactIsFirePlan", fn := fun _ => fun
  | [d1, d2, d3, d4] => { results := [.lit (.bool true)], args := [d1, d2, d3, d4] }
  | _ => none }
def fnExactIsFirePlanRow : OpenClaim := { program := "ytbbgbepemnmfdaa", sum := "7f5b8c8e141e9ed3e391e7b1726184872302e8b5bf58d3167544121c78d568e3", func := "loop.example/g01109/laws.FnExactIsFirePlan", spec := "fnExactIsFirePlan", apart := false }
def FnExactIsFirePlanSaid : Prop := fnExactIsFirePlanRow.holds Try.pinned (OpenSpec.ofChange fnExactIsFirePlanSpec)

/-- ITS FALSE NEIGHBOUR: 'it returns false'. Refute it at one input. -/
def fnExactIsFirePlanWrong : ChangeSpec := { name := "fnExactIsFirePlan", fn := fun _ => fun
  | [d1, d2, d3, d4] => { results := [.lit (.bool false)], args := [d1, d2, d3, d4] }
  | _ => none }
def FnExactIsFirePlanWrongFalsely : Prop := fnExactIsFirePlanRow.holds Try.pinned (OpenSpec.ofChange fnExactIsFirePlanWrong)

/-- 'laws.FnExactBurningSets': WHATEVER THE INPUT: true; the input reads as it did. -/
def fnExactBurningSetsSpec : ChangeSpec := { name := "fnExactBurningSets", fn := fun _ => fun
  | [d1, d2, d3, d4] => { results := [.lit (.bool true)], args := [d1, d2, d3, d4] }
  | _ => none }
def fnExactBurningSetsRow : OpenClaim := { program := "ytbbgbepemnmfdaa", sum := "7f5b8c8e141e9ed3e391e7b1726184872302e8b5bf58d3167544121c78d568e3", func := "loop.example/g01109/laws.FnExactBurningSets", spec := "fnExactBurningSets", unfollowed := true, recurses := true, apart := false }
def FnExactBurningSetsSaid : Prop := fnExactBurningSetsRow.holds Try.pinned (OpenSpec.ofChange fnExactBurningSetsSpec)

/-- ITS FALSE NEIGHBOUR: 'it returns false'. Refute it at one input. -/
def fnExactBurningSetsWrong : ChangeSpec := { name := "fnExactBurningSets", fn := fun _ => fun
  | [d1, d2, d3, d4] => { results := [.lit (.bool false)], args := [d1, d2, d3, d4] }
  | _ => none }
def FnExactBurningSetsWrongFalsely : Prop := fnExactBurningSetsRow.holds Try.pinned (OpenSpec.ofChange fnExactBurningSetsWrong)

/-- 'laws.FnExactSavedNodes': WHATEVER THE INPUT: true; the input reads as it did. -/
def fnExactSavedNodesSpec : ChangeSpec := { name := "fnExactSavedNodes", fn := fun _ => fun
  | [d1, d2, d3, d4] => { results := [.lit (.bool true)], args := [d1, d2, d3, d4] }
  | _ => none }
def fnExactSavedNodesRow : OpenClaim := { program := "ytbbgbepemnmfdaa", sum := "7f5b8c8e141e9ed3e391e7b1726184872302e8b5bf58d3167544121c78d568e3", func := "loop.example/g01109/laws.FnExactSavedNodes", spec := "fnExactSavedNodes", unfollowed := true, recurses := true, apart := false }
def FnExactSavedNodesSaid : Prop := fnExactSavedNodesRow.holds Try.pinned (OpenSpec.ofChange fnExactSavedNodesSpec)

/-- ITS FALSE NEIGHBOUR: 'it returns false'. Refute it at one input. -/
def fnExactSavedNodesWrong : ChangeSpec := { name := "fnExactSavedNodes", fn := fun _ => fun
  | [d1, d2, d3, d4] => { results := [.lit (.bool false)], args := [d1, d2, d3, d4] }
  | _ => none }
def FnExactSavedNodesWrongFalsely : Prop := fnExactSavedNodesRow.holds Try.pinned (OpenSpec.ofChange fnExactSavedNodesWrong)

/-- 'laws.FnExactIsCaptureProof': WHATEVER THE INPUT: true; the input reads as it did. -/
def fnExactIsCaptureProofSpec : ChangeSpec := { name := "fnExactIsCaptureProof", fn := fun _ => fun
  | [d1, d2, d3] => { results := [.lit (.bool true)], args := [d1, d2, d3] }
  | _ => none }
def fnExactIsCaptureProofRow : OpenClaim := { program := "ytbbgbepemnmfdaa", sum := "7f5b8c8e141e9ed3e391e7b1726184872302e8b5bf58d3167544121c78d568e3", func := "loop.example/g01109/laws.FnExactIsCaptureProof", spec := "fnExactIsCaptureProof", unfollowed := true, recurses := true, apart := false }
def FnExactIsCaptureProofSaid : Prop := fnExactIsCaptureProofRow.holds Try.pinned (OpenSpec.ofChange fnExactIsCaptureProofSpec)

/-- ITS FALSE NEIGHBOUR: 'it returns false'. Refute it at one input. -/
def fnExactIsCaptureProofWrong : ChangeSpec := { name := "fnExactIsCaptureProof", fn := fun _ => fun
  | [d1, d2, d3] => { results := [.lit (.bool false)], args := [d1, d2, d3] }
  | _ => none }
def FnExactIsCaptureProofWrongFalsely : Prop := fnExactIsCaptureProofRow.holds Try.pinned (OpenSpec.ofChange fnExactIsCaptureProofWrong)

/-- 'laws.FnExactLongestPath': WHATEVER THE INPUT: true; the input reads as it did. -/
def fnExactLongestPathSpec : ChangeSpec := { name := "fnExactLongestPath", fn := fun _ => fun
  | [d] => { results := [.lit (.bool true)], args := [d] }
  | _ => none }
def fnExactLongestPathRow : OpenClaim := { program := "ytbbgbepemnmfdaa", sum := "7f5b8c8e141e9ed3e391e7b1726184872302e8b5bf58d3167544121c78d568e3", func := "loop.example/g01109/laws.FnExactLongestPath", spec := "fnExactLongestPath", unfollowed := true, recurses := true, apart := false }
def FnExactLongestPathSaid : Prop := fnExactLongestPathRow.holds Try.pinned (OpenSpec.ofChange fnExactLongestPathSpec)

/-- ITS FALSE NEIGHBOUR: 'it returns false'. Refute it at one input. -/
def fnExactLongestPathWrong : ChangeSpec := { name := "fnExactLongestPath", fn := fun _ => fun
  | [d] => { results := [.lit (.bool false)], args := [d] }
  | _ => none }
def FnExactLongestPathWrongFalsely : Prop := fnExactLongestPathRow.holds Try.pinned (OpenSpec.ofChange fnExactLongestPathWrong)

/- THE SECOND FORM. 'bulk': how many values and letters a reading holds, each counted each time it is reached (what is shared counts as often as it is met; a slice's spare places count too). A statement '..UptoSaid' is the law's where the arguments, and the package variables that the reading takes, are together of bulk at most 1048576: NARROWER than '..Said'. Prove '..Said' where nothing that the law and all that it calls make is longer than what came in: it says more and counts as full. Else prove '..UptoSaid'. A law counts once. -/
mutual
def uptoBulk {H : Type} : DataW H → Nat
  | .lit (.string bytes) => bytes.length + 1
  | .lit _ => 1
  | .nil => 1
  | .ptr d => uptoBulk d + 1
  | .slice elems spare => uptoBulkAll elems + uptoBulkAll spare + 1
  | .agg parts => uptoBulkAll parts + 1
  | .iface _ d => uptoBulk d + 1
  | .map entries => uptoBulkEntries entries + 1
  | .held _ => 1
def uptoBulkAll {H : Type} : List (DataW H) → Nat
  | [] => 0
  | d :: r => uptoBulk d + uptoBulkAll r
def uptoBulkEntries {H : Type} : List (Lit × DataW H) → Nat
  | [] => 0
  | x :: r => uptoBulkEntry x + uptoBulkEntries r
def uptoBulkEntry {H : Type} : Lit × DataW H → Nat
  | (.string bytes, d) => bytes.length + uptoBulk d + 1
  | (_, d) => uptoBulk d + 1
 end
def uptoSmall : (H : Type) → List (DataW H) → Bool := fun _ ds => decide (uptoBulkAll ds ≤ 1048576)
def OpenSpec.upto (s : _root_.Go.ChangeSpec) : _root_.Go.OpenSpec := { _root_.Go.OpenSpec.ofChange s with cond := some uptoSmall }

/-- 'laws.FnExactCliqueOf', WHERE WHAT IT READS IS OF BULK AT MOST 1048576: true; the input reads as it did. -/
def fnExactCliqueOfUptoRow : OpenClaim := { program := "ytbbgbepemnmfdaa", sum := "7f5b8c8e141e9ed3e391e7b1726184872302e8b5bf58d3167544121c78d568e3", func := "loop.example/g01109/laws.FnExactCliqueOf", spec := "fnExactCliqueOf", unfollowed := true, recurses := true, apart := false, narrowed := true }
def FnExactCliqueOfUptoSaid : Prop := fnExactCliqueOfUptoRow.holds Try.pinned (OpenSpec.upto fnExactCliqueOfSpec)

/-- 'laws.FnExactDegeneracyOf', WHERE WHAT IT READS IS OF BULK AT MOST 1048576: true; the input reads as it did. -/
def fnExactDegeneracyOfUptoRow : OpenClaim := { program := "ytbbgbepemnmfdaa", sum := "7f5b8c8e141e9ed3e391e7b1726184872302e8b5bf58d3167544121c78d568e3", func := "loop.example/g01109/laws.FnExactDegeneracyOf", spec := "fnExactDegeneracyOf", unfollowed := true, recurses := true, apart := false, narrowed := true }
def FnExactDegeneracyOfUptoSaid : Prop := fnExactDegeneracyOfUptoRow.holds Try.pinned (OpenSpec.upto fnExactDegeneracyOfSpec)

/-- 'laws.FnExactFrontBound', WHERE WHAT IT READS IS OF BULK AT MOST 1048576: true; the input reads as it did. -/
def fnExactFrontBoundUptoRow : OpenClaim := { program := "ytbbgbepemnmfdaa", sum := "7f5b8c8e141e9ed3e391e7b1726184872302e8b5bf58d3167544121c78d568e3", func := "loop.example/g01109/laws.FnExactFrontBound", spec := "fnExactFrontBound", apart := false, narrowed := true }
def FnExactFrontBoundUptoSaid : Prop := fnExactFrontBoundUptoRow.holds Try.pinned (OpenSpec.upto fnExactFrontBoundSpec)

/-- 'laws.FnExactLeastCutwidth', WHERE WHAT IT READS IS OF BULK AT MOST 1048576: true; the input reads as it did. -/
def fnExactLeastCutwidthUptoRow : OpenClaim := { program := "ytbbgbepemnmfdaa", sum := "7f5b8c8e141e9ed3e391e7b1726184872302e8b5bf58d3167544121c78d568e3", func := "loop.example/g01109/laws.FnExactLeastCutwidth", spec := "fnExactLeastCutwidth", unfollowed := true, recurses := true, apart := false, narrowed := true }
def FnExactLeastCutwidthUptoSaid : Prop := fnExactLeastCutwidthUptoRow.holds Try.pinned (OpenSpec.upto fnExactLeastCutwidthSpec)

/-- 'laws.FnExactLeastBandwidth', WHERE WHAT IT READS IS OF BULK AT MOST 1048576: true; the input reads as it did. -/
def fnExactLeastBandwidthUptoRow : OpenClaim := { program := "ytbbgbepemnmfdaa", sum := "7f5b8c8e141e9ed3e391e7b1726184872302e8b5bf58d3167544121c78d568e3", func := "loop.example/g01109/laws.FnExactLeastBandwidth", spec := "fnExactLeastBandwidth", unfollowed := true, recurses := true, apart := false, narrowed := true }
def FnExactLeastBandwidthUptoSaid : Prop := fnExactLeastBandwidthUptoRow.holds Try.pinned (OpenSpec.upto fnExactLeastBandwidthSpec)

/-- 'laws.FnExactIsFirePlan', WHERE WHAT IT READS IS OF BULK AT MOST 1048576: true; the input reads as it did. -/
def fnExactIsFirePlanUptoRow : OpenClaim := { program := "ytbbgbepemnmfdaa", sum := "7f5b8c8e141e9ed3e391e7b1726184872302e8b5bf58d3167544121c78d568e3", func := "loop.example/g01109/laws.FnExactIsFirePlan", spec := "fnExactIsFirePlan", apart := false, narrowed := true }
def FnExactIsFirePlanUptoSaid : Prop := fnExactIsFirePlanUptoRow.holds Try.pinned (OpenSpec.upto fnExactIsFirePlanSpec)

/-- 'laws.FnExactBurningSets', WHERE WHAT IT READS IS OF BULK AT MOST 1048576: true; the input reads as it did. -/
def fnExactBurningSetsUptoRow : OpenClaim := { program := "ytbbgbepemnmfdaa", sum := "7f5b8c8e141e9ed3e391e7b1726184872302e8b5bf58d3167544121c78d568e3", func := "loop.example/g01109/laws.FnExactBurningSets", spec := "fnExactBurningSets", unfollowed := true, recurses := true, apart := false, narrowed := true }
def FnExactBurningSetsUptoSaid : Prop := fnExactBurningSetsUptoRow.holds Try.pinned (OpenSpec.upto fnExactBurningSetsSpec)

/-- 'laws.FnExactSavedNodes', WHERE WHAT IT READS IS OF BULK AT MOST 1048576: true; the input reads as it did. -/
def fnExactSavedNodesUptoRow : OpenClaim := { program := "ytbbgbepemnmfdaa", sum := "7f5b8c8e141e9ed3e391e7b1726184872302e8b5bf58d3167544121c78d568e3", func := "loop.example/g01109/laws.FnExactSavedNodes", spec := "fnExactSavedNodes", unfollowed := true, recurses := true, apart := false, narrowed := true }
def FnExactSavedNodesUptoSaid : Prop := fnExactSavedNodesUptoRow.holds Try.pinned (OpenSpec.upto fnExactSavedNodesSpec)

/-- 'laws.FnExactIsCaptureProof', WHERE WHAT IT READS IS OF BULK AT MOST 1048576: true; the input reads as it did. -/
def fnExactIsCaptureProofUptoRow : OpenClaim := { program := "ytbbgbepemnmfdaa", sum := "7f5b8c8e141e9ed3e391e7b1726184872302e8b5bf58d3167544121c78d568e3", func := "loop.example/g01109/laws.FnExactIsCaptureProof", spec := "fnExactIsCaptureProof", unfollowed := true, recurses := true, apart := false, narrowed := true }
def FnExactIsCaptureProofUptoSaid : Prop := fnExactIsCaptureProofUptoRow.holds Try.pinned (OpenSpec.upto fnExactIsCaptureProofSpec)

/-- 'laws.FnExactLongestPath', WHERE WHAT IT READS IS OF BULK AT MOST 1048576: true; the input reads as it did. -/
def fnExactLongestPathUptoRow : OpenClaim := { program := "ytbbgbepemnmfdaa", sum := "7f5b8c8e141e9ed3e391e7b1726184872302e8b5bf58d3167544121c78d568e3", func := "loop.example/g01109/laws.FnExactLongestPath", spec := "fnExactLongestPath", unfollowed := true, recurses := true, apart := false, narrowed := true }
def FnExactLongestPathUptoSaid : Prop := fnExactLongestPathUptoRow.holds Try.pinned (OpenSpec.upto fnExactLongestPathSpec)

end Rows
end Go.Proofs.Ytbbgbepemnmfdaa
