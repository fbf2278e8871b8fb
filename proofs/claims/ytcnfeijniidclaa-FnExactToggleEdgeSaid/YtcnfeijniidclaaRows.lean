/-
  No cell of these rows narrows 'for every input' (looked for: loops, veiled, ifaces, maps, wideKeys, modest, calm, conditions, laid).
  DERIVED. THE GIVEN ROWS OF THIS SEAT. 10 by the template 'for every input the law returns true; each argument reads behind the call as it read before'; 0 by the template 'total and deterministic' (their statements: YtcnfeijniidclaaTotals.lean).
  GIVEN WITH THE SEED: the statements are not yours to turn. If you find one false, say at which input.
  Laid BY PROGRAM, IN A SANDBOX (cutbox-rows.mjs): the forced cells as the released guide's own fill.sh prints them over the translation bdd546c86cc8e643… (all of the seat's roots in one cut). By AI agents, Wed Nov 11 2026. No macro, syntax, notation, axiom, sorry.
-/
import Derived.Test.YtcnfeijniidclaaChecked
import GoSem.Claim
import GoSem.ClaimJoined
import GoSem.ClaimMapViews
import Derived.JoinedTies
import Derived.KernelRfl
namespace Go.Proofs.Ytcnfeijniidclaa
/- THE CELL 'sum', in the pinned program and in every row, IS THE sha256 OF THE DUMP (.gsa) THAT YtcnfeijniidclaaProg.lean LOADS. Nothing in Lean hashes anything: it is a label: what it is worth is what the hold of that sum in a sandbox is worth. -/
noncomputable def Try.pinned : Pinned := { name := "ytcnfeijniidclaa", sum := "bdd546c86cc8e64345977ec9de99cd93b3f1371e91936a0dbd6420f0691c8b08", checked := Try.checked }
namespace Rows
def none {H : Type} : Left H := { results := [], args := [] }

/-- 'laws.FnExactBallOf': WHATEVER THE INPUT: true; the input reads as it did. -/
def fnExactBallOfSpec : ChangeSpec := { name := "fnExactBallOf", fn := fun _ => fun
  | [d1, d2, d3] => { results := [.lit (.bool true)], args := [d1, d2, d3] }
  | _ => none }
def fnExactBallOfRow : OpenClaim := { program := "ytcnfeijniidclaa", sum := "bdd546c86cc8e64345977ec9de99cd93b3f1371e91936a0dbd6420f0691c8b08", func := "loop.example/g01109/laws.FnExactBallOf", spec := "fnExactBallOf", unfollowed := true, recurses := true, plainKeys := false, apart := false }
def FnExactBallOfSaid : Prop := fnExactBallOfRow.holds Try.pinned (OpenSpec.ofChange fnExactBallOfSpec)

/-- ITS FALSE NEIGHBOUR: 'it returns false'. Refute it at one input. -/
def fnExactBallOfWrong : ChangeSpec := { name := "fnExactBallOf", fn := fun _ => fun
  | [d1, d2, d3] => { results := [.lit (.bool false)], args := [d1, d2, d3] }
  | _ => none }
def FnExactBallOfWrongFalsely : Prop := fnExactBallOfRow.holds Try.pinned (OpenSpec.ofChange fnExactBallOfWrong)

/-- 'laws.FnExactDistancesOf': WHATEVER THE INPUT: true; the input reads as it did. -/
def fnExactDistancesOfSpec : ChangeSpec := { name := "fnExactDistancesOf", fn := fun _ => fun
  | [d] => { results := [.lit (.bool true)], args := [d] }
  | _ => none }
def fnExactDistancesOfRow : OpenClaim := { program := "ytcnfeijniidclaa", sum := "bdd546c86cc8e64345977ec9de99cd93b3f1371e91936a0dbd6420f0691c8b08", func := "loop.example/g01109/laws.FnExactDistancesOf", spec := "fnExactDistancesOf", unfollowed := true, recurses := true, plainKeys := false, apart := false }
def FnExactDistancesOfSaid : Prop := fnExactDistancesOfRow.holds Try.pinned (OpenSpec.ofChange fnExactDistancesOfSpec)

/-- ITS FALSE NEIGHBOUR: 'it returns false'. Refute it at one input. -/
def fnExactDistancesOfWrong : ChangeSpec := { name := "fnExactDistancesOf", fn := fun _ => fun
  | [d] => { results := [.lit (.bool false)], args := [d] }
  | _ => none }
def FnExactDistancesOfWrongFalsely : Prop := fnExactDistancesOfRow.holds Try.pinned (OpenSpec.ofChange fnExactDistancesOfWrong)

/-- 'laws.FnExactRadiusOf': WHATEVER THE INPUT: true; the input reads as it did. -/
def fnExactRadiusOfSpec : ChangeSpec := { name := "fnExactRadiusOf", fn := fun _ => fun
  | [d] => { results := [.lit (.bool true)], args := [d] }
  | _ => none }
def fnExactRadiusOfRow : OpenClaim := { program := "ytcnfeijniidclaa", sum := "bdd546c86cc8e64345977ec9de99cd93b3f1371e91936a0dbd6420f0691c8b08", func := "loop.example/g01109/laws.FnExactRadiusOf", spec := "fnExactRadiusOf", unfollowed := true, recurses := true, plainKeys := false, apart := false }
def FnExactRadiusOfSaid : Prop := fnExactRadiusOfRow.holds Try.pinned (OpenSpec.ofChange fnExactRadiusOfSpec)

/-- ITS FALSE NEIGHBOUR: 'it returns false'. Refute it at one input. -/
def fnExactRadiusOfWrong : ChangeSpec := { name := "fnExactRadiusOf", fn := fun _ => fun
  | [d] => { results := [.lit (.bool false)], args := [d] }
  | _ => none }
def FnExactRadiusOfWrongFalsely : Prop := fnExactRadiusOfRow.holds Try.pinned (OpenSpec.ofChange fnExactRadiusOfWrong)

/-- 'laws.FnExactToggleEdge': WHATEVER THE INPUT: true; the input reads as it did. -/
def fnExactToggleEdgeSpec : ChangeSpec := { name := "fnExactToggleEdge", fn := fun _ => fun
  | [d1, d2, d3] => { results := [.lit (.bool true)], args := [d1, d2, d3] }
  | _ => none }
def fnExactToggleEdgeRow : OpenClaim := { program := "ytcnfeijniidclaa", sum := "bdd546c86cc8e64345977ec9de99cd93b3f1371e91936a0dbd6420f0691c8b08", func := "loop.example/g01109/laws.FnExactToggleEdge", spec := "fnExactToggleEdge", unfollowed := true, recurses := true, plainKeys := false, apart := false }
def FnExactToggleEdgeSaid : Prop := fnExactToggleEdgeRow.holds Try.pinned (OpenSpec.ofChange fnExactToggleEdgeSpec)

/-- ITS FALSE NEIGHBOUR: 'it returns false'. Refute it at one input. -/
def fnExactToggleEdgeWrong : ChangeSpec := { name := "fnExactToggleEdge", fn := fun _ => fun
  | [d1, d2, d3] => { results := [.lit (.bool false)], args := [d1, d2, d3] }
  | _ => none }
def FnExactToggleEdgeWrongFalsely : Prop := fnExactToggleEdgeRow.holds Try.pinned (OpenSpec.ofChange fnExactToggleEdgeWrong)

/-- 'laws.FnExactPutBeside': WHATEVER THE INPUT: true; the input reads as it did. -/
def fnExactPutBesideSpec : ChangeSpec := { name := "fnExactPutBeside", fn := fun _ => fun
  | [d1, d2] => { results := [.lit (.bool true)], args := [d1, d2] }
  | _ => none }
def fnExactPutBesideRow : OpenClaim := { program := "ytcnfeijniidclaa", sum := "bdd546c86cc8e64345977ec9de99cd93b3f1371e91936a0dbd6420f0691c8b08", func := "loop.example/g01109/laws.FnExactPutBeside", spec := "fnExactPutBeside", unfollowed := true, recurses := true, plainKeys := false, apart := false }
def FnExactPutBesideSaid : Prop := fnExactPutBesideRow.holds Try.pinned (OpenSpec.ofChange fnExactPutBesideSpec)

/-- ITS FALSE NEIGHBOUR: 'it returns false'. Refute it at one input. -/
def fnExactPutBesideWrong : ChangeSpec := { name := "fnExactPutBeside", fn := fun _ => fun
  | [d1, d2] => { results := [.lit (.bool false)], args := [d1, d2] }
  | _ => none }
def FnExactPutBesideWrongFalsely : Prop := fnExactPutBesideRow.holds Try.pinned (OpenSpec.ofChange fnExactPutBesideWrong)

/-- 'laws.FnExactRenameNodes': WHATEVER THE INPUT: true; the input reads as it did. -/
def fnExactRenameNodesSpec : ChangeSpec := { name := "fnExactRenameNodes", fn := fun _ => fun
  | [d1, d2] => { results := [.lit (.bool true)], args := [d1, d2] }
  | _ => none }
def fnExactRenameNodesRow : OpenClaim := { program := "ytcnfeijniidclaa", sum := "bdd546c86cc8e64345977ec9de99cd93b3f1371e91936a0dbd6420f0691c8b08", func := "loop.example/g01109/laws.FnExactRenameNodes", spec := "fnExactRenameNodes", unfollowed := true, recurses := true, plainKeys := false, apart := false }
def FnExactRenameNodesSaid : Prop := fnExactRenameNodesRow.holds Try.pinned (OpenSpec.ofChange fnExactRenameNodesSpec)

/-- ITS FALSE NEIGHBOUR: 'it returns false'. Refute it at one input. -/
def fnExactRenameNodesWrong : ChangeSpec := { name := "fnExactRenameNodes", fn := fun _ => fun
  | [d1, d2] => { results := [.lit (.bool false)], args := [d1, d2] }
  | _ => none }
def FnExactRenameNodesWrongFalsely : Prop := fnExactRenameNodesRow.holds Try.pinned (OpenSpec.ofChange fnExactRenameNodesWrong)

/-- 'laws.FnExactCopTimes': WHATEVER THE INPUT: true; the input reads as it did. -/
def fnExactCopTimesSpec : ChangeSpec := { name := "fnExactCopTimes", fn := fun _ => fun
  | [d] => { results := [.lit (.bool true)], args := [d] }
  | _ => none }
def fnExactCopTimesRow : OpenClaim := { program := "ytcnfeijniidclaa", sum := "bdd546c86cc8e64345977ec9de99cd93b3f1371e91936a0dbd6420f0691c8b08", func := "loop.example/g01109/laws.FnExactCopTimes", spec := "fnExactCopTimes", unfollowed := true, recurses := true, plainKeys := false, apart := false }
def FnExactCopTimesSaid : Prop := fnExactCopTimesRow.holds Try.pinned (OpenSpec.ofChange fnExactCopTimesSpec)

/-- ITS FALSE NEIGHBOUR: 'it returns false'. Refute it at one input. -/
def fnExactCopTimesWrong : ChangeSpec := { name := "fnExactCopTimes", fn := fun _ => fun
  | [d] => { results := [.lit (.bool false)], args := [d] }
  | _ => none }
def FnExactCopTimesWrongFalsely : Prop := fnExactCopTimesRow.holds Try.pinned (OpenSpec.ofChange fnExactCopTimesWrong)

/-- 'laws.FnExactOneCopWins': WHATEVER THE INPUT: true; the input reads as it did. -/
def fnExactOneCopWinsSpec : ChangeSpec := { name := "fnExactOneCopWins", fn := fun _ => fun
  | [d] => { results := [.lit (.bool true)], args := [d] }
  | _ => none }
def fnExactOneCopWinsRow : OpenClaim := { program := "ytcnfeijniidclaa", sum := "bdd546c86cc8e64345977ec9de99cd93b3f1371e91936a0dbd6420f0691c8b08", func := "loop.example/g01109/laws.FnExactOneCopWins", spec := "fnExactOneCopWins", unfollowed := true, recurses := true, plainKeys := false, apart := false }
def FnExactOneCopWinsSaid : Prop := fnExactOneCopWinsRow.holds Try.pinned (OpenSpec.ofChange fnExactOneCopWinsSpec)

/-- ITS FALSE NEIGHBOUR: 'it returns false'. Refute it at one input. -/
def fnExactOneCopWinsWrong : ChangeSpec := { name := "fnExactOneCopWins", fn := fun _ => fun
  | [d] => { results := [.lit (.bool false)], args := [d] }
  | _ => none }
def FnExactOneCopWinsWrongFalsely : Prop := fnExactOneCopWinsRow.holds Try.pinned (OpenSpec.ofChange fnExactOneCopWinsWrong)

/-- 'laws.FnExactCaptureTime': WHATEVER THE INPUT: true; the input reads as it did. -/
def fnExactCaptureTimeSpec : ChangeSpec := { name := "fnExactCaptureTime", fn := fun _ => fun
  | [d] => { results := [.lit (.bool true)], args := [d] }
  | _ => none }
def fnExactCaptureTimeRow : OpenClaim := { program := "ytcnfeijniidclaa", sum := "bdd546c86cc8e64345977ec9de99cd93b3f1371e91936a0dbd6420f0691c8b08", func := "loop.example/g01109/laws.FnExactCaptureTime", spec := "fnExactCaptureTime", unfollowed := true, recurses := true, plainKeys := false, apart := false }
def FnExactCaptureTimeSaid : Prop := fnExactCaptureTimeRow.holds Try.pinned (OpenSpec.ofChange fnExactCaptureTimeSpec)

/-- ITS FALSE NEIGHBOUR: 'it returns false'. Refute it at one input. -/
def fnExactCaptureTimeWrong : ChangeSpec := { name := "fnExactCaptureTime", fn := fun _ => fun
  | [d] => { results := [.lit (.bool false)], args := [d] }
  | _ => none }
def FnExactCaptureTimeWrongFalsely : Prop := fnExactCaptureTimeRow.holds Try.pinned (OpenSpec.ofChange fnExactCaptureTimeWrong)

/-- 'laws.FnExactGuardedNodes': WHATEVER THE INPUT: true; the input reads as it did. -/
def fnExactGuardedNodesSpec : ChangeSpec := { name := "fnExactGuardedNodes", fn := fun _ => fun
  | [d1, d2] => { results := [.lit (.bool true)], args := [d1, d2] }
  | _ => none }
def fnExactGuardedNodesRow : OpenClaim := { program := "ytcnfeijniidclaa", sum := "bdd546c86cc8e64345977ec9de99cd93b3f1371e91936a0dbd6420f0691c8b08", func := "loop.example/g01109/laws.FnExactGuardedNodes", spec := "fnExactGuardedNodes", unfollowed := true, recurses := true, plainKeys := false, apart := false }
def FnExactGuardedNodesSaid : Prop := fnExactGuardedNodesRow.holds Try.pinned (OpenSpec.ofChange fnExactGuardedNodesSpec)

/-- ITS FALSE NEIGHBOUR: 'it returns false'. Refute it at one input. -/
def fnExactGuardedNodesWrong : ChangeSpec := { name := "fnExactGuardedNodes", fn := fun _ => fun
  | [d1, d2] => { results := [.lit (.bool false)], args := [d1, d2] }
  | _ => none }
def FnExactGuardedNodesWrongFalsely : Prop := fnExactGuardedNodesRow.holds Try.pinned (OpenSpec.ofChange fnExactGuardedNodesWrong)

/- THE SECOND FORM. 'bulk': how many values and letters a reading holds, each counted each time it is reached (what is shared counts as often as it is met; a slice's spare places count too). A statement '..UptoSaid' is the law's where the arguments, and the package variables that the reading takes, are together of bulk at most 1048576: NARROWER than '..Said'. Prove '..Said' where nothing that the law and all that it calls make is longer than what came in: it says more and counts as full. Else prove '..UptoSaid'. A law counts once. -/
mutual
def uptoBulk {H : Type} : DataW H → Nat
  | .lit (.string bytes) => bytes.length + 1
  | .lit _ => 1
  | .nil => 1
  | .ptr d => uptoBulk d + 1
  | .slice elems spare => uptoBulkAll elems + uptoBulkAll spare + 1
  | .agg parts => uptoBulkAll parts + 1
  | .iface _ d => uptoBulk d + 1
  | .map entries => uptoBulkEntries entries + 1
  | .held _ => 1
def uptoBulkAll {H : Type} : List (DataW H) → Nat
  | [] => 0
  | d :: r => uptoBulk d + uptoBulkAll r
def uptoBulkEntries {H : Type} : List (Lit × DataW H) → Nat
  | [] => 0
  | x :: r => uptoBulkEntry x + uptoBulkEntries r
def uptoBulkEntry {H : Type} : Lit × DataW H → Nat
  | (.string bytes, d) => bytes.length + uptoBulk d + 1
  | (_, d) => uptoBulk d + 1
 end
def uptoSmall : (H : Type) → List (DataW H) → Bool := fun _ ds => decide (uptoBulkAll ds ≤ 1048576)
def OpenSpec.upto (s : _root_.Go.ChangeSpec) : _root_.Go.OpenSpec := { _root_.Go.OpenSpec.ofChange s with cond := some uptoSmall }

/-- 'laws.FnExactBallOf', WHERE WHAT IT READS IS OF BULK AT MOST 1048576: true; the input reads as it did. -/
def fnExactBallOfUptoRow : OpenClaim := { program := "ytcnfeijniidclaa", sum := "bdd546c86cc8e64345977ec9de99cd93b3f1371e91936a0dbd6420f0691c8b08", func := "loop.example/g01109/laws.FnExactBallOf", spec := "fnExactBallOf", unfollowed := true, recurses := true, plainKeys := false, apart := false, narrowed := true }
def FnExactBallOfUptoSaid : Prop := fnExactBallOfUptoRow.holds Try.pinned (OpenSpec.upto fnExactBallOfSpec)

/-- 'laws.FnExactDistancesOf', WHERE WHAT IT READS IS OF BULK AT MOST 1048576: true; the input reads as it did. -/
def fnExactDistancesOfUptoRow : OpenClaim := { program := "ytcnfeijniidclaa", sum := "bdd546c86cc8e64345977ec9de99cd93b3f1371e91936a0dbd6420f0691c8b08", func := "loop.example/g01109/laws.FnExactDistancesOf", spec := "fnExactDistancesOf", unfollowed := true, recurses := true, plainKeys := false, apart := false, narrowed := true }
def FnExactDistancesOfUptoSaid : Prop := fnExactDistancesOfUptoRow.holds Try.pinned (OpenSpec.upto fnExactDistancesOfSpec)

/-- 'laws.FnExactRadiusOf', WHERE WHAT IT READS IS OF BULK AT MOST 1048576: true; the input reads as it did. -/
def fnExactRadiusOfUptoRow : OpenClaim := { program := "ytcnfeijniidclaa", sum := "bdd546c86cc8e64345977ec9de99cd93b3f1371e91936a0dbd6420f0691c8b08", func := "loop.example/g01109/laws.FnExactRadiusOf", spec := "fnExactRadiusOf", unfollowed := true, recurses := true, plainKeys := false, apart := false, narrowed := true }
def FnExactRadiusOfUptoSaid : Prop := fnExactRadiusOfUptoRow.holds Try.pinned (OpenSpec.upto fnExactRadiusOfSpec)

/-- 'laws.FnExactToggleEdge', WHERE WHAT IT READS IS OF BULK AT MOST 1048576: true; the input reads as it did. -/
def fnExactToggleEdgeUptoRow : OpenClaim := { program := "ytcnfeijniidclaa", sum := "bdd546c86cc8e64345977ec9de99cd93b3f1371e91936a0dbd6420f0691c8b08", func := "loop.example/g01109/laws.FnExactToggleEdge", spec := "fnExactToggleEdge", unfollowed := true, recurses := true, plainKeys := false, apart := false, narrowed := true }
def FnExactToggleEdgeUptoSaid : Prop := fnExactToggleEdgeUptoRow.holds Try.pinned (OpenSpec.upto fnExactToggleEdgeSpec)

/-- 'laws.FnExactPutBeside', WHERE WHAT IT READS IS OF BULK AT MOST 1048576: true; the input reads as it did. -/
def fnExactPutBesideUptoRow : OpenClaim := { program := "ytcnfeijniidclaa", sum := "bdd546c86cc8e64345977ec9de99cd93b3f1371e91936a0dbd6420f0691c8b08", func := "loop.example/g01109/laws.FnExactPutBeside", spec := "fnExactPutBeside", unfollowed := true, recurses := true, plainKeys := false, apart := false, narrowed := true }
def FnExactPutBesideUptoSaid : Prop := fnExactPutBesideUptoRow.holds Try.pinned (OpenSpec.upto fnExactPutBesideSpec)

/-- 'laws.FnExactRenameNodes', WHERE WHAT IT READS IS OF BULK AT MOST 1048576: true; the input reads as it did. -/
def fnExactRenameNodesUptoRow : OpenClaim := { program := "ytcnfeijniidclaa", sum := "bdd546c86cc8e64345977ec9de99cd93b3f1371e91936a0dbd6420f0691c8b08", func := "loop.example/g01109/laws.FnExactRenameNodes", spec := "fnExactRenameNodes", unfollowed := true, recurses := true, plainKeys := false, apart := false, narrowed := true }
def FnExactRenameNodesUptoSaid : Prop := fnExactRenameNodesUptoRow.holds Try.pinned (OpenSpec.upto fnExactRenameNodesSpec)

/-- 'laws.FnExactCopTimes', WHERE WHAT IT READS IS OF BULK AT MOST 1048576: true; the input reads as it did. -/
def fnExactCopTimesUptoRow : OpenClaim := { program := "ytcnfeijniidclaa", sum := "bdd546c86cc8e64345977ec9de99cd93b3f1371e91936a0dbd6420f0691c8b08", func := "loop.example/g01109/laws.FnExactCopTimes", spec := "fnExactCopTimes", unfollowed := true, recurses := true, plainKeys := false, apart := false, narrowed := true }
def FnExactCopTimesUptoSaid : Prop := fnExactCopTimesUptoRow.holds Try.pinned (OpenSpec.upto fnExactCopTimesSpec)

/-- 'laws.FnExactOneCopWins', WHERE WHAT IT READS IS OF BULK AT MOST 1048576: true; the input reads as it did. -/
def fnExactOneCopWinsUptoRow : OpenClaim := { program := "ytcnfeijniidclaa", sum := "bdd546c86cc8e64345977ec9de99cd93b3f1371e91936a0dbd6420f0691c8b08", func := "loop.example/g01109/laws.FnExactOneCopWins", spec := "fnExactOneCopWins", unfollowed := true, recurses := true, plainKeys := false, apart := false, narrowed := true }
def FnExactOneCopWinsUptoSaid : Prop := fnExactOneCopWinsUptoRow.holds Try.pinned (OpenSpec.upto fnExactOneCopWinsSpec)

/-- 'laws.FnExactCaptureTime', WHERE WHAT IT READS IS OF BULK AT MOST 1048576: true; the input reads as it did. -/
def fnExactCaptureTimeUptoRow : OpenClaim := { program := "ytcnfeijniidclaa", sum := "bdd546c86cc8e64345977ec9de99cd93b3f1371e91936a0dbd6420f0691c8b08", func := "loop.example/g01109/laws.FnExactCaptureTime", spec := "fnExactCaptureTime", unfollowed := true, recurses := true, plainKeys := false, apart := false, narrowed := true }
def FnExactCaptureTimeUptoSaid : Prop := fnExactCaptureTimeUptoRow.holds Try.pinned (OpenSpec.upto fnExactCaptureTimeSpec)

/-- 'laws.FnExactGuardedNodes', WHERE WHAT IT READS IS OF BULK AT MOST 1048576: true; the input reads as it did. -/
def fnExactGuardedNodesUptoRow : OpenClaim := { program := "ytcnfeijniidclaa", sum := "bdd546c86cc8e64345977ec9de99cd93b3f1371e91936a0dbd6420f0691c8b08", func := "loop.example/g01109/laws.FnExactGuardedNodes", spec := "fnExactGuardedNodes", unfollowed := true, recurses := true, plainKeys := false, apart := false, narrowed := true }
def FnExactGuardedNodesUptoSaid : Prop := fnExactGuardedNodesUptoRow.holds Try.pinned (OpenSpec.upto fnExactGuardedNodesSpec)

end Rows
end Go.Proofs.Ytcnfeijniidclaa
