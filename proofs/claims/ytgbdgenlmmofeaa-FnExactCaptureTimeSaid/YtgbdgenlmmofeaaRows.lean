/-
  No cell of these rows narrows 'for every input' (looked for: loops, veiled, ifaces, maps, wideKeys, modest, calm, conditions, laid).
  DERIVED. THE GIVEN ROWS OF THIS SEAT. 8 by the template 'for every input the law returns true; each argument reads behind the call as it read before'; 0 by the template 'total and deterministic' (their statements: YtgbdgenlmmofeaaTotals.lean).
  GIVEN WITH THE SEED: the statements are not yours to turn. If you find one false, say at which input.
  Laid BY PROGRAM, IN A SANDBOX (cutbox-rows.mjs): the forced cells as the released guide's own fill.sh prints them over the translation fdd6d2178b58f733… (all of the seat's roots in one cut). By AI agents, Wed Nov 11 2026. No macro, syntax, notation, axiom, sorry.
-/
import Derived.Test.YtgbdgenlmmofeaaChecked
import GoSem.Claim
import GoSem.ClaimJoined
import GoSem.ClaimMapViews
import Derived.JoinedTies
import Derived.KernelRfl
namespace Go.Proofs.Ytgbdgenlmmofeaa
/- THE CELL 'sum', in the pinned program and in every row, IS THE sha256 OF THE DUMP (.gsa) THAT YtgbdgenlmmofeaaProg.lean LOADS. Nothing in Lean hashes anything: it is a label: what it is worth is what the hold of that sum in a sandbox is worth. -/
noncomputable def Try.pinned : Pinned := { name := "ytgbdgenlmmofeaa", sum := "fdd6d2178b58f733d6bf77da94ad840fe7c467cc5abe05a11b005db8fdb7238c", checked := Try.checked }
namespace Rows
def none {H : Type} : Left H := { results := [], args := [] }

/-- 'laws.FnExactFirstWay': WHATEVER THE INPUT: true; the input reads as it did. -/
def fnExactFirstWaySpec : ChangeSpec := { name := "fnExactFirstWay", fn := fun _ => fun
  | [d1, d2, d3] => { results := [.lit (.bool true)], args := [d1, d2, d3] }
  | _ => none }
def fnExactFirstWayRow : OpenClaim := { program := "ytgbdgenlmmofeaa", sum := "fdd6d2178b58f733d6bf77da94ad840fe7c467cc5abe05a11b005db8fdb7238c", func := "loop.example/g01109/laws.FnExactFirstWay", spec := "fnExactFirstWay", unfollowed := true, recurses := true, plainKeys := false, apart := false }
def FnExactFirstWaySaid : Prop := fnExactFirstWayRow.holds Try.pinned (OpenSpec.ofChange fnExactFirstWaySpec)

/-- ITS FALSE NEIGHBOUR: 'it returns false'. Refute it at one input. -/
def fnExactFirstWayWrong : ChangeSpec := { name := "fnExactFirstWay", fn := fun _ => fun
  | [d1, d2, d3] => { results := [.lit (.bool false)], args := [d1, d2, d3] }
  | _ => none }
def FnExactFirstWayWrongFalsely : Prop := fnExactFirstWayRow.holds Try.pinned (OpenSpec.ofChange fnExactFirstWayWrong)

/-- 'laws.FnExactCopTimes': WHATEVER THE INPUT: true; the input reads as it did. -/
def fnExactCopTimesSpec : ChangeSpec := { name := "fnExactCopTimes", fn := fun _ => fun
  | [d] => { results := [.lit (.bool true)], args := [d] }
  | _ => none }
def fnExactCopTimesRow : OpenClaim := { program := "ytgbdgenlmmofeaa", sum := "fdd6d2178b58f733d6bf77da94ad840fe7c467cc5abe05a11b005db8fdb7238c", func := "loop.example/g01109/laws.FnExactCopTimes", spec := "fnExactCopTimes", unfollowed := true, recurses := true, plainKeys := false, apart := false }
def FnExactCopTimesSaid : Prop := fnExactCopTimesRow.holds Try.pinned (OpenSpec.ofChange fnExactCopTimesSpec)

/-- ITS FALSE NEIGHBOUR: 'it returns false'. Refute it at one input. -/
def fnExactCopTimesWrong : ChangeSpec := { name := "fnExactCopTimes", fn := fun _ => fun
  | [d] => { results := [.lit (.bool false)], args := [d] }
  | _ => none }
def FnExactCopTimesWrongFalsely : Prop := fnExactCopTimesRow.holds Try.pinned (OpenSpec.ofChange fnExactCopTimesWrong)

/-- 'laws.FnExactOneCopWins': WHATEVER THE INPUT: true; the input reads as it did. -/
def fnExactOneCopWinsSpec : ChangeSpec := { name := "fnExactOneCopWins", fn := fun _ => fun
  | [d] => { results := [.lit (.bool true)], args := [d] }
  | _ => none }
def fnExactOneCopWinsRow : OpenClaim := { program := "ytgbdgenlmmofeaa", sum := "fdd6d2178b58f733d6bf77da94ad840fe7c467cc5abe05a11b005db8fdb7238c", func := "loop.example/g01109/laws.FnExactOneCopWins", spec := "fnExactOneCopWins", unfollowed := true, recurses := true, plainKeys := false, apart := false }
def FnExactOneCopWinsSaid : Prop := fnExactOneCopWinsRow.holds Try.pinned (OpenSpec.ofChange fnExactOneCopWinsSpec)

/-- ITS FALSE NEIGHBOUR: 'it returns false'. Refute it at one input. -/
def fnExactOneCopWinsWrong : ChangeSpec := { name := "fnExactOneCopWins", fn := fun _ => fun
  | [d] => { results := [.lit (.bool false)], args := [d] }
  | _ => none }
def FnExactOneCopWinsWrongFalsely : Prop := fnExactOneCopWinsRow.holds Try.pinned (OpenSpec.ofChange fnExactOneCopWinsWrong)

/-- 'laws.FnExactCaptureTime': WHATEVER THE INPUT: true; the input reads as it did. -/
def fnExactCaptureTimeSpec : ChangeSpec := { name := "fnExactCaptureTime", fn := fun _ => fun
  | [d] => { results := [.lit (.bool true)], args := [d] }
  | _ => none }
def fnExactCaptureTimeRow : OpenClaim := { program := "ytgbdgenlmmofeaa", sum := "fdd6d2178b58f733d6bf77da94ad840fe7c467cc5abe05a11b005db8fdb7238c", func := "loop.example/g01109/laws.FnExactCaptureTime", spec := "fnExactCaptureTime", unfollowed := true, recurses := true, plainKeys := false, apart := false }
def FnExactCaptureTimeSaid : Prop := fnExactCaptureTimeRow.holds Try.pinned (OpenSpec.ofChange fnExactCaptureTimeSpec)

/-- ITS FALSE NEIGHBOUR: 'it returns false'. Refute it at one input. -/
def fnExactCaptureTimeWrong : ChangeSpec := { name := "fnExactCaptureTime", fn := fun _ => fun
  | [d] => { results := [.lit (.bool false)], args := [d] }
  | _ => none }
def FnExactCaptureTimeWrongFalsely : Prop := fnExactCaptureTimeRow.holds Try.pinned (OpenSpec.ofChange fnExactCaptureTimeWrong)

/-- 'laws.FnExactGuardedNodes': WHATEVER THE INPUT: true; the input reads as it did. -/
def fnExactGuardedNodesSpec : ChangeSpec := { name := "fnExactGuardedNodes", fn := fun _ => fun
  | [d1, d2] => { results := [.lit (.bool true)], args := [d1, d2] }
  | _ => none }
def fnExactGuardedNodesRow : OpenClaim := { program := "ytgbdgenlmmofeaa", sum := "fdd6d2178b58f733d6bf77da94ad840fe7c467cc5abe05a11b005db8fdb7238c", func := "loop.example/g01109/laws.FnExactGuardedNodes", spec := "fnExactGuardedNodes", unfollowed := true, recurses := true, plainKeys := false, apart := false }
def FnExactGuardedNodesSaid : Prop := fnExactGuardedNodesRow.holds Try.pinned (OpenSpec.ofChange fnExactGuardedNodesSpec)

/-- ITS FALSE NEIGHBOUR: 'it returns false'. Refute it at one input. -/
def fnExactGuardedNodesWrong : ChangeSpec := { name := "fnExactGuardedNodes", fn := fun _ => fun
  | [d1, d2] => { results := [.lit (.bool false)], args := [d1, d2] }
  | _ => none }
def FnExactGuardedNodesWrongFalsely : Prop := fnExactGuardedNodesRow.holds Try.pinned (OpenSpec.ofChange fnExactGuardedNodesWrong)

/-- 'laws.FnExactFillingOf': WHATEVER THE INPUT: true; the input reads as it did. -/
def fnExactFillingOfSpec : ChangeSpec := { name := "fnExactFillingOf", fn := fun _ => fun
  | [d1, d2] => { results := [.lit (.bool true)], args := [d1, d2] }
  | _ => none }
def fnExactFillingOfRow : OpenClaim := { program := "ytgbdgenlmmofeaa", sum := "fdd6d2178b58f733d6bf77da94ad840fe7c467cc5abe05a11b005db8fdb7238c", func := "loop.example/g01109/laws.FnExactFillingOf", spec := "fnExactFillingOf", unfollowed := true, recurses := true, plainKeys := false, apart := false }
def FnExactFillingOfSaid : Prop := fnExactFillingOfRow.holds Try.pinned (OpenSpec.ofChange fnExactFillingOfSpec)

/-- ITS FALSE NEIGHBOUR: 'it returns false'. Refute it at one input. -/
def fnExactFillingOfWrong : ChangeSpec := { name := "fnExactFillingOf", fn := fun _ => fun
  | [d1, d2] => { results := [.lit (.bool false)], args := [d1, d2] }
  | _ => none }
def FnExactFillingOfWrongFalsely : Prop := fnExactFillingOfRow.holds Try.pinned (OpenSpec.ofChange fnExactFillingOfWrong)

/-- 'laws.FnExactEliminationWidth': WHATEVER THE INPUT: true; the input reads as it did. -/
def fnExactEliminationWidthSpec : ChangeSpec := { name := "fnExactEliminationWidth", fn := fun _ => fun
  | [d1, d2] => { results := [.lit (.bool true)], args := [d1, d2] }
  | _ => none }
def fnExactEliminationWidthRow : OpenClaim := { program := "ytgbdgenlmmofeaa", sum := "fdd6d2178b58f733d6bf77da94ad840fe7c467cc5abe05a11b005db8fdb7238c", func := "loop.example/g01109/laws.FnExactEliminationWidth", spec := "fnExactEliminationWidth", unfollowed := true, recurses := true, plainKeys := false, apart := false }
def FnExactEliminationWidthSaid : Prop := fnExactEliminationWidthRow.holds Try.pinned (OpenSpec.ofChange fnExactEliminationWidthSpec)

/-- ITS FALSE NEIGHBOUR: 'it returns false'. Refute it at one input. -/
def fnExactEliminationWidthWrong : ChangeSpec := { name := "fnExactEliminationWidth", fn := fun _ => fun
  | [d1, d2] => { results := [.lit (.bool false)], args := [d1, d2] }
  | _ => none }
def FnExactEliminationWidthWrongFalsely : Prop := fnExactEliminationWidthRow.holds Try.pinned (OpenSpec.ofChange fnExactEliminationWidthWrong)

/-- 'laws.FnExactCopLists': WHATEVER THE INPUT: true; the input reads as it did. -/
def fnExactCopListsSpec : ChangeSpec := { name := "fnExactCopLists", fn := fun _ => fun
  | [d1, d2] => { results := [.lit (.bool true)], args := [d1, d2] }
  | _ => none }
def fnExactCopListsRow : OpenClaim := { program := "ytgbdgenlmmofeaa", sum := "fdd6d2178b58f733d6bf77da94ad840fe7c467cc5abe05a11b005db8fdb7238c", func := "loop.example/g01109/laws.FnExactCopLists", spec := "fnExactCopLists", recurses := true, plainKeys := false, apart := false }
def FnExactCopListsSaid : Prop := fnExactCopListsRow.holds Try.pinned (OpenSpec.ofChange fnExactCopListsSpec)

/-- ITS FALSE NEIGHBOUR: 'it returns false'. Refute it at one input. -/
def fnExactCopListsWrong : ChangeSpec := { name := "fnExactCopLists", fn := fun _ => fun
  | [d1, d2] => { results := [.lit (.bool false)], args := [d1, d2] }
  | _ => none }
def FnExactCopListsWrongFalsely : Prop := fnExactCopListsRow.holds Try.pinned (OpenSpec.ofChange fnExactCopListsWrong)

/- THE SECOND FORM. 'bulk': how many values and letters a reading holds, each counted each time it is reached (what is shared counts as often as it is met; a slice's spare places count too). A statement '..UptoSaid' is the law's where the arguments, and the package variables that the reading takes, are together of bulk at most 1048576: NARROWER than '..Said'. Prove '..Said' where nothing that the law and all that it calls make is longer than what came in: it says more and counts as full. Else prove '..UptoSaid'. A law counts once. -/
mutual
def uptoBulk {H : Type} : DataW H → Nat
  | .lit (.string bytes) => bytes.length + 1
  | .lit _ => 1
  | .nil => 1
  | .ptr d => uptoBulk d + 1
  | .slice elems spare => uptoBulkAll elems + uptoBulkAll spare + 1
  | .agg parts => uptoBulkAll parts + 1
  | .iface _ d => uptoBulk d + 1
  | .map entries => uptoBulkEntries entries + 1
  | .held _ => 1
def uptoBulkAll {H : Type} : List (DataW H) → Nat
  | [] => 0
  | d :: r => uptoBulk d + uptoBulkAll r
def uptoBulkEntries {H : Type} : List (Lit × DataW H) → Nat
  | [] => 0
  | x :: r => uptoBulkEntry x + uptoBulkEntries r
def uptoBulkEntry {H : Type} : Lit × DataW H → Nat
  | (.string bytes, d) => bytes.length + uptoBulk d + 1
  | (_, d) => uptoBulk d + 1
 end
def uptoSmall : (H : Type) → List (DataW H) → Bool := fun _ ds => decide (uptoBulkAll ds ≤ 1048576)
def OpenSpec.upto (s : _root_.Go.ChangeSpec) : _root_.Go.OpenSpec := { _root_.Go.OpenSpec.ofChange s with cond := some uptoSmall }

/-- 'laws.FnExactFirstWay', WHERE WHAT IT READS IS OF BULK AT MOST 1048576: true; the input reads as it did. -/
def fnExactFirstWayUptoRow : OpenClaim := { program := "ytgbdgenlmmofeaa", sum := "fdd6d2178b58f733d6bf77da94ad840fe7c467cc5abe05a11b005db8fdb7238c", func := "loop.example/g01109/laws.FnExactFirstWay", spec := "fnExactFirstWay", unfollowed := true, recurses := true, plainKeys := false, apart := false, narrowed := true }
def FnExactFirstWayUptoSaid : Prop := fnExactFirstWayUptoRow.holds Try.pinned (OpenSpec.upto fnExactFirstWaySpec)

/-- 'laws.FnExactCopTimes', WHERE WHAT IT READS IS OF BULK AT MOST 1048576: true; the input reads as it did. -/
def fnExactCopTimesUptoRow : OpenClaim := { program := "ytgbdgenlmmofeaa", sum := "fdd6d2178b58f733d6bf77da94ad840fe7c467cc5abe05a11b005db8fdb7238c", func := "loop.example/g01109/laws.FnExactCopTimes", spec := "fnExactCopTimes", unfollowed := true, recurses := true, plainKeys := false, apart := false, narrowed := true }
def FnExactCopTimesUptoSaid : Prop := fnExactCopTimesUptoRow.holds Try.pinned (OpenSpec.upto fnExactCopTimesSpec)

/-- 'laws.FnExactOneCopWins', WHERE WHAT IT READS IS OF BULK AT MOST 1048576: true; the input reads as it did. -/
def fnExactOneCopWinsUptoRow : OpenClaim := { program := "ytgbdgenlmmofeaa", sum := "fdd6d2178b58f733d6bf77da94ad840fe7c467cc5abe05a11b005db8fdb7238c", func := "loop.example/g01109/laws.FnExactOneCopWins", spec := "fnExactOneCopWins", unfollowed := true, recurses := true, plainKeys := false, apart := false, narrowed := true }
def FnExactOneCopWinsUptoSaid : Prop := fnExactOneCopWinsUptoRow.holds Try.pinned (OpenSpec.upto fnExactOneCopWinsSpec)

/-- 'laws.FnExactCaptureTime', WHERE WHAT IT READS IS OF BULK AT MOST 1048576: true; the input reads as it did. -/
def fnExactCaptureTimeUptoRow : OpenClaim := { program := "ytgbdgenlmmofeaa", sum := "fdd6d2178b58f733d6bf77da94ad840fe7c467cc5abe05a11b005db8fdb7238c", func := "loop.example/g01109/laws.FnExactCaptureTime", spec := "fnExactCaptureTime", unfollowed := true, recurses := true, plainKeys := false, apart := false, narrowed := true }
def FnExactCaptureTimeUptoSaid : Prop := fnExactCaptureTimeUptoRow.holds Try.pinned (OpenSpec.upto fnExactCaptureTimeSpec)

/-- 'laws.FnExactGuardedNodes', WHERE WHAT IT READS IS OF BULK AT MOST 1048576: true; the input reads as it did. -/
def fnExactGuardedNodesUptoRow : OpenClaim := { program := "ytgbdgenlmmofeaa", sum := "fdd6d2178b58f733d6bf77da94ad840fe7c467cc5abe05a11b005db8fdb7238c", func := "loop.example/g01109/laws.FnExactGuardedNodes", spec := "fnExactGuardedNodes", unfollowed := true, recurses := true, plainKeys := false, apart := false, narrowed := true }
def FnExactGuardedNodesUptoSaid : Prop := fnExactGuardedNodesUptoRow.holds Try.pinned (OpenSpec.upto fnExactGuardedNodesSpec)

/-- 'laws.FnExactFillingOf', WHERE WHAT IT READS IS OF BULK AT MOST 1048576: true; the input reads as it did. -/
def fnExactFillingOfUptoRow : OpenClaim := { program := "ytgbdgenlmmofeaa", sum := "fdd6d2178b58f733d6bf77da94ad840fe7c467cc5abe05a11b005db8fdb7238c", func := "loop.example/g01109/laws.FnExactFillingOf", spec := "fnExactFillingOf", unfollowed := true, recurses := true, plainKeys := false, apart := false, narrowed := true }
def FnExactFillingOfUptoSaid : Prop := fnExactFillingOfUptoRow.holds Try.pinned (OpenSpec.upto fnExactFillingOfSpec)

/-- 'laws.FnExactEliminationWidth', WHERE WHAT IT READS IS OF BULK AT MOST 1048576: true; the input reads as it did. -/
def fnExactEliminationWidthUptoRow : OpenClaim := { program := "ytgbdgenlmmofeaa", sum := "fdd6d2178b58f733d6bf77da94ad840fe7c467cc5abe05a11b005db8fdb7238c", func := "loop.example/g01109/laws.FnExactEliminationWidth", spec := "fnExactEliminationWidth", unfollowed := true, recurses := true, plainKeys := false, apart := false, narrowed := true }
def FnExactEliminationWidthUptoSaid : Prop := fnExactEliminationWidthUptoRow.holds Try.pinned (OpenSpec.upto fnExactEliminationWidthSpec)

/-- 'laws.FnExactCopLists', WHERE WHAT IT READS IS OF BULK AT MOST 1048576: true; the input reads as it did. -/
def fnExactCopListsUptoRow : OpenClaim := { program := "ytgbdgenlmmofeaa", sum := "fdd6d2178b58f733d6bf77da94ad840fe7c467cc5abe05a11b005db8fdb7238c", func := "loop.example/g01109/laws.FnExactCopLists", spec := "fnExactCopLists", recurses := true, plainKeys := false, apart := false, narrowed := true }
def FnExactCopListsUptoSaid : Prop := fnExactCopListsUptoRow.holds Try.pinned (OpenSpec.upto fnExactCopListsSpec)

end Rows
end Go.Proofs.Ytgbdgenlmmofeaa
