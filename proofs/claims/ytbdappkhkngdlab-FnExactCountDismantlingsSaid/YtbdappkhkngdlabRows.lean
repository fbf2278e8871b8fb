/-
  No cell of these rows narrows 'for every input' (looked for: loops, veiled, ifaces, maps, wideKeys, modest, calm, conditions, laid).
  DERIVED. THE GIVEN ROWS OF THIS SEAT. 10 by the template 'for every input the law returns true; each argument reads behind the call as it read before'; 0 by the template 'total and deterministic' (their statements: YtbdappkhkngdlabTotals.lean).
  GIVEN WITH THE SEED: the statements are not yours to turn. If you find one false, say at which input.
  Laid BY PROGRAM, IN A SANDBOX (cutbox-rows.mjs): the forced cells as the released guide's own fill.sh prints them over the translation f221443aa25dd56b… (all of the seat's roots in one cut). By AI agents, Wed Nov 11 2026. No macro, syntax, notation, axiom, sorry.
-/
import Derived.Test.YtbdappkhkngdlabChecked
import GoSem.Claim
import GoSem.ClaimJoined
import GoSem.ClaimMapViews
import Derived.JoinedTies
import Derived.KernelRfl
namespace Go.Proofs.Ytbdappkhkngdlab
/- THE CELL 'sum', in the pinned program and in every row, IS THE sha256 OF THE DUMP (.gsa) THAT YtbdappkhkngdlabProg.lean LOADS. Nothing in Lean hashes anything: it is a label: what it is worth is what the hold of that sum in a sandbox is worth. -/
noncomputable def Try.pinned : Pinned := { name := "ytbdappkhkngdlab", sum := "f221443aa25dd56b85ca618e8e885c38da7babe4fc2714bfdba48f54bd914ddd", checked := Try.checked }
namespace Rows
def none {H : Type} : Left H := { results := [], args := [] }

/-- 'laws.FnExactFirstWay': WHATEVER THE INPUT: true; the input reads as it did. -/
def fnExactFirstWaySpec : ChangeSpec := { name := "fnExactFirstWay", fn := fun _ => fun
  | [d1, d2, d3] => { results := [.lit (.bool true)], args := [d1, d2, d3] }
  | _ => none }
def fnExactFirstWayRow : OpenClaim := { program := "ytbdappkhkngdlab", sum := "f221443aa25dd56b85ca618e8e885c38da7babe4fc2714bfdba48f54bd914ddd", func := "loop.example/g01109/laws.FnExactFirstWay", spec := "fnExactFirstWay", unfollowed := true, recurses := true, plainKeys := false, apart := false }
def FnExactFirstWaySaid : Prop := fnExactFirstWayRow.holds Try.pinned (OpenSpec.ofChange fnExactFirstWaySpec)

/-- ITS FALSE NEIGHBOUR: 'it returns false'. Refute it at one input. -/
def fnExactFirstWayWrong : ChangeSpec := { name := "fnExactFirstWay", fn := fun _ => fun
  | [d1, d2, d3] => { results := [.lit (.bool false)], args := [d1, d2, d3] }
  | _ => none }
def FnExactFirstWayWrongFalsely : Prop := fnExactFirstWayRow.holds Try.pinned (OpenSpec.ofChange fnExactFirstWayWrong)

/-- 'laws.FnExactPartsOf': WHATEVER THE INPUT: true; the input reads as it did. -/
def fnExactPartsOfSpec : ChangeSpec := { name := "fnExactPartsOf", fn := fun _ => fun
  | [d] => { results := [.lit (.bool true)], args := [d] }
  | _ => none }
def fnExactPartsOfRow : OpenClaim := { program := "ytbdappkhkngdlab", sum := "f221443aa25dd56b85ca618e8e885c38da7babe4fc2714bfdba48f54bd914ddd", func := "loop.example/g01109/laws.FnExactPartsOf", spec := "fnExactPartsOf", unfollowed := true, recurses := true, plainKeys := false, apart := false }
def FnExactPartsOfSaid : Prop := fnExactPartsOfRow.holds Try.pinned (OpenSpec.ofChange fnExactPartsOfSpec)

/-- ITS FALSE NEIGHBOUR: 'it returns false'. Refute it at one input. -/
def fnExactPartsOfWrong : ChangeSpec := { name := "fnExactPartsOf", fn := fun _ => fun
  | [d] => { results := [.lit (.bool false)], args := [d] }
  | _ => none }
def FnExactPartsOfWrongFalsely : Prop := fnExactPartsOfRow.holds Try.pinned (OpenSpec.ofChange fnExactPartsOfWrong)

/-- 'laws.FnExactIsConnected': WHATEVER THE INPUT: true; the input reads as it did. -/
def fnExactIsConnectedSpec : ChangeSpec := { name := "fnExactIsConnected", fn := fun _ => fun
  | [d] => { results := [.lit (.bool true)], args := [d] }
  | _ => none }
def fnExactIsConnectedRow : OpenClaim := { program := "ytbdappkhkngdlab", sum := "f221443aa25dd56b85ca618e8e885c38da7babe4fc2714bfdba48f54bd914ddd", func := "loop.example/g01109/laws.FnExactIsConnected", spec := "fnExactIsConnected", unfollowed := true, recurses := true, plainKeys := false, apart := false }
def FnExactIsConnectedSaid : Prop := fnExactIsConnectedRow.holds Try.pinned (OpenSpec.ofChange fnExactIsConnectedSpec)

/-- ITS FALSE NEIGHBOUR: 'it returns false'. Refute it at one input. -/
def fnExactIsConnectedWrong : ChangeSpec := { name := "fnExactIsConnected", fn := fun _ => fun
  | [d] => { results := [.lit (.bool false)], args := [d] }
  | _ => none }
def FnExactIsConnectedWrongFalsely : Prop := fnExactIsConnectedRow.holds Try.pinned (OpenSpec.ofChange fnExactIsConnectedWrong)

/-- 'laws.FnExactToggleEdge': WHATEVER THE INPUT: true; the input reads as it did. -/
def fnExactToggleEdgeSpec : ChangeSpec := { name := "fnExactToggleEdge", fn := fun _ => fun
  | [d1, d2, d3] => { results := [.lit (.bool true)], args := [d1, d2, d3] }
  | _ => none }
def fnExactToggleEdgeRow : OpenClaim := { program := "ytbdappkhkngdlab", sum := "f221443aa25dd56b85ca618e8e885c38da7babe4fc2714bfdba48f54bd914ddd", func := "loop.example/g01109/laws.FnExactToggleEdge", spec := "fnExactToggleEdge", unfollowed := true, recurses := true, plainKeys := false, apart := false }
def FnExactToggleEdgeSaid : Prop := fnExactToggleEdgeRow.holds Try.pinned (OpenSpec.ofChange fnExactToggleEdgeSpec)

/-- ITS FALSE NEIGHBOUR: 'it returns false'. Refute it at one input. -/
def fnExactToggleEdgeWrong : ChangeSpec := { name := "fnExactToggleEdge", fn := fun _ => fun
  | [d1, d2, d3] => { results := [.lit (.bool false)], args := [d1, d2, d3] }
  | _ => none }
def FnExactToggleEdgeWrongFalsely : Prop := fnExactToggleEdgeRow.holds Try.pinned (OpenSpec.ofChange fnExactToggleEdgeWrong)

/-- 'laws.FnExactPutBeside': WHATEVER THE INPUT: true; the input reads as it did. -/
def fnExactPutBesideSpec : ChangeSpec := { name := "fnExactPutBeside", fn := fun _ => fun
  | [d1, d2] => { results := [.lit (.bool true)], args := [d1, d2] }
  | _ => none }
def fnExactPutBesideRow : OpenClaim := { program := "ytbdappkhkngdlab", sum := "f221443aa25dd56b85ca618e8e885c38da7babe4fc2714bfdba48f54bd914ddd", func := "loop.example/g01109/laws.FnExactPutBeside", spec := "fnExactPutBeside", unfollowed := true, recurses := true, plainKeys := false, apart := false }
def FnExactPutBesideSaid : Prop := fnExactPutBesideRow.holds Try.pinned (OpenSpec.ofChange fnExactPutBesideSpec)

/-- ITS FALSE NEIGHBOUR: 'it returns false'. Refute it at one input. -/
def fnExactPutBesideWrong : ChangeSpec := { name := "fnExactPutBeside", fn := fun _ => fun
  | [d1, d2] => { results := [.lit (.bool false)], args := [d1, d2] }
  | _ => none }
def FnExactPutBesideWrongFalsely : Prop := fnExactPutBesideRow.holds Try.pinned (OpenSpec.ofChange fnExactPutBesideWrong)

/-- 'laws.FnExactRenameNodes': WHATEVER THE INPUT: true; the input reads as it did. -/
def fnExactRenameNodesSpec : ChangeSpec := { name := "fnExactRenameNodes", fn := fun _ => fun
  | [d1, d2] => { results := [.lit (.bool true)], args := [d1, d2] }
  | _ => none }
def fnExactRenameNodesRow : OpenClaim := { program := "ytbdappkhkngdlab", sum := "f221443aa25dd56b85ca618e8e885c38da7babe4fc2714bfdba48f54bd914ddd", func := "loop.example/g01109/laws.FnExactRenameNodes", spec := "fnExactRenameNodes", unfollowed := true, recurses := true, plainKeys := false, apart := false }
def FnExactRenameNodesSaid : Prop := fnExactRenameNodesRow.holds Try.pinned (OpenSpec.ofChange fnExactRenameNodesSpec)

/-- ITS FALSE NEIGHBOUR: 'it returns false'. Refute it at one input. -/
def fnExactRenameNodesWrong : ChangeSpec := { name := "fnExactRenameNodes", fn := fun _ => fun
  | [d1, d2] => { results := [.lit (.bool false)], args := [d1, d2] }
  | _ => none }
def FnExactRenameNodesWrongFalsely : Prop := fnExactRenameNodesRow.holds Try.pinned (OpenSpec.ofChange fnExactRenameNodesWrong)

/-- 'laws.FnExactFindIsomorphism': WHATEVER THE INPUT: true; the input reads as it did. -/
def fnExactFindIsomorphismSpec : ChangeSpec := { name := "fnExactFindIsomorphism", fn := fun _ => fun
  | [d1, d2] => { results := [.lit (.bool true)], args := [d1, d2] }
  | _ => none }
def fnExactFindIsomorphismRow : OpenClaim := { program := "ytbdappkhkngdlab", sum := "f221443aa25dd56b85ca618e8e885c38da7babe4fc2714bfdba48f54bd914ddd", func := "loop.example/g01109/laws.FnExactFindIsomorphism", spec := "fnExactFindIsomorphism", unfollowed := true, recurses := true, plainKeys := false, apart := false }
def FnExactFindIsomorphismSaid : Prop := fnExactFindIsomorphismRow.holds Try.pinned (OpenSpec.ofChange fnExactFindIsomorphismSpec)

/-- ITS FALSE NEIGHBOUR: 'it returns false'. Refute it at one input. -/
def fnExactFindIsomorphismWrong : ChangeSpec := { name := "fnExactFindIsomorphism", fn := fun _ => fun
  | [d1, d2] => { results := [.lit (.bool false)], args := [d1, d2] }
  | _ => none }
def FnExactFindIsomorphismWrongFalsely : Prop := fnExactFindIsomorphismRow.holds Try.pinned (OpenSpec.ofChange fnExactFindIsomorphismWrong)

/-- 'laws.FnProducts': WHATEVER THE INPUT: true; the input reads as it did. -/
def fnProductsSpec : ChangeSpec := { name := "fnProducts", fn := fun _ => fun
  | [d] => { results := [.lit (.bool true)], args := [d] }
  | _ => none }
def fnProductsRow : OpenClaim := { program := "ytbdappkhkngdlab", sum := "f221443aa25dd56b85ca618e8e885c38da7babe4fc2714bfdba48f54bd914ddd", func := "loop.example/g01109/laws.FnProducts", spec := "fnProducts", unfollowed := true, recurses := true, plainKeys := false, apart := false }
def FnProductsSaid : Prop := fnProductsRow.holds Try.pinned (OpenSpec.ofChange fnProductsSpec)

/-- ITS FALSE NEIGHBOUR: 'it returns false'. Refute it at one input. -/
def fnProductsWrong : ChangeSpec := { name := "fnProducts", fn := fun _ => fun
  | [d] => { results := [.lit (.bool false)], args := [d] }
  | _ => none }
def FnProductsWrongFalsely : Prop := fnProductsRow.holds Try.pinned (OpenSpec.ofChange fnProductsWrong)

/-- 'laws.FnExactIsDismantling': WHATEVER THE INPUT: true; the input reads as it did. -/
def fnExactIsDismantlingSpec : ChangeSpec := { name := "fnExactIsDismantling", fn := fun _ => fun
  | [d1, d2] => { results := [.lit (.bool true)], args := [d1, d2] }
  | _ => none }
def fnExactIsDismantlingRow : OpenClaim := { program := "ytbdappkhkngdlab", sum := "f221443aa25dd56b85ca618e8e885c38da7babe4fc2714bfdba48f54bd914ddd", func := "loop.example/g01109/laws.FnExactIsDismantling", spec := "fnExactIsDismantling", plainKeys := false, apart := false }
def FnExactIsDismantlingSaid : Prop := fnExactIsDismantlingRow.holds Try.pinned (OpenSpec.ofChange fnExactIsDismantlingSpec)

/-- ITS FALSE NEIGHBOUR: 'it returns false'. Refute it at one input. -/
def fnExactIsDismantlingWrong : ChangeSpec := { name := "fnExactIsDismantling", fn := fun _ => fun
  | [d1, d2] => { results := [.lit (.bool false)], args := [d1, d2] }
  | _ => none }
def FnExactIsDismantlingWrongFalsely : Prop := fnExactIsDismantlingRow.holds Try.pinned (OpenSpec.ofChange fnExactIsDismantlingWrong)

/-- 'laws.FnExactCountDismantlings': WHATEVER THE INPUT: true; the input reads as it did. -/
def fnExactCountDismantlingsSpec : ChangeSpec := { name := "fnExactCountDismantlings", fn := fun _ => fun
  | [d] => { results := [.lit (.bool true)], args := [d] }
  | _ => none }
def fnExactCountDismantlingsRow : OpenClaim := { program := "ytbdappkhkngdlab", sum := "f221443aa25dd56b85ca618e8e885c38da7babe4fc2714bfdba48f54bd914ddd", func := "loop.example/g01109/laws.FnExactCountDismantlings", spec := "fnExactCountDismantlings", unfollowed := true, recurses := true, plainKeys := false, apart := false }
def FnExactCountDismantlingsSaid : Prop := fnExactCountDismantlingsRow.holds Try.pinned (OpenSpec.ofChange fnExactCountDismantlingsSpec)

/-- ITS FALSE NEIGHBOUR: 'it returns false'. Refute it at one input. -/
def fnExactCountDismantlingsWrong : ChangeSpec := { name := "fnExactCountDismantlings", fn := fun _ => fun
  | [d] => { results := [.lit (.bool false)], args := [d] }
  | _ => none }
def FnExactCountDismantlingsWrongFalsely : Prop := fnExactCountDismantlingsRow.holds Try.pinned (OpenSpec.ofChange fnExactCountDismantlingsWrong)

/- THE SECOND FORM. 'bulk': how many values and letters a reading holds, each counted each time it is reached (what is shared counts as often as it is met; a slice's spare places count too). A statement '..UptoSaid' is the law's where the arguments, and the package variables that the reading takes, are together of bulk at most 1048576: NARROWER than '..Said'. Prove '..Said' where nothing that the law and all that it calls make is longer than what came in: it says more and counts as full. Else prove '..UptoSaid'. A law counts once. -/
mutual
def uptoBulk {H : Type} : DataW H → Nat
  | .lit (.string bytes) => bytes.length + 1
  | .lit _ => 1
  | .nil => 1
  | .ptr d => uptoBulk d + 1
  | .slice elems spare => uptoBulkAll elems + uptoBulkAll spare + 1
  | .agg parts => uptoBulkAll parts + 1
  | .iface _ d => uptoBulk d + 1
  | .map entries => uptoBulkEntries entries + 1
  | .held _ => 1
def uptoBulkAll {H : Type} : List (DataW H) → Nat
  | [] => 0
  | d :: r => uptoBulk d + uptoBulkAll r
def uptoBulkEntries {H : Type} : List (Lit × DataW H) → Nat
  | [] => 0
  | x :: r => uptoBulkEntry x + uptoBulkEntries r
def uptoBulkEntry {H : Type} : Lit × DataW H → Nat
  | (.string bytes, d) => bytes.length + uptoBulk d + 1
  | (_, d) => uptoBulk d + 1
 end
def uptoSmall : (H : Type) → List (DataW H) → Bool := fun _ ds => decide (uptoBulkAll ds ≤ 1048576)
def OpenSpec.upto (s : _root_.Go.ChangeSpec) : _root_.Go.OpenSpec := { _root_.Go.OpenSpec.ofChange s with cond := some uptoSmall }

/-- 'laws.FnExactFirstWay', WHERE WHAT IT READS IS OF BULK AT MOST 1048576: true; the input reads as it did. -/
def fnExactFirstWayUptoRow : OpenClaim := { program := "ytbdappkhkngdlab", sum := "f221443aa25dd56b85ca618e8e885c38da7babe4fc2714bfdba48f54bd914ddd", func := "loop.example/g01109/laws.FnExactFirstWay", spec := "fnExactFirstWay", unfollowed := true, recurses := true, plainKeys := false, apart := false, narrowed := true }
def FnExactFirstWayUptoSaid : Prop := fnExactFirstWayUptoRow.holds Try.pinned (OpenSpec.upto fnExactFirstWaySpec)

/-- 'laws.FnExactPartsOf', WHERE WHAT IT READS IS OF BULK AT MOST 1048576: true; the input reads as it did. -/
def fnExactPartsOfUptoRow : OpenClaim := { program := "ytbdappkhkngdlab", sum := "f221443aa25dd56b85ca618e8e885c38da7babe4fc2714bfdba48f54bd914ddd", func := "loop.example/g01109/laws.FnExactPartsOf", spec := "fnExactPartsOf", unfollowed := true, recurses := true, plainKeys := false, apart := false, narrowed := true }
def FnExactPartsOfUptoSaid : Prop := fnExactPartsOfUptoRow.holds Try.pinned (OpenSpec.upto fnExactPartsOfSpec)

/-- 'laws.FnExactIsConnected', WHERE WHAT IT READS IS OF BULK AT MOST 1048576: true; the input reads as it did. -/
def fnExactIsConnectedUptoRow : OpenClaim := { program := "ytbdappkhkngdlab", sum := "f221443aa25dd56b85ca618e8e885c38da7babe4fc2714bfdba48f54bd914ddd", func := "loop.example/g01109/laws.FnExactIsConnected", spec := "fnExactIsConnected", unfollowed := true, recurses := true, plainKeys := false, apart := false, narrowed := true }
def FnExactIsConnectedUptoSaid : Prop := fnExactIsConnectedUptoRow.holds Try.pinned (OpenSpec.upto fnExactIsConnectedSpec)

/-- 'laws.FnExactToggleEdge', WHERE WHAT IT READS IS OF BULK AT MOST 1048576: true; the input reads as it did. -/
def fnExactToggleEdgeUptoRow : OpenClaim := { program := "ytbdappkhkngdlab", sum := "f221443aa25dd56b85ca618e8e885c38da7babe4fc2714bfdba48f54bd914ddd", func := "loop.example/g01109/laws.FnExactToggleEdge", spec := "fnExactToggleEdge", unfollowed := true, recurses := true, plainKeys := false, apart := false, narrowed := true }
def FnExactToggleEdgeUptoSaid : Prop := fnExactToggleEdgeUptoRow.holds Try.pinned (OpenSpec.upto fnExactToggleEdgeSpec)

/-- 'laws.FnExactPutBeside', WHERE WHAT IT READS IS OF BULK AT MOST 1048576: true; the input reads as it did. -/
def fnExactPutBesideUptoRow : OpenClaim := { program := "ytbdappkhkngdlab", sum := "f221443aa25dd56b85ca618e8e885c38da7babe4fc2714bfdba48f54bd914ddd", func := "loop.example/g01109/laws.FnExactPutBeside", spec := "fnExactPutBeside", unfollowed := true, recurses := true, plainKeys := false, apart := false, narrowed := true }
def FnExactPutBesideUptoSaid : Prop := fnExactPutBesideUptoRow.holds Try.pinned (OpenSpec.upto fnExactPutBesideSpec)

/-- 'laws.FnExactRenameNodes', WHERE WHAT IT READS IS OF BULK AT MOST 1048576: true; the input reads as it did. -/
def fnExactRenameNodesUptoRow : OpenClaim := { program := "ytbdappkhkngdlab", sum := "f221443aa25dd56b85ca618e8e885c38da7babe4fc2714bfdba48f54bd914ddd", func := "loop.example/g01109/laws.FnExactRenameNodes", spec := "fnExactRenameNodes", unfollowed := true, recurses := true, plainKeys := false, apart := false, narrowed := true }
def FnExactRenameNodesUptoSaid : Prop := fnExactRenameNodesUptoRow.holds Try.pinned (OpenSpec.upto fnExactRenameNodesSpec)

/-- 'laws.FnExactFindIsomorphism', WHERE WHAT IT READS IS OF BULK AT MOST 1048576: true; the input reads as it did. -/
def fnExactFindIsomorphismUptoRow : OpenClaim := { program := "ytbdappkhkngdlab", sum := "f221443aa25dd56b85ca618e8e885c38da7babe4fc2714bfdba48f54bd914ddd", func := "loop.example/g01109/laws.FnExactFindIsomorphism", spec := "fnExactFindIsomorphism", unfollowed := true, recurses := true, plainKeys := false, apart := false, narrowed := true }
def FnExactFindIsomorphismUptoSaid : Prop := fnExactFindIsomorphismUptoRow.holds Try.pinned (OpenSpec.upto fnExactFindIsomorphismSpec)

/-- 'laws.FnProducts', WHERE WHAT IT READS IS OF BULK AT MOST 1048576: true; the input reads as it did. -/
def fnProductsUptoRow : OpenClaim := { program := "ytbdappkhkngdlab", sum := "f221443aa25dd56b85ca618e8e885c38da7babe4fc2714bfdba48f54bd914ddd", func := "loop.example/g01109/laws.FnProducts", spec := "fnProducts", unfollowed := true, recurses := true, plainKeys := false, apart := false, narrowed := true }
def FnProductsUptoSaid : Prop := fnProductsUptoRow.holds Try.pinned (OpenSpec.upto fnProductsSpec)

/-- 'laws.FnExactIsDismantling', WHERE WHAT IT READS IS OF BULK AT MOST 1048576: true; the input reads as it did. -/
def fnExactIsDismantlingUptoRow : OpenClaim := { program := "ytbdappkhkngdlab", sum := "f221443aa25dd56b85ca618e8e885c38da7babe4fc2714bfdba48f54bd914ddd", func := "loop.example/g01109/laws.FnExactIsDismantling", spec := "fnExactIsDismantling", plainKeys := false, apart := false, narrowed := true }
def FnExactIsDismantlingUptoSaid : Prop := fnExactIsDismantlingUptoRow.holds Try.pinned (OpenSpec.upto fnExactIsDismantlingSpec)

/-- 'laws.FnExactCountDismantlings', WHERE WHAT IT READS IS OF BULK AT MOST 1048576: true; the input reads as it did. -/
def fnExactCountDismantlingsUptoRow : OpenClaim := { program := "ytbdappkhkngdlab", sum := "f221443aa25dd56b85ca618e8e885c38da7babe4fc2714bfdba48f54bd914ddd", func := "loop.example/g01109/laws.FnExactCountDismantlings", spec := "fnExactCountDismantlings", unfollowed := true, recurses := true, plainKeys := false, apart := false, narrowed := true }
def FnExactCountDismantlingsUptoSaid : Prop := fnExactCountDismantlingsUptoRow.holds Try.pinned (OpenSpec.upto fnExactCountDismantlingsSpec)

end Rows
end Go.Proofs.Ytbdappkhkngdlab
