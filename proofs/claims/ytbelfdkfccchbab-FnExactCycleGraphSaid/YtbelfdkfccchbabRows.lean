/-
  No cell of these rows narrows 'for every input' (looked for: loops, veiled, ifaces, maps, wideKeys, modest, calm, conditions, laid).
  DERIVED. THE GIVEN ROWS OF THIS SEAT. 10 by the template 'for every input the law returns true; each argument reads behind the call as it read before'; 0 by the template 'total and deterministic' (their statements: YtbelfdkfccchbabTotals.lean).
  GIVEN WITH THE SEED: the statements are not yours to turn. If you find one false, say at which input.
  Laid BY PROGRAM, IN A SANDBOX (cutbox-rows.mjs): the forced cells as the released guide's own fill.sh prints them over the translation be6fe986b0cd6d92… (all of the seat's roots in one cut). By AI agents, Wed Nov 11 2026. No macro, syntax, notation, axiom, sorry.
-/
import Derived.Test.YtbelfdkfccchbabChecked
import GoSem.Claim
import GoSem.ClaimJoined
import GoSem.ClaimMapViews
import Derived.JoinedTies
import Derived.KernelRfl
namespace Go.Proofs.Ytbelfdkfccchbab
/- THE CELL 'sum', in the pinned program and in every row, IS THE sha256 OF THE DUMP (.gsa) THAT YtbelfdkfccchbabProg.lean LOADS. Nothing in Lean hashes anything: it is a label: what it is worth is what the hold of that sum in a sandbox is worth. -/
noncomputable def Try.pinned : Pinned := { name := "ytbelfdkfccchbab", sum := "be6fe986b0cd6d929b4b33ef80ae5539ec34399b96af35407069f690525aafc0", checked := Try.checked }
namespace Rows
def none {H : Type} : Left H := { results := [], args := [] }

/-- 'laws.FnExactToggleEdge': WHATEVER THE INPUT: true; the input reads as it did. -/
def fnExactToggleEdgeSpec : ChangeSpec := { name := "fnExactToggleEdge", fn := fun _ => fun
  | [d1, d2, d3] => { results := [.lit (.bool true)], args := [d1, d2, d3] }
  | _ => none }
def fnExactToggleEdgeRow : OpenClaim := { program := "ytbelfdkfccchbab", sum := "be6fe986b0cd6d929b4b33ef80ae5539ec34399b96af35407069f690525aafc0", func := "loop.example/g01109/laws.FnExactToggleEdge", spec := "fnExactToggleEdge", unfollowed := true, recurses := true, plainKeys := false, apart := false }
def FnExactToggleEdgeSaid : Prop := fnExactToggleEdgeRow.holds Try.pinned (OpenSpec.ofChange fnExactToggleEdgeSpec)

/-- ITS FALSE NEIGHBOUR: 'it returns false'. Refute it at one input. -/
def fnExactToggleEdgeWrong : ChangeSpec := { name := "fnExactToggleEdge", fn := fun _ => fun
  | [d1, d2, d3] => { results := [.lit (.bool false)], args := [d1, d2, d3] }
  | _ => none }
def FnExactToggleEdgeWrongFalsely : Prop := fnExactToggleEdgeRow.holds Try.pinned (OpenSpec.ofChange fnExactToggleEdgeWrong)

/-- 'laws.FnExactComplementOf': WHATEVER THE INPUT: true; the input reads as it did. -/
def fnExactComplementOfSpec : ChangeSpec := { name := "fnExactComplementOf", fn := fun _ => fun
  | [d] => { results := [.lit (.bool true)], args := [d] }
  | _ => none }
def fnExactComplementOfRow : OpenClaim := { program := "ytbelfdkfccchbab", sum := "be6fe986b0cd6d929b4b33ef80ae5539ec34399b96af35407069f690525aafc0", func := "loop.example/g01109/laws.FnExactComplementOf", spec := "fnExactComplementOf", unfollowed := true, recurses := true, plainKeys := false, apart := false }
def FnExactComplementOfSaid : Prop := fnExactComplementOfRow.holds Try.pinned (OpenSpec.ofChange fnExactComplementOfSpec)

/-- ITS FALSE NEIGHBOUR: 'it returns false'. Refute it at one input. -/
def fnExactComplementOfWrong : ChangeSpec := { name := "fnExactComplementOf", fn := fun _ => fun
  | [d] => { results := [.lit (.bool false)], args := [d] }
  | _ => none }
def FnExactComplementOfWrongFalsely : Prop := fnExactComplementOfRow.holds Try.pinned (OpenSpec.ofChange fnExactComplementOfWrong)

/-- 'laws.FnExactPutBeside': WHATEVER THE INPUT: true; the input reads as it did. -/
def fnExactPutBesideSpec : ChangeSpec := { name := "fnExactPutBeside", fn := fun _ => fun
  | [d1, d2] => { results := [.lit (.bool true)], args := [d1, d2] }
  | _ => none }
def fnExactPutBesideRow : OpenClaim := { program := "ytbelfdkfccchbab", sum := "be6fe986b0cd6d929b4b33ef80ae5539ec34399b96af35407069f690525aafc0", func := "loop.example/g01109/laws.FnExactPutBeside", spec := "fnExactPutBeside", unfollowed := true, recurses := true, plainKeys := false, apart := false }
def FnExactPutBesideSaid : Prop := fnExactPutBesideRow.holds Try.pinned (OpenSpec.ofChange fnExactPutBesideSpec)

/-- ITS FALSE NEIGHBOUR: 'it returns false'. Refute it at one input. -/
def fnExactPutBesideWrong : ChangeSpec := { name := "fnExactPutBeside", fn := fun _ => fun
  | [d1, d2] => { results := [.lit (.bool false)], args := [d1, d2] }
  | _ => none }
def FnExactPutBesideWrongFalsely : Prop := fnExactPutBesideRow.holds Try.pinned (OpenSpec.ofChange fnExactPutBesideWrong)

/-- 'laws.FnExactCartesianProduct': WHATEVER THE INPUT: true; the input reads as it did. -/
def fnExactCartesianProductSpec : ChangeSpec := { name := "fnExactCartesianProduct", fn := fun _ => fun
  | [d1, d2] => { results := [.lit (.bool true)], args := [d1, d2] }
  | _ => none }
def fnExactCartesianProductRow : OpenClaim := { program := "ytbelfdkfccchbab", sum := "be6fe986b0cd6d929b4b33ef80ae5539ec34399b96af35407069f690525aafc0", func := "loop.example/g01109/laws.FnExactCartesianProduct", spec := "fnExactCartesianProduct", unfollowed := true, recurses := true, plainKeys := false, apart := false }
def FnExactCartesianProductSaid : Prop := fnExactCartesianProductRow.holds Try.pinned (OpenSpec.ofChange fnExactCartesianProductSpec)

/-- ITS FALSE NEIGHBOUR: 'it returns false'. Refute it at one input. -/
def fnExactCartesianProductWrong : ChangeSpec := { name := "fnExactCartesianProduct", fn := fun _ => fun
  | [d1, d2] => { results := [.lit (.bool false)], args := [d1, d2] }
  | _ => none }
def FnExactCartesianProductWrongFalsely : Prop := fnExactCartesianProductRow.holds Try.pinned (OpenSpec.ofChange fnExactCartesianProductWrong)

/-- 'laws.FnExactStrongProduct': WHATEVER THE INPUT: true; the input reads as it did. -/
def fnExactStrongProductSpec : ChangeSpec := { name := "fnExactStrongProduct", fn := fun _ => fun
  | [d1, d2] => { results := [.lit (.bool true)], args := [d1, d2] }
  | _ => none }
def fnExactStrongProductRow : OpenClaim := { program := "ytbelfdkfccchbab", sum := "be6fe986b0cd6d929b4b33ef80ae5539ec34399b96af35407069f690525aafc0", func := "loop.example/g01109/laws.FnExactStrongProduct", spec := "fnExactStrongProduct", unfollowed := true, recurses := true, plainKeys := false, apart := false }
def FnExactStrongProductSaid : Prop := fnExactStrongProductRow.holds Try.pinned (OpenSpec.ofChange fnExactStrongProductSpec)

/-- ITS FALSE NEIGHBOUR: 'it returns false'. Refute it at one input. -/
def fnExactStrongProductWrong : ChangeSpec := { name := "fnExactStrongProduct", fn := fun _ => fun
  | [d1, d2] => { results := [.lit (.bool false)], args := [d1, d2] }
  | _ => none }
def FnExactStrongProductWrongFalsely : Prop := fnExactStrongProductRow.holds Try.pinned (OpenSpec.ofChange fnExactStrongProductWrong)

/-- 'laws.FnExactPathGraph': WHATEVER THE INPUT: true; the input reads as it did. -/
def fnExactPathGraphSpec : ChangeSpec := { name := "fnExactPathGraph", fn := fun _ => fun
  | [d] => { results := [.lit (.bool true)], args := [d] }
  | _ => none }
def fnExactPathGraphRow : OpenClaim := { program := "ytbelfdkfccchbab", sum := "be6fe986b0cd6d929b4b33ef80ae5539ec34399b96af35407069f690525aafc0", func := "loop.example/g01109/laws.FnExactPathGraph", spec := "fnExactPathGraph", unfollowed := true, recurses := true, plainKeys := false, apart := false }
def FnExactPathGraphSaid : Prop := fnExactPathGraphRow.holds Try.pinned (OpenSpec.ofChange fnExactPathGraphSpec)

/-- ITS FALSE NEIGHBOUR: 'it returns false'. Refute it at one input. -/
def fnExactPathGraphWrong : ChangeSpec := { name := "fnExactPathGraph", fn := fun _ => fun
  | [d] => { results := [.lit (.bool false)], args := [d] }
  | _ => none }
def FnExactPathGraphWrongFalsely : Prop := fnExactPathGraphRow.holds Try.pinned (OpenSpec.ofChange fnExactPathGraphWrong)

/-- 'laws.FnExactCycleGraph': WHATEVER THE INPUT: true; the input reads as it did. -/
def fnExactCycleGraphSpec : ChangeSpec := { name := "fnExactCycleGraph", fn := fun _ => fun
  | [d] => { results := [.lit (.bool true)], args := [d] }
  | _ => none }
def fnExactCycleGraphRow : OpenClaim := { program := "ytbelfdkfccchbab", sum := "be6fe986b0cd6d929b4b33ef80ae5539ec34399b96af35407069f690525aafc0", func := "loop.example/g01109/laws.FnExactCycleGraph", spec := "fnExactCycleGraph", unfollowed := true, recurses := true, plainKeys := false, apart := false }
def FnExactCycleGraphSaid : Prop := fnExactCycleGraphRow.holds Try.pinned (OpenSpec.ofChange fnExactCycleGraphSpec)

/-- ITS FALSE NEIGHBOUR: 'it returns false'. Refute it at one input. -/
def fnExactCycleGraphWrong : ChangeSpec := { name := "fnExactCycleGraph", fn := fun _ => fun
  | [d] => { results := [.lit (.bool false)], args := [d] }
  | _ => none }
def FnExactCycleGraphWrongFalsely : Prop := fnExactCycleGraphRow.holds Try.pinned (OpenSpec.ofChange fnExactCycleGraphWrong)

/-- 'laws.FnExactCompleteGraph': WHATEVER THE INPUT: true; the input reads as it did. -/
def fnExactCompleteGraphSpec : ChangeSpec := { name := "fnExactCompleteGraph", fn := fun _ => fun
  | [d] => { results := [.lit (.bool true)], args := [d] }
  | _ => none }
def fnExactCompleteGraphRow : OpenClaim := { program := "ytbelfdkfccchbab", sum := "be6fe986b0cd6d929b4b33ef80ae5539ec34399b96af35407069f690525aafc0", func := "loop.example/g01109/laws.FnExactCompleteGraph", spec := "fnExactCompleteGraph", unfollowed := true, recurses := true, plainKeys := false, apart := false }
def FnExactCompleteGraphSaid : Prop := fnExactCompleteGraphRow.holds Try.pinned (OpenSpec.ofChange fnExactCompleteGraphSpec)

/-- ITS FALSE NEIGHBOUR: 'it returns false'. Refute it at one input. -/
def fnExactCompleteGraphWrong : ChangeSpec := { name := "fnExactCompleteGraph", fn := fun _ => fun
  | [d] => { results := [.lit (.bool false)], args := [d] }
  | _ => none }
def FnExactCompleteGraphWrongFalsely : Prop := fnExactCompleteGraphRow.holds Try.pinned (OpenSpec.ofChange fnExactCompleteGraphWrong)

/-- 'laws.FnExactRenameNodes': WHATEVER THE INPUT: true; the input reads as it did. -/
def fnExactRenameNodesSpec : ChangeSpec := { name := "fnExactRenameNodes", fn := fun _ => fun
  | [d1, d2] => { results := [.lit (.bool true)], args := [d1, d2] }
  | _ => none }
def fnExactRenameNodesRow : OpenClaim := { program := "ytbelfdkfccchbab", sum := "be6fe986b0cd6d929b4b33ef80ae5539ec34399b96af35407069f690525aafc0", func := "loop.example/g01109/laws.FnExactRenameNodes", spec := "fnExactRenameNodes", unfollowed := true, recurses := true, plainKeys := false, apart := false }
def FnExactRenameNodesSaid : Prop := fnExactRenameNodesRow.holds Try.pinned (OpenSpec.ofChange fnExactRenameNodesSpec)

/-- ITS FALSE NEIGHBOUR: 'it returns false'. Refute it at one input. -/
def fnExactRenameNodesWrong : ChangeSpec := { name := "fnExactRenameNodes", fn := fun _ => fun
  | [d1, d2] => { results := [.lit (.bool false)], args := [d1, d2] }
  | _ => none }
def FnExactRenameNodesWrongFalsely : Prop := fnExactRenameNodesRow.holds Try.pinned (OpenSpec.ofChange fnExactRenameNodesWrong)

/-- 'laws.FnExactFindIsomorphism': WHATEVER THE INPUT: true; the input reads as it did. -/
def fnExactFindIsomorphismSpec : ChangeSpec := { name := "fnExactFindIsomorphism", fn := fun _ => fun
  | [d1, d2] => { results := [.lit (.bool true)], args := [d1, d2] }
  | _ => none }
def fnExactFindIsomorphismRow : OpenClaim := { program := "ytbelfdkfccchbab", sum := "be6fe986b0cd6d929b4b33ef80ae5539ec34399b96af35407069f690525aafc0", func := "loop.example/g01109/laws.FnExactFindIsomorphism", spec := "fnExactFindIsomorphism", unfollowed := true, recurses := true, plainKeys := false, apart := false }
def FnExactFindIsomorphismSaid : Prop := fnExactFindIsomorphismRow.holds Try.pinned (OpenSpec.ofChange fnExactFindIsomorphismSpec)

/-- ITS FALSE NEIGHBOUR: 'it returns false'. Refute it at one input. -/
def fnExactFindIsomorphismWrong : ChangeSpec := { name := "fnExactFindIsomorphism", fn := fun _ => fun
  | [d1, d2] => { results := [.lit (.bool false)], args := [d1, d2] }
  | _ => none }
def FnExactFindIsomorphismWrongFalsely : Prop := fnExactFindIsomorphismRow.holds Try.pinned (OpenSpec.ofChange fnExactFindIsomorphismWrong)

/- THE SECOND FORM. 'bulk': how many values and letters a reading holds, each counted each time it is reached (what is shared counts as often as it is met; a slice's spare places count too). A statement '..UptoSaid' is the law's where the arguments, and the package variables that the reading takes, are together of bulk at most 1048576: NARROWER than '..Said'. Prove '..Said' where nothing that the law and all that it calls make is longer than what came in: it says more and counts as full. Else prove '..UptoSaid'. A law counts once. -/
mutual
def uptoBulk {H : Type} : DataW H → Nat
  | .lit (.string bytes) => bytes.length + 1
  | .lit _ => 1
  | .nil => 1
  | .ptr d => uptoBulk d + 1
  | .slice elems spare => uptoBulkAll elems + uptoBulkAll spare + 1
  | .agg parts => uptoBulkAll parts + 1
  | .iface _ d => uptoBulk d + 1
  | .map entries => uptoBulkEntries entries + 1
  | .held _ => 1
def uptoBulkAll {H : Type} : List (DataW H) → Nat
  | [] => 0
  | d :: r => uptoBulk d + uptoBulkAll r
def uptoBulkEntries {H : Type} : List (Lit × DataW H) → Nat
  | [] => 0
  | x :: r => uptoBulkEntry x + uptoBulkEntries r
def uptoBulkEntry {H : Type} : Lit × DataW H → Nat
  | (.string bytes, d) => bytes.length + uptoBulk d + 1
  | (_, d) => uptoBulk d + 1
 end
def uptoSmall : (H : Type) → List (DataW H) → Bool := fun _ ds => decide (uptoBulkAll ds ≤ 1048576)
def OpenSpec.upto (s : _root_.Go.ChangeSpec) : _root_.Go.OpenSpec := { _root_.Go.OpenSpec.ofChange s with cond := some uptoSmall }

/-- 'laws.FnExactToggleEdge', WHERE WHAT IT READS IS OF BULK AT MOST 1048576: true; the input reads as it did. -/
def fnExactToggleEdgeUptoRow : OpenClaim := { program := "ytbelfdkfccchbab", sum := "be6fe986b0cd6d929b4b33ef80ae5539ec34399b96af35407069f690525aafc0", func := "loop.example/g01109/laws.FnExactToggleEdge", spec := "fnExactToggleEdge", unfollowed := true, recurses := true, plainKeys := false, apart := false, narrowed := true }
def FnExactToggleEdgeUptoSaid : Prop := fnExactToggleEdgeUptoRow.holds Try.pinned (OpenSpec.upto fnExactToggleEdgeSpec)

/-- 'laws.FnExactComplementOf', WHERE WHAT IT READS IS OF BULK AT MOST 1048576: true; the input reads as it did. -/
def fnExactComplementOfUptoRow : OpenClaim := { program := "ytbelfdkfccchbab", sum := "be6fe986b0cd6d929b4b33ef80ae5539ec34399b96af35407069f690525aafc0", func := "loop.example/g01109/laws.FnExactComplementOf", spec := "fnExactComplementOf", unfollowed := true, recurses := true, plainKeys := false, apart := false, narrowed := true }
def FnExactComplementOfUptoSaid : Prop := fnExactComplementOfUptoRow.holds Try.pinned (OpenSpec.upto fnExactComplementOfSpec)

/-- 'laws.FnExactPutBeside', WHERE WHAT IT READS IS OF BULK AT MOST 1048576: true; the input reads as it did. -/
def fnExactPutBesideUptoRow : OpenClaim := { program := "ytbelfdkfccchbab", sum := "be6fe986b0cd6d929b4b33ef80ae5539ec34399b96af35407069f690525aafc0", func := "loop.example/g01109/laws.FnExactPutBeside", spec := "fnExactPutBeside", unfollowed := true, recurses := true, plainKeys := false, apart := false, narrowed := true }
def FnExactPutBesideUptoSaid : Prop := fnExactPutBesideUptoRow.holds Try.pinned (OpenSpec.upto fnExactPutBesideSpec)

/-- 'laws.FnExactCartesianProduct', WHERE WHAT IT READS IS OF BULK AT MOST 1048576: true; the input reads as it did. -/
def fnExactCartesianProductUptoRow : OpenClaim := { program := "ytbelfdkfccchbab", sum := "be6fe986b0cd6d929b4b33ef80ae5539ec34399b96af35407069f690525aafc0", func := "loop.example/g01109/laws.FnExactCartesianProduct", spec := "fnExactCartesianProduct", unfollowed := true, recurses := true, plainKeys := false, apart := false, narrowed := true }
def FnExactCartesianProductUptoSaid : Prop := fnExactCartesianProductUptoRow.holds Try.pinned (OpenSpec.upto fnExactCartesianProductSpec)

/-- 'laws.FnExactStrongProduct', WHERE WHAT IT READS IS OF BULK AT MOST 1048576: true; the input reads as it did. -/
def fnExactStrongProductUptoRow : OpenClaim := { program := "ytbelfdkfccchbab", sum := "be6fe986b0cd6d929b4b33ef80ae5539ec34399b96af35407069f690525aafc0", func := "loop.example/g01109/laws.FnExactStrongProduct", spec := "fnExactStrongProduct", unfollowed := true, recurses := true, plainKeys := false, apart := false, narrowed := true }
def FnExactStrongProductUptoSaid : Prop := fnExactStrongProductUptoRow.holds Try.pinned (OpenSpec.upto fnExactStrongProductSpec)

/-- 'laws.FnExactPathGraph', WHERE WHAT IT READS IS OF BULK AT MOST 1048576: true; the input reads as it did. -/
def fnExactPathGraphUptoRow : OpenClaim := { program := "ytbelfdkfccchbab", sum := "be6fe986b0cd6d929b4b33ef80ae5539ec34399b96af35407069f690525aafc0", func := "loop.example/g01109/laws.FnExactPathGraph", spec := "fnExactPathGraph", unfollowed := true, recurses := true, plainKeys := false, apart := false, narrowed := true }
def FnExactPathGraphUptoSaid : Prop := fnExactPathGraphUptoRow.holds Try.pinned (OpenSpec.upto fnExactPathGraphSpec)

/-- 'laws.FnExactCycleGraph', WHERE WHAT IT READS IS OF BULK AT MOST 1048576: true; the input reads as it did. -/
def fnExactCycleGraphUptoRow : OpenClaim := { program := "ytbelfdkfccchbab", sum := "be6fe986b0cd6d929b4b33ef80ae5539ec34399b96af35407069f690525aafc0", func := "loop.example/g01109/laws.FnExactCycleGraph", spec := "fnExactCycleGraph", unfollowed := true, recurses := true, plainKeys := false, apart := false, narrowed := true }
def FnExactCycleGraphUptoSaid : Prop := fnExactCycleGraphUptoRow.holds Try.pinned (OpenSpec.upto fnExactCycleGraphSpec)

/-- 'laws.FnExactCompleteGraph', WHERE WHAT IT READS IS OF BULK AT MOST 1048576: true; the input reads as it did. -/
def fnExactCompleteGraphUptoRow : OpenClaim := { program := "ytbelfdkfccchbab", sum := "be6fe986b0cd6d929b4b33ef80ae5539ec34399b96af35407069f690525aafc0", func := "loop.example/g01109/laws.FnExactCompleteGraph", spec := "fnExactCompleteGraph", unfollowed := true, recurses := true, plainKeys := false, apart := false, narrowed := true }
def FnExactCompleteGraphUptoSaid : Prop := fnExactCompleteGraphUptoRow.holds Try.pinned (OpenSpec.upto fnExactCompleteGraphSpec)

/-- 'laws.FnExactRenameNodes', WHERE WHAT IT READS IS OF BULK AT MOST 1048576: true; the input reads as it did. -/
def fnExactRenameNodesUptoRow : OpenClaim := { program := "ytbelfdkfccchbab", sum := "be6fe986b0cd6d929b4b33ef80ae5539ec34399b96af35407069f690525aafc0", func := "loop.example/g01109/laws.FnExactRenameNodes", spec := "fnExactRenameNodes", unfollowed := true, recurses := true, plainKeys := false, apart := false, narrowed := true }
def FnExactRenameNodesUptoSaid : Prop := fnExactRenameNodesUptoRow.holds Try.pinned (OpenSpec.upto fnExactRenameNodesSpec)

/-- 'laws.FnExactFindIsomorphism', WHERE WHAT IT READS IS OF BULK AT MOST 1048576: true; the input reads as it did. -/
def fnExactFindIsomorphismUptoRow : OpenClaim := { program := "ytbelfdkfccchbab", sum := "be6fe986b0cd6d929b4b33ef80ae5539ec34399b96af35407069f690525aafc0", func := "loop.example/g01109/laws.FnExactFindIsomorphism", spec := "fnExactFindIsomorphism", unfollowed := true, recurses := true, plainKeys := false, apart := false, narrowed := true }
def FnExactFindIsomorphismUptoSaid : Prop := fnExactFindIsomorphismUptoRow.holds Try.pinned (OpenSpec.upto fnExactFindIsomorphismSpec)

end Rows
end Go.Proofs.Ytbelfdkfccchbab
