/-
  No cell of these rows narrows 'for every input' (looked for: loops, veiled, ifaces, maps, wideKeys, modest, calm, conditions, laid).
  DERIVED. THE GIVEN ROWS OF THIS SEAT. 8 by the template 'for every input the law returns true; each argument reads behind the call as it read before'; 0 by the template 'total and deterministic' (their statements: YteacpmdgojennaaTotals.lean).
  GIVEN WITH THE SEED: the statements are not yours to turn. If you find one false, say at which input.
  Laid BY PROGRAM, IN A SANDBOX (cutbox-rows.mjs): the forced cells as the released guide's own fill.sh prints them over the translation 26e1f2ccd033bfa0… (all of the seat's roots in one cut). By AI agents, Wed Nov 11 2026. No macro, syntax, notation, axiom, sorry.
-/
import Derived.Test.YteacpmdgojennaaChecked
import GoSem.Claim
import GoSem.ClaimJoined
import GoSem.ClaimMapViews
import Derived.JoinedTies
import Derived.KernelRfl
namespace Go.Proofs.Yteacpmdgojennaa
/- THE CELL 'sum', in the pinned program and in every row, IS THE sha256 OF THE DUMP (.gsa) THAT YteacpmdgojennaaProg.lean LOADS. Nothing in Lean hashes anything: it is a label: what it is worth is what the hold of that sum in a sandbox is worth. -/
noncomputable def Try.pinned : Pinned := { name := "yteacpmdgojennaa", sum := "26e1f2ccd033bfa0f1076485de73d5e2912cb5aab235b9cd430e1e8385f8cdb7", checked := Try.checked }
namespace Rows
def none {H : Type} : Left H := { results := [], args := [] }

/-- 'laws.FnExactPathwidthOf': WHATEVER THE INPUT: true; the input reads as it did. -/
def fnExactPathwidthOfSpec : ChangeSpec := { name := "fnExactPathwidthOf", fn := fun _ => fun
  | [d] => { results := [.lit (.bool true)], args := [d] }
  | _ => none }
def fnExactPathwidthOfRow : OpenClaim := { program := "yteacpmdgojennaa", sum := "26e1f2ccd033bfa0f1076485de73d5e2912cb5aab235b9cd430e1e8385f8cdb7", func := "loop.example/g01109/laws.FnExactPathwidthOf", spec := "fnExactPathwidthOf", unfollowed := true, recurses := true, plainKeys := false, apart := false }
def FnExactPathwidthOfSaid : Prop := fnExactPathwidthOfRow.holds Try.pinned (OpenSpec.ofChange fnExactPathwidthOfSpec)

/-- ITS FALSE NEIGHBOUR: 'it returns false'. Refute it at one input. -/
def fnExactPathwidthOfWrong : ChangeSpec := { name := "fnExactPathwidthOf", fn := fun _ => fun
  | [d] => { results := [.lit (.bool false)], args := [d] }
  | _ => none }
def FnExactPathwidthOfWrongFalsely : Prop := fnExactPathwidthOfRow.holds Try.pinned (OpenSpec.ofChange fnExactPathwidthOfWrong)

/-- 'laws.FnExactBestLayout': WHATEVER THE INPUT: true; the input reads as it did. -/
def fnExactBestLayoutSpec : ChangeSpec := { name := "fnExactBestLayout", fn := fun _ => fun
  | [d] => { results := [.lit (.bool true)], args := [d] }
  | _ => none }
def fnExactBestLayoutRow : OpenClaim := { program := "yteacpmdgojennaa", sum := "26e1f2ccd033bfa0f1076485de73d5e2912cb5aab235b9cd430e1e8385f8cdb7", func := "loop.example/g01109/laws.FnExactBestLayout", spec := "fnExactBestLayout", unfollowed := true, recurses := true, plainKeys := false, apart := false }
def FnExactBestLayoutSaid : Prop := fnExactBestLayoutRow.holds Try.pinned (OpenSpec.ofChange fnExactBestLayoutSpec)

/-- ITS FALSE NEIGHBOUR: 'it returns false'. Refute it at one input. -/
def fnExactBestLayoutWrong : ChangeSpec := { name := "fnExactBestLayout", fn := fun _ => fun
  | [d] => { results := [.lit (.bool false)], args := [d] }
  | _ => none }
def FnExactBestLayoutWrongFalsely : Prop := fnExactBestLayoutRow.holds Try.pinned (OpenSpec.ofChange fnExactBestLayoutWrong)

/-- 'laws.FnExactFrontBound': WHATEVER THE INPUT: true; the input reads as it did. -/
def fnExactFrontBoundSpec : ChangeSpec := { name := "fnExactFrontBound", fn := fun _ => fun
  | [d] => { results := [.lit (.bool true)], args := [d] }
  | _ => none }
def fnExactFrontBoundRow : OpenClaim := { program := "yteacpmdgojennaa", sum := "26e1f2ccd033bfa0f1076485de73d5e2912cb5aab235b9cd430e1e8385f8cdb7", func := "loop.example/g01109/laws.FnExactFrontBound", spec := "fnExactFrontBound", plainKeys := false, apart := false }
def FnExactFrontBoundSaid : Prop := fnExactFrontBoundRow.holds Try.pinned (OpenSpec.ofChange fnExactFrontBoundSpec)

/-- ITS FALSE NEIGHBOUR: 'it returns false'. Refute it at one input. -/
def fnExactFrontBoundWrong : ChangeSpec := { name := "fnExactFrontBound", fn := fun _ => fun
  | [d] => { results := [.lit (.bool false)], args := [d] }
  | _ => none }
def FnExactFrontBoundWrongFalsely : Prop := fnExactFrontBoundRow.holds Try.pinned (OpenSpec.ofChange fnExactFrontBoundWrong)

/-- 'laws.FnExactSearchNumber': WHATEVER THE INPUT: true; the input reads as it did. -/
def fnExactSearchNumberSpec : ChangeSpec := { name := "fnExactSearchNumber", fn := fun _ => fun
  | [d] => { results := [.lit (.bool true)], args := [d] }
  | _ => none }
def fnExactSearchNumberRow : OpenClaim := { program := "yteacpmdgojennaa", sum := "26e1f2ccd033bfa0f1076485de73d5e2912cb5aab235b9cd430e1e8385f8cdb7", func := "loop.example/g01109/laws.FnExactSearchNumber", spec := "fnExactSearchNumber", plainKeys := false, apart := false }
def FnExactSearchNumberSaid : Prop := fnExactSearchNumberRow.holds Try.pinned (OpenSpec.ofChange fnExactSearchNumberSpec)

/-- ITS FALSE NEIGHBOUR: 'it returns false'. Refute it at one input. -/
def fnExactSearchNumberWrong : ChangeSpec := { name := "fnExactSearchNumber", fn := fun _ => fun
  | [d] => { results := [.lit (.bool false)], args := [d] }
  | _ => none }
def FnExactSearchNumberWrongFalsely : Prop := fnExactSearchNumberRow.holds Try.pinned (OpenSpec.ofChange fnExactSearchNumberWrong)

/-- 'laws.FnExactShortestSearch': WHATEVER THE INPUT: true; the input reads as it did. -/
def fnExactShortestSearchSpec : ChangeSpec := { name := "fnExactShortestSearch", fn := fun _ => fun
  | [d1, d2] => { results := [.lit (.bool true)], args := [d1, d2] }
  | _ => none }
def fnExactShortestSearchRow : OpenClaim := { program := "yteacpmdgojennaa", sum := "26e1f2ccd033bfa0f1076485de73d5e2912cb5aab235b9cd430e1e8385f8cdb7", func := "loop.example/g01109/laws.FnExactShortestSearch", spec := "fnExactShortestSearch", plainKeys := false, apart := false }
def FnExactShortestSearchSaid : Prop := fnExactShortestSearchRow.holds Try.pinned (OpenSpec.ofChange fnExactShortestSearchSpec)

/-- ITS FALSE NEIGHBOUR: 'it returns false'. Refute it at one input. -/
def fnExactShortestSearchWrong : ChangeSpec := { name := "fnExactShortestSearch", fn := fun _ => fun
  | [d1, d2] => { results := [.lit (.bool false)], args := [d1, d2] }
  | _ => none }
def FnExactShortestSearchWrongFalsely : Prop := fnExactShortestSearchRow.holds Try.pinned (OpenSpec.ofChange fnExactShortestSearchWrong)

/-- 'laws.FnTreewidth': WHATEVER THE INPUT: true; the input reads as it did. -/
def fnTreewidthSpec : ChangeSpec := { name := "fnTreewidth", fn := fun _ => fun
  | [d] => { results := [.lit (.bool true)], args := [d] }
  | _ => none }
def fnTreewidthRow : OpenClaim := { program := "yteacpmdgojennaa", sum := "26e1f2ccd033bfa0f1076485de73d5e2912cb5aab235b9cd430e1e8385f8cdb7", func := "loop.example/g01109/laws.FnTreewidth", spec := "fnTreewidth", unfollowed := true, recurses := true, plainKeys := false, apart := false }
def FnTreewidthSaid : Prop := fnTreewidthRow.holds Try.pinned (OpenSpec.ofChange fnTreewidthSpec)

/-- ITS FALSE NEIGHBOUR: 'it returns false'. Refute it at one input. -/
def fnTreewidthWrong : ChangeSpec := { name := "fnTreewidth", fn := fun _ => fun
  | [d] => { results := [.lit (.bool false)], args := [d] }
  | _ => none }
def FnTreewidthWrongFalsely : Prop := fnTreewidthRow.holds Try.pinned (OpenSpec.ofChange fnTreewidthWrong)

/-- 'laws.FnCopNumbers': WHATEVER THE INPUT: true; the input reads as it did. -/
def fnCopNumbersSpec : ChangeSpec := { name := "fnCopNumbers", fn := fun _ => fun
  | [d] => { results := [.lit (.bool true)], args := [d] }
  | _ => none }
def fnCopNumbersRow : OpenClaim := { program := "yteacpmdgojennaa", sum := "26e1f2ccd033bfa0f1076485de73d5e2912cb5aab235b9cd430e1e8385f8cdb7", func := "loop.example/g01109/laws.FnCopNumbers", spec := "fnCopNumbers", unfollowed := true, recurses := true, plainKeys := false, apart := false }
def FnCopNumbersSaid : Prop := fnCopNumbersRow.holds Try.pinned (OpenSpec.ofChange fnCopNumbersSpec)

/-- ITS FALSE NEIGHBOUR: 'it returns false'. Refute it at one input. -/
def fnCopNumbersWrong : ChangeSpec := { name := "fnCopNumbers", fn := fun _ => fun
  | [d] => { results := [.lit (.bool false)], args := [d] }
  | _ => none }
def FnCopNumbersWrongFalsely : Prop := fnCopNumbersRow.holds Try.pinned (OpenSpec.ofChange fnCopNumbersWrong)

/-- 'laws.FnSearchNumber': WHATEVER THE INPUT: true; the input reads as it did. -/
def fnSearchNumberSpec : ChangeSpec := { name := "fnSearchNumber", fn := fun _ => fun
  | [d] => { results := [.lit (.bool true)], args := [d] }
  | _ => none }
def fnSearchNumberRow : OpenClaim := { program := "yteacpmdgojennaa", sum := "26e1f2ccd033bfa0f1076485de73d5e2912cb5aab235b9cd430e1e8385f8cdb7", func := "loop.example/g01109/laws.FnSearchNumber", spec := "fnSearchNumber", unfollowed := true, recurses := true, plainKeys := false, apart := false }
def FnSearchNumberSaid : Prop := fnSearchNumberRow.holds Try.pinned (OpenSpec.ofChange fnSearchNumberSpec)

/-- ITS FALSE NEIGHBOUR: 'it returns false'. Refute it at one input. -/
def fnSearchNumberWrong : ChangeSpec := { name := "fnSearchNumber", fn := fun _ => fun
  | [d] => { results := [.lit (.bool false)], args := [d] }
  | _ => none }
def FnSearchNumberWrongFalsely : Prop := fnSearchNumberRow.holds Try.pinned (OpenSpec.ofChange fnSearchNumberWrong)

/- THE SECOND FORM. 'bulk': how many values and letters a reading holds, each counted each time it is reached (what is shared counts as often as it is met; a slice's spare places count too). A statement '..UptoSaid' is the law's where the arguments, and the package variables that the reading takes, are together of bulk at most 1048576: NARROWER than '..Said'. Prove '..Said' where nothing that the law and all that it calls make is longer than what came in: it says more and counts as full. Else prove '..UptoSaid'. A law counts once. -/
mutual
def uptoBulk {H : Type} : DataW H → Nat
  | .lit (.string bytes) => bytes.length + 1
  | .lit _ => 1
  | .nil => 1
  | .ptr d => uptoBulk d + 1
  | .slice elems spare => uptoBulkAll elems + uptoBulkAll spare + 1
  | .agg parts => uptoBulkAll parts + 1
  | .iface _ d => uptoBulk d + 1
  | .map entries => uptoBulkEntries entries + 1
  | .held _ => 1
def uptoBulkAll {H : Type} : List (DataW H) → Nat
  | [] => 0
  | d :: r => uptoBulk d + uptoBulkAll r
def uptoBulkEntries {H : Type} : List (Lit × DataW H) → Nat
  | [] => 0
  | x :: r => uptoBulkEntry x + uptoBulkEntries r
def uptoBulkEntry {H : Type} : Lit × DataW H → Nat
  | (.string bytes, d) => bytes.length + uptoBulk d + 1
  | (_, d) => uptoBulk d + 1
 end
def uptoSmall : (H : Type) → List (DataW H) → Bool := fun _ ds => decide (uptoBulkAll ds ≤ 1048576)
def OpenSpec.upto (s : _root_.Go.ChangeSpec) : _root_.Go.OpenSpec := { _root_.Go.OpenSpec.ofChange s with cond := some uptoSmall }

/-- 'laws.FnExactPathwidthOf', WHERE WHAT IT READS IS OF BULK AT MOST 1048576: true; the input reads as it did. -/
def fnExactPathwidthOfUptoRow : OpenClaim := { program := "yteacpmdgojennaa", sum := "26e1f2ccd033bfa0f1076485de73d5e2912cb5aab235b9cd430e1e8385f8cdb7", func := "loop.example/g01109/laws.FnExactPathwidthOf", spec := "fnExactPathwidthOf", unfollowed := true, recurses := true, plainKeys := false, apart := false, narrowed := true }
def FnExactPathwidthOfUptoSaid : Prop := fnExactPathwidthOfUptoRow.holds Try.pinned (OpenSpec.upto fnExactPathwidthOfSpec)

/-- 'laws.FnExactBestLayout', WHERE WHAT IT READS IS OF BULK AT MOST 1048576: true; the input reads as it did. -/
def fnExactBestLayoutUptoRow : OpenClaim := { program := "yteacpmdgojennaa", sum := "26e1f2ccd033bfa0f1076485de73d5e2912cb5aab235b9cd430e1e8385f8cdb7", func := "loop.example/g01109/laws.FnExactBestLayout", spec := "fnExactBestLayout", unfollowed := true, recurses := true, plainKeys := false, apart := false, narrowed := true }
def FnExactBestLayoutUptoSaid : Prop := fnExactBestLayoutUptoRow.holds Try.pinned (OpenSpec.upto fnExactBestLayoutSpec)

/-- 'laws.FnExactFrontBound', WHERE WHAT IT READS IS OF BULK AT MOST 1048576: true; the input reads as it did. -/
def fnExactFrontBoundUptoRow : OpenClaim := { program := "yteacpmdgojennaa", sum := "26e1f2ccd033bfa0f1076485de73d5e2912cb5aab235b9cd430e1e8385f8cdb7", func := "loop.example/g01109/laws.FnExactFrontBound", spec := "fnExactFrontBound", plainKeys := false, apart := false, narrowed := true }
def FnExactFrontBoundUptoSaid : Prop := fnExactFrontBoundUptoRow.holds Try.pinned (OpenSpec.upto fnExactFrontBoundSpec)

/-- 'laws.FnExactSearchNumber', WHERE WHAT IT READS IS OF BULK AT MOST 1048576: true; the input reads as it did. -/
def fnExactSearchNumberUptoRow : OpenClaim := { program := "yteacpmdgojennaa", sum := "26e1f2ccd033bfa0f1076485de73d5e2912cb5aab235b9cd430e1e8385f8cdb7", func := "loop.example/g01109/laws.FnExactSearchNumber", spec := "fnExactSearchNumber", plainKeys := false, apart := false, narrowed := true }
def FnExactSearchNumberUptoSaid : Prop := fnExactSearchNumberUptoRow.holds Try.pinned (OpenSpec.upto fnExactSearchNumberSpec)

/-- 'laws.FnExactShortestSearch', WHERE WHAT IT READS IS OF BULK AT MOST 1048576: true; the input reads as it did. -/
def fnExactShortestSearchUptoRow : OpenClaim := { program := "yteacpmdgojennaa", sum := "26e1f2ccd033bfa0f1076485de73d5e2912cb5aab235b9cd430e1e8385f8cdb7", func := "loop.example/g01109/laws.FnExactShortestSearch", spec := "fnExactShortestSearch", plainKeys := false, apart := false, narrowed := true }
def FnExactShortestSearchUptoSaid : Prop := fnExactShortestSearchUptoRow.holds Try.pinned (OpenSpec.upto fnExactShortestSearchSpec)

/-- 'laws.FnTreewidth', WHERE WHAT IT READS IS OF BULK AT MOST 1048576: true; the input reads as it did. -/
def fnTreewidthUptoRow : OpenClaim := { program := "yteacpmdgojennaa", sum := "26e1f2ccd033bfa0f1076485de73d5e2912cb5aab235b9cd430e1e8385f8cdb7", func := "loop.example/g01109/laws.FnTreewidth", spec := "fnTreewidth", unfollowed := true, recurses := true, plainKeys := false, apart := false, narrowed := true }
def FnTreewidthUptoSaid : Prop := fnTreewidthUptoRow.holds Try.pinned (OpenSpec.upto fnTreewidthSpec)

/-- 'laws.FnCopNumbers', WHERE WHAT IT READS IS OF BULK AT MOST 1048576: true; the input reads as it did. -/
def fnCopNumbersUptoRow : OpenClaim := { program := "yteacpmdgojennaa", sum := "26e1f2ccd033bfa0f1076485de73d5e2912cb5aab235b9cd430e1e8385f8cdb7", func := "loop.example/g01109/laws.FnCopNumbers", spec := "fnCopNumbers", unfollowed := true, recurses := true, plainKeys := false, apart := false, narrowed := true }
def FnCopNumbersUptoSaid : Prop := fnCopNumbersUptoRow.holds Try.pinned (OpenSpec.upto fnCopNumbersSpec)

/-- 'laws.FnSearchNumber', WHERE WHAT IT READS IS OF BULK AT MOST 1048576: true; the input reads as it did. -/
def fnSearchNumberUptoRow : OpenClaim := { program := "yteacpmdgojennaa", sum := "26e1f2ccd033bfa0f1076485de73d5e2912cb5aab235b9cd430e1e8385f8cdb7", func := "loop.example/g01109/laws.FnSearchNumber", spec := "fnSearchNumber", unfollowed := true, recurses := true, plainKeys := false, apart := false, narrowed := true }
def FnSearchNumberUptoSaid : Prop := fnSearchNumberUptoRow.holds Try.pinned (OpenSpec.upto fnSearchNumberSpec)

end Rows
end Go.Proofs.Yteacpmdgojennaa
