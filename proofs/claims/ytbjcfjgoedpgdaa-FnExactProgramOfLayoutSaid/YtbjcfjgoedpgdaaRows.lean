/-
  No cell of these rows narrows 'for every input' (looked for: loops, veiled, ifaces, maps, wideKeys, modest, calm, conditions, laid).
  DERIVED. THE GIVEN ROWS OF THIS SEAT. 10 by the template 'for every input the law returns true; each argument reads behind the call as it read before'; 0 by the template 'total and deterministic' (their statements: YtbjcfjgoedpgdaaTotals.lean).
  GIVEN WITH THE SEED: the statements are not yours to turn. If you find one false, say at which input.
  Laid BY PROGRAM, IN A SANDBOX (cutbox-rows.mjs): the forced cells as the released guide's own fill.sh prints them over the translation 92023aaac5a8a505… (all of the seat's roots in one cut). By AI agents, Wed Nov 11 2026. No macro, syntax, notation, axiom, sorry.
-/
import Derived.Test.YtbjcfjgoedpgdaaChecked
import GoSem.Claim
import GoSem.ClaimJoined
import GoSem.ClaimMapViews
import Derived.JoinedTies
import Derived.KernelRfl
namespace Go.Proofs.Ytbjcfjgoedpgdaa
/- THE CELL 'sum', in the pinned program and in every row, IS THE sha256 OF THE DUMP (.gsa) THAT YtbjcfjgoedpgdaaProg.lean LOADS. Nothing in Lean hashes anything: it is a label: what it is worth is what the hold of that sum in a sandbox is worth. -/
noncomputable def Try.pinned : Pinned := { name := "ytbjcfjgoedpgdaa", sum := "92023aaac5a8a5055e999a4268fd38c0d94c7df47aeabb67b678a026572baec9", checked := Try.checked }
namespace Rows
def none {H : Type} : Left H := { results := [], args := [] }

/-- 'laws.FnExactIsLayout': WHATEVER THE INPUT: true; the input reads as it did. -/
def fnExactIsLayoutSpec : ChangeSpec := { name := "fnExactIsLayout", fn := fun _ => fun
  | [d1, d2] => { results := [.lit (.bool true)], args := [d1, d2] }
  | _ => none }
def fnExactIsLayoutRow : OpenClaim := { program := "ytbjcfjgoedpgdaa", sum := "92023aaac5a8a5055e999a4268fd38c0d94c7df47aeabb67b678a026572baec9", func := "loop.example/g01109/laws.FnExactIsLayout", spec := "fnExactIsLayout", apart := false }
def FnExactIsLayoutSaid : Prop := fnExactIsLayoutRow.holds Try.pinned (OpenSpec.ofChange fnExactIsLayoutSpec)

/-- ITS FALSE NEIGHBOUR: 'it returns false'. Refute it at one input. -/
def fnExactIsLayoutWrong : ChangeSpec := { name := "fnExactIsLayout", fn := fun _ => fun
  | [d1, d2] => { results := [.lit (.bool false)], args := [d1, d2] }
  | _ => none }
def FnExactIsLayoutWrongFalsely : Prop := fnExactIsLayoutRow.holds Try.pinned (OpenSpec.ofChange fnExactIsLayoutWrong)

/-- 'laws.FnExactFrontOf': WHATEVER THE INPUT: true; the input reads as it did. -/
def fnExactFrontOfSpec : ChangeSpec := { name := "fnExactFrontOf", fn := fun _ => fun
  | [d1, d2] => { results := [.lit (.bool true)], args := [d1, d2] }
  | _ => none }
def fnExactFrontOfRow : OpenClaim := { program := "ytbjcfjgoedpgdaa", sum := "92023aaac5a8a5055e999a4268fd38c0d94c7df47aeabb67b678a026572baec9", func := "loop.example/g01109/laws.FnExactFrontOf", spec := "fnExactFrontOf", unfollowed := true, recurses := true, apart := false }
def FnExactFrontOfSaid : Prop := fnExactFrontOfRow.holds Try.pinned (OpenSpec.ofChange fnExactFrontOfSpec)

/-- ITS FALSE NEIGHBOUR: 'it returns false'. Refute it at one input. -/
def fnExactFrontOfWrong : ChangeSpec := { name := "fnExactFrontOf", fn := fun _ => fun
  | [d1, d2] => { results := [.lit (.bool false)], args := [d1, d2] }
  | _ => none }
def FnExactFrontOfWrongFalsely : Prop := fnExactFrontOfRow.holds Try.pinned (OpenSpec.ofChange fnExactFrontOfWrong)

/-- 'laws.FnExactFrontSizes': WHATEVER THE INPUT: true; the input reads as it did. -/
def fnExactFrontSizesSpec : ChangeSpec := { name := "fnExactFrontSizes", fn := fun _ => fun
  | [d1, d2] => { results := [.lit (.bool true)], args := [d1, d2] }
  | _ => none }
def fnExactFrontSizesRow : OpenClaim := { program := "ytbjcfjgoedpgdaa", sum := "92023aaac5a8a5055e999a4268fd38c0d94c7df47aeabb67b678a026572baec9", func := "loop.example/g01109/laws.FnExactFrontSizes", spec := "fnExactFrontSizes", unfollowed := true, recurses := true, apart := false }
def FnExactFrontSizesSaid : Prop := fnExactFrontSizesRow.holds Try.pinned (OpenSpec.ofChange fnExactFrontSizesSpec)

/-- ITS FALSE NEIGHBOUR: 'it returns false'. Refute it at one input. -/
def fnExactFrontSizesWrong : ChangeSpec := { name := "fnExactFrontSizes", fn := fun _ => fun
  | [d1, d2] => { results := [.lit (.bool false)], args := [d1, d2] }
  | _ => none }
def FnExactFrontSizesWrongFalsely : Prop := fnExactFrontSizesRow.holds Try.pinned (OpenSpec.ofChange fnExactFrontSizesWrong)

/-- 'laws.FnExactBagsOfLayout': WHATEVER THE INPUT: true; the input reads as it did. -/
def fnExactBagsOfLayoutSpec : ChangeSpec := { name := "fnExactBagsOfLayout", fn := fun _ => fun
  | [d1, d2] => { results := [.lit (.bool true)], args := [d1, d2] }
  | _ => none }
def fnExactBagsOfLayoutRow : OpenClaim := { program := "ytbjcfjgoedpgdaa", sum := "92023aaac5a8a5055e999a4268fd38c0d94c7df47aeabb67b678a026572baec9", func := "loop.example/g01109/laws.FnExactBagsOfLayout", spec := "fnExactBagsOfLayout", unfollowed := true, recurses := true, apart := false }
def FnExactBagsOfLayoutSaid : Prop := fnExactBagsOfLayoutRow.holds Try.pinned (OpenSpec.ofChange fnExactBagsOfLayoutSpec)

/-- ITS FALSE NEIGHBOUR: 'it returns false'. Refute it at one input. -/
def fnExactBagsOfLayoutWrong : ChangeSpec := { name := "fnExactBagsOfLayout", fn := fun _ => fun
  | [d1, d2] => { results := [.lit (.bool false)], args := [d1, d2] }
  | _ => none }
def FnExactBagsOfLayoutWrongFalsely : Prop := fnExactBagsOfLayoutRow.holds Try.pinned (OpenSpec.ofChange fnExactBagsOfLayoutWrong)

/-- 'laws.FnExactIsProgram': WHATEVER THE INPUT: true; the input reads as it did. -/
def fnExactIsProgramSpec : ChangeSpec := { name := "fnExactIsProgram", fn := fun _ => fun
  | [d1, d2] => { results := [.lit (.bool true)], args := [d1, d2] }
  | _ => none }
def fnExactIsProgramRow : OpenClaim := { program := "ytbjcfjgoedpgdaa", sum := "92023aaac5a8a5055e999a4268fd38c0d94c7df47aeabb67b678a026572baec9", func := "loop.example/g01109/laws.FnExactIsProgram", spec := "fnExactIsProgram", apart := false }
def FnExactIsProgramSaid : Prop := fnExactIsProgramRow.holds Try.pinned (OpenSpec.ofChange fnExactIsProgramSpec)

/-- ITS FALSE NEIGHBOUR: 'it returns false'. Refute it at one input. -/
def fnExactIsProgramWrong : ChangeSpec := { name := "fnExactIsProgram", fn := fun _ => fun
  | [d1, d2] => { results := [.lit (.bool false)], args := [d1, d2] }
  | _ => none }
def FnExactIsProgramWrongFalsely : Prop := fnExactIsProgramRow.holds Try.pinned (OpenSpec.ofChange fnExactIsProgramWrong)

/-- 'laws.FnExactRunProgram': WHATEVER THE INPUT: true; the input reads as it did. -/
def fnExactRunProgramSpec : ChangeSpec := { name := "fnExactRunProgram", fn := fun _ => fun
  | [d1, d2] => { results := [.lit (.bool true)], args := [d1, d2] }
  | _ => none }
def fnExactRunProgramRow : OpenClaim := { program := "ytbjcfjgoedpgdaa", sum := "92023aaac5a8a5055e999a4268fd38c0d94c7df47aeabb67b678a026572baec9", func := "loop.example/g01109/laws.FnExactRunProgram", spec := "fnExactRunProgram", unfollowed := true, recurses := true, apart := false }
def FnExactRunProgramSaid : Prop := fnExactRunProgramRow.holds Try.pinned (OpenSpec.ofChange fnExactRunProgramSpec)

/-- ITS FALSE NEIGHBOUR: 'it returns false'. Refute it at one input. -/
def fnExactRunProgramWrong : ChangeSpec := { name := "fnExactRunProgram", fn := fun _ => fun
  | [d1, d2] => { results := [.lit (.bool false)], args := [d1, d2] }
  | _ => none }
def FnExactRunProgramWrongFalsely : Prop := fnExactRunProgramRow.holds Try.pinned (OpenSpec.ofChange fnExactRunProgramWrong)

/-- 'laws.FnExactSearchersUsed': WHATEVER THE INPUT: true; the input reads as it did. -/
def fnExactSearchersUsedSpec : ChangeSpec := { name := "fnExactSearchersUsed", fn := fun _ => fun
  | [d1, d2] => { results := [.lit (.bool true)], args := [d1, d2] }
  | _ => none }
def fnExactSearchersUsedRow : OpenClaim := { program := "ytbjcfjgoedpgdaa", sum := "92023aaac5a8a5055e999a4268fd38c0d94c7df47aeabb67b678a026572baec9", func := "loop.example/g01109/laws.FnExactSearchersUsed", spec := "fnExactSearchersUsed", apart := false }
def FnExactSearchersUsedSaid : Prop := fnExactSearchersUsedRow.holds Try.pinned (OpenSpec.ofChange fnExactSearchersUsedSpec)

/-- ITS FALSE NEIGHBOUR: 'it returns false'. Refute it at one input. -/
def fnExactSearchersUsedWrong : ChangeSpec := { name := "fnExactSearchersUsed", fn := fun _ => fun
  | [d1, d2] => { results := [.lit (.bool false)], args := [d1, d2] }
  | _ => none }
def FnExactSearchersUsedWrongFalsely : Prop := fnExactSearchersUsedRow.holds Try.pinned (OpenSpec.ofChange fnExactSearchersUsedWrong)

/-- 'laws.FnExactIsClearing': WHATEVER THE INPUT: true; the input reads as it did. -/
def fnExactIsClearingSpec : ChangeSpec := { name := "fnExactIsClearing", fn := fun _ => fun
  | [d1, d2] => { results := [.lit (.bool true)], args := [d1, d2] }
  | _ => none }
def fnExactIsClearingRow : OpenClaim := { program := "ytbjcfjgoedpgdaa", sum := "92023aaac5a8a5055e999a4268fd38c0d94c7df47aeabb67b678a026572baec9", func := "loop.example/g01109/laws.FnExactIsClearing", spec := "fnExactIsClearing", apart := false }
def FnExactIsClearingSaid : Prop := fnExactIsClearingRow.holds Try.pinned (OpenSpec.ofChange fnExactIsClearingSpec)

/-- ITS FALSE NEIGHBOUR: 'it returns false'. Refute it at one input. -/
def fnExactIsClearingWrong : ChangeSpec := { name := "fnExactIsClearing", fn := fun _ => fun
  | [d1, d2] => { results := [.lit (.bool false)], args := [d1, d2] }
  | _ => none }
def FnExactIsClearingWrongFalsely : Prop := fnExactIsClearingRow.holds Try.pinned (OpenSpec.ofChange fnExactIsClearingWrong)

/-- 'laws.FnExactIsSteady': WHATEVER THE INPUT: true; the input reads as it did. -/
def fnExactIsSteadySpec : ChangeSpec := { name := "fnExactIsSteady", fn := fun _ => fun
  | [d1, d2] => { results := [.lit (.bool true)], args := [d1, d2] }
  | _ => none }
def fnExactIsSteadyRow : OpenClaim := { program := "ytbjcfjgoedpgdaa", sum := "92023aaac5a8a5055e999a4268fd38c0d94c7df47aeabb67b678a026572baec9", func := "loop.example/g01109/laws.FnExactIsSteady", spec := "fnExactIsSteady", apart := false }
def FnExactIsSteadySaid : Prop := fnExactIsSteadyRow.holds Try.pinned (OpenSpec.ofChange fnExactIsSteadySpec)

/-- ITS FALSE NEIGHBOUR: 'it returns false'. Refute it at one input. -/
def fnExactIsSteadyWrong : ChangeSpec := { name := "fnExactIsSteady", fn := fun _ => fun
  | [d1, d2] => { results := [.lit (.bool false)], args := [d1, d2] }
  | _ => none }
def FnExactIsSteadyWrongFalsely : Prop := fnExactIsSteadyRow.holds Try.pinned (OpenSpec.ofChange fnExactIsSteadyWrong)

/-- 'laws.FnExactProgramOfLayout': WHATEVER THE INPUT: true; the input reads as it did. -/
def fnExactProgramOfLayoutSpec : ChangeSpec := { name := "fnExactProgramOfLayout", fn := fun _ => fun
  | [d1, d2] => { results := [.lit (.bool true)], args := [d1, d2] }
  | _ => none }
def fnExactProgramOfLayoutRow : OpenClaim := { program := "ytbjcfjgoedpgdaa", sum := "92023aaac5a8a5055e999a4268fd38c0d94c7df47aeabb67b678a026572baec9", func := "loop.example/g01109/laws.FnExactProgramOfLayout", spec := "fnExactProgramOfLayout", unfollowed := true, recurses := true, apart := false }
def FnExactProgramOfLayoutSaid : Prop := fnExactProgramOfLayoutRow.holds Try.pinned (OpenSpec.ofChange fnExactProgramOfLayoutSpec)

/-- ITS FALSE NEIGHBOUR: 'it returns false'. Refute it at one input. -/
def fnExactProgramOfLayoutWrong : ChangeSpec := { name := "fnExactProgramOfLayout", fn := fun _ => fun
  | [d1, d2] => { results := [.lit (.bool false)], args := [d1, d2] }
  | _ => none }
def FnExactProgramOfLayoutWrongFalsely : Prop := fnExactProgramOfLayoutRow.holds Try.pinned (OpenSpec.ofChange fnExactProgramOfLayoutWrong)

/- THE SECOND FORM. 'bulk': how many values and letters a reading holds, each counted each time it is reached (what is shared counts as often as it is met; a slice's spare places count too). A statement '..UptoSaid' is the law's where the arguments, and the package variables that the reading takes, are together of bulk at most 1048576: NARROWER than '..Said'. Prove '..Said' where nothing that the law and all that it calls make is longer than what came in: it says more and counts as full. Else prove '..UptoSaid'. A law counts once. -/
mutual
def uptoBulk {H : Type} : DataW H → Nat
  | .lit (.string bytes) => bytes.length + 1
  | .lit _ => 1
  | .nil => 1
  | .ptr d => uptoBulk d + 1
  | .slice elems spare => uptoBulkAll elems + uptoBulkAll spare + 1
  | .agg parts => uptoBulkAll parts + 1
  | .iface _ d => uptoBulk d + 1
  | .map entries => uptoBulkEntries entries + 1
  | .held _ => 1
def uptoBulkAll {H : Type} : List (DataW H) → Nat
  | [] => 0
  | d :: r => uptoBulk d + uptoBulkAll r
def uptoBulkEntries {H : Type} : List (Lit × DataW H) → Nat
  | [] => 0
  | x :: r => uptoBulkEntry x + uptoBulkEntries r
def uptoBulkEntry {H : Type} : Lit × DataW H → Nat
  | (.string bytes, d) => bytes.length + uptoBulk d + 1
  | (_, d) => uptoBulk d + 1
 end
def uptoSmall : (H : Type) → List (DataW H) → Bool := fun _ ds => decide (uptoBulkAll ds ≤ 1048576)
def OpenSpec.upto (s : _root_.Go.ChangeSpec) : _root_.Go.OpenSpec := { _root_.Go.OpenSpec.ofChange s with cond := some uptoSmall }

/-- 'laws.FnExactIsLayout', WHERE WHAT IT READS IS OF BULK AT MOST 1048576: true; the input reads as it did. -/
def fnExactIsLayoutUptoRow : OpenClaim := { program := "ytbjcfjgoedpgdaa", sum := "92023aaac5a8a5055e999a4268fd38c0d94c7df47aeabb67b678a026572baec9", func := "loop.example/g01109/laws.FnExactIsLayout", spec := "fnExactIsLayout", apart := false, narrowed := true }
def FnExactIsLayoutUptoSaid : Prop := fnExactIsLayoutUptoRow.holds Try.pinned (OpenSpec.upto fnExactIsLayoutSpec)

/-- 'laws.FnExactFrontOf', WHERE WHAT IT READS IS OF BULK AT MOST 1048576: true; the input reads as it did. -/
def fnExactFrontOfUptoRow : OpenClaim := { program := "ytbjcfjgoedpgdaa", sum := "92023aaac5a8a5055e999a4268fd38c0d94c7df47aeabb67b678a026572baec9", func := "loop.example/g01109/laws.FnExactFrontOf", spec := "fnExactFrontOf", unfollowed := true, recurses := true, apart := false, narrowed := true }
def FnExactFrontOfUptoSaid : Prop := fnExactFrontOfUptoRow.holds Try.pinned (OpenSpec.upto fnExactFrontOfSpec)

/-- 'laws.FnExactFrontSizes', WHERE WHAT IT READS IS OF BULK AT MOST 1048576: true; the input reads as it did. -/
def fnExactFrontSizesUptoRow : OpenClaim := { program := "ytbjcfjgoedpgdaa", sum := "92023aaac5a8a5055e999a4268fd38c0d94c7df47aeabb67b678a026572baec9", func := "loop.example/g01109/laws.FnExactFrontSizes", spec := "fnExactFrontSizes", unfollowed := true, recurses := true, apart := false, narrowed := true }
def FnExactFrontSizesUptoSaid : Prop := fnExactFrontSizesUptoRow.holds Try.pinned (OpenSpec.upto fnExactFrontSizesSpec)

/-- 'laws.FnExactBagsOfLayout', WHERE WHAT IT READS IS OF BULK AT MOST 1048576: true; the input reads as it did. -/
def fnExactBagsOfLayoutUptoRow : OpenClaim := { program := "ytbjcfjgoedpgdaa", sum := "92023aaac5a8a5055e999a4268fd38c0d94c7df47aeabb67b678a026572baec9", func := "loop.example/g01109/laws.FnExactBagsOfLayout", spec := "fnExactBagsOfLayout", unfollowed := true, recurses := true, apart := false, narrowed := true }
def FnExactBagsOfLayoutUptoSaid : Prop := fnExactBagsOfLayoutUptoRow.holds Try.pinned (OpenSpec.upto fnExactBagsOfLayoutSpec)

/-- 'laws.FnExactIsProgram', WHERE WHAT IT READS IS OF BULK AT MOST 1048576: true; the input reads as it did. -/
def fnExactIsProgramUptoRow : OpenClaim := { program := "ytbjcfjgoedpgdaa", sum := "92023aaac5a8a5055e999a4268fd38c0d94c7df47aeabb67b678a026572baec9", func := "loop.example/g01109/laws.FnExactIsProgram", spec := "fnExactIsProgram", apart := false, narrowed := true }
def FnExactIsProgramUptoSaid : Prop := fnExactIsProgramUptoRow.holds Try.pinned (OpenSpec.upto fnExactIsProgramSpec)

/-- 'laws.FnExactRunProgram', WHERE WHAT IT READS IS OF BULK AT MOST 1048576: true; the input reads as it did. -/
def fnExactRunProgramUptoRow : OpenClaim := { program := "ytbjcfjgoedpgdaa", sum := "92023aaac5a8a5055e999a4268fd38c0d94c7df47aeabb67b678a026572baec9", func := "loop.example/g01109/laws.FnExactRunProgram", spec := "fnExactRunProgram", unfollowed := true, recurses := true, apart := false, narrowed := true }
def FnExactRunProgramUptoSaid : Prop := fnExactRunProgramUptoRow.holds Try.pinned (OpenSpec.upto fnExactRunProgramSpec)

/-- 'laws.FnExactSearchersUsed', WHERE WHAT IT READS IS OF BULK AT MOST 1048576: true; the input reads as it did. -/
def fnExactSearchersUsedUptoRow : OpenClaim := { program := "ytbjcfjgoedpgdaa", sum := "92023aaac5a8a5055e999a4268fd38c0d94c7df47aeabb67b678a026572baec9", func := "loop.example/g01109/laws.FnExactSearchersUsed", spec := "fnExactSearchersUsed", apart := false, narrowed := true }
def FnExactSearchersUsedUptoSaid : Prop := fnExactSearchersUsedUptoRow.holds Try.pinned (OpenSpec.upto fnExactSearchersUsedSpec)

/-- 'laws.FnExactIsClearing', WHERE WHAT IT READS IS OF BULK AT MOST 1048576: true; the input reads as it did. -/
def fnExactIsClearingUptoRow : OpenClaim := { program := "ytbjcfjgoedpgdaa", sum := "92023aaac5a8a5055e999a4268fd38c0d94c7df47aeabb67b678a026572baec9", func := "loop.example/g01109/laws.FnExactIsClearing", spec := "fnExactIsClearing", apart := false, narrowed := true }
def FnExactIsClearingUptoSaid : Prop := fnExactIsClearingUptoRow.holds Try.pinned (OpenSpec.upto fnExactIsClearingSpec)

/-- 'laws.FnExactIsSteady', WHERE WHAT IT READS IS OF BULK AT MOST 1048576: true; the input reads as it did. -/
def fnExactIsSteadyUptoRow : OpenClaim := { program := "ytbjcfjgoedpgdaa", sum := "92023aaac5a8a5055e999a4268fd38c0d94c7df47aeabb67b678a026572baec9", func := "loop.example/g01109/laws.FnExactIsSteady", spec := "fnExactIsSteady", apart := false, narrowed := true }
def FnExactIsSteadyUptoSaid : Prop := fnExactIsSteadyUptoRow.holds Try.pinned (OpenSpec.upto fnExactIsSteadySpec)

/-- 'laws.FnExactProgramOfLayout', WHERE WHAT IT READS IS OF BULK AT MOST 1048576: true; the input reads as it did. -/
def fnExactProgramOfLayoutUptoRow : OpenClaim := { program := "ytbjcfjgoedpgdaa", sum := "92023aaac5a8a5055e999a4268fd38c0d94c7df47aeabb67b678a026572baec9", func := "loop.example/g01109/laws.FnExactProgramOfLayout", spec := "fnExactProgramOfLayout", unfollowed := true, recurses := true, apart := false, narrowed := true }
def FnExactProgramOfLayoutUptoSaid : Prop := fnExactProgramOfLayoutUptoRow.holds Try.pinned (OpenSpec.upto fnExactProgramOfLayoutSpec)

end Rows
end Go.Proofs.Ytbjcfjgoedpgdaa
