/-
  No cell of these rows narrows 'for every input' (looked for: loops, veiled, ifaces, maps, wideKeys, modest, calm, conditions, laid).
  DERIVED. THE GIVEN ROWS OF THIS SEAT. 12 by the template 'for every input the law returns true; each argument reads behind the call as it read before'; 0 by the template 'total and deterministic' (their statements: YtnmidgnkjpcpgaaTotals.lean).
  GIVEN WITH THE SEED: the statements are not yours to turn. If you find one false, say at which input.
  Laid BY PROGRAM, IN A SANDBOX (cutbox-rows.mjs): the forced cells as the released guide's own fill.sh prints them over the translation 406faf1c07c5ffbf… (all of the seat's roots in one cut). By AI agents, Wed Nov 11 2026. No macro, syntax, notation, axiom, sorry.
-/
import Derived.Test.YtnmidgnkjpcpgaaChecked
import GoSem.Claim
import GoSem.ClaimJoined
import GoSem.ClaimMapViews
import Derived.JoinedTies
import Derived.KernelRfl
namespace Go.Proofs.Ytnmidgnkjpcpgaa
/- THE CELL 'sum', in the pinned program and in every row, IS THE sha256 OF THE DUMP (.gsa) THAT YtnmidgnkjpcpgaaProg.lean LOADS. Nothing in Lean hashes anything: it is a label: what it is worth is what the hold of that sum in a sandbox is worth. -/
noncomputable def Try.pinned : Pinned := { name := "ytnmidgnkjpcpgaa", sum := "406faf1c07c5ffbfc6720649aba2277fe4510e09a5d0d0d9682c10ea6c99a969", checked := Try.checked }
namespace Rows
def none {H : Type} : Left H := { results := [], args := [] }

/-- 'laws.FnExactIsStopping': WHATEVER THE INPUT: true; the input reads as it did. -/
def fnExactIsStoppingSpec : ChangeSpec := { name := "fnExactIsStopping", fn := fun _ => fun
  | [d1, d2, d3] => { results := [.lit (.bool true)], args := [d1, d2, d3] }
  | _ => none }
def fnExactIsStoppingRow : OpenClaim := { program := "ytnmidgnkjpcpgaa", sum := "406faf1c07c5ffbfc6720649aba2277fe4510e09a5d0d0d9682c10ea6c99a969", func := "loop.example/g01109/laws.FnExactIsStopping", spec := "fnExactIsStopping", unfollowed := true, recurses := true, apart := false }
def FnExactIsStoppingSaid : Prop := fnExactIsStoppingRow.holds Try.pinned (OpenSpec.ofChange fnExactIsStoppingSpec)

/-- ITS FALSE NEIGHBOUR: 'it returns false'. Refute it at one input. -/
def fnExactIsStoppingWrong : ChangeSpec := { name := "fnExactIsStopping", fn := fun _ => fun
  | [d1, d2, d3] => { results := [.lit (.bool false)], args := [d1, d2, d3] }
  | _ => none }
def FnExactIsStoppingWrongFalsely : Prop := fnExactIsStoppingRow.holds Try.pinned (OpenSpec.ofChange fnExactIsStoppingWrong)

/-- 'laws.FnExactSpreadOf': WHATEVER THE INPUT: true; the input reads as it did. -/
def fnExactSpreadOfSpec : ChangeSpec := { name := "fnExactSpreadOf", fn := fun _ => fun
  | [d1, d2, d3] => { results := [.lit (.bool true)], args := [d1, d2, d3] }
  | _ => none }
def fnExactSpreadOfRow : OpenClaim := { program := "ytnmidgnkjpcpgaa", sum := "406faf1c07c5ffbfc6720649aba2277fe4510e09a5d0d0d9682c10ea6c99a969", func := "loop.example/g01109/laws.FnExactSpreadOf", spec := "fnExactSpreadOf", unfollowed := true, recurses := true, apart := false }
def FnExactSpreadOfSaid : Prop := fnExactSpreadOfRow.holds Try.pinned (OpenSpec.ofChange fnExactSpreadOfSpec)

/-- ITS FALSE NEIGHBOUR: 'it returns false'. Refute it at one input. -/
def fnExactSpreadOfWrong : ChangeSpec := { name := "fnExactSpreadOf", fn := fun _ => fun
  | [d1, d2, d3] => { results := [.lit (.bool false)], args := [d1, d2, d3] }
  | _ => none }
def FnExactSpreadOfWrongFalsely : Prop := fnExactSpreadOfRow.holds Try.pinned (OpenSpec.ofChange fnExactSpreadOfWrong)

/-- 'laws.FnExactLeastSpreading': WHATEVER THE INPUT: true; the input reads as it did. -/
def fnExactLeastSpreadingSpec : ChangeSpec := { name := "fnExactLeastSpreading", fn := fun _ => fun
  | [d1, d2] => { results := [.lit (.bool true)], args := [d1, d2] }
  | _ => none }
def fnExactLeastSpreadingRow : OpenClaim := { program := "ytnmidgnkjpcpgaa", sum := "406faf1c07c5ffbfc6720649aba2277fe4510e09a5d0d0d9682c10ea6c99a969", func := "loop.example/g01109/laws.FnExactLeastSpreading", spec := "fnExactLeastSpreading", unfollowed := true, recurses := true, apart := false }
def FnExactLeastSpreadingSaid : Prop := fnExactLeastSpreadingRow.holds Try.pinned (OpenSpec.ofChange fnExactLeastSpreadingSpec)

/-- ITS FALSE NEIGHBOUR: 'it returns false'. Refute it at one input. -/
def fnExactLeastSpreadingWrong : ChangeSpec := { name := "fnExactLeastSpreading", fn := fun _ => fun
  | [d1, d2] => { results := [.lit (.bool false)], args := [d1, d2] }
  | _ => none }
def FnExactLeastSpreadingWrongFalsely : Prop := fnExactLeastSpreadingRow.holds Try.pinned (OpenSpec.ofChange fnExactLeastSpreadingWrong)

/-- 'laws.FnExactIsFarSet': WHATEVER THE INPUT: true; the input reads as it did. -/
def fnExactIsFarSetSpec : ChangeSpec := { name := "fnExactIsFarSet", fn := fun _ => fun
  | [d1, d2, d3] => { results := [.lit (.bool true)], args := [d1, d2, d3] }
  | _ => none }
def fnExactIsFarSetRow : OpenClaim := { program := "ytnmidgnkjpcpgaa", sum := "406faf1c07c5ffbfc6720649aba2277fe4510e09a5d0d0d9682c10ea6c99a969", func := "loop.example/g01109/laws.FnExactIsFarSet", spec := "fnExactIsFarSet", unfollowed := true, recurses := true, apart := false }
def FnExactIsFarSetSaid : Prop := fnExactIsFarSetRow.holds Try.pinned (OpenSpec.ofChange fnExactIsFarSetSpec)

/-- ITS FALSE NEIGHBOUR: 'it returns false'. Refute it at one input. -/
def fnExactIsFarSetWrong : ChangeSpec := { name := "fnExactIsFarSet", fn := fun _ => fun
  | [d1, d2, d3] => { results := [.lit (.bool false)], args := [d1, d2, d3] }
  | _ => none }
def FnExactIsFarSetWrongFalsely : Prop := fnExactIsFarSetRow.holds Try.pinned (OpenSpec.ofChange fnExactIsFarSetWrong)

/-- 'laws.FnExactLargestFarSet': WHATEVER THE INPUT: true; the input reads as it did. -/
def fnExactLargestFarSetSpec : ChangeSpec := { name := "fnExactLargestFarSet", fn := fun _ => fun
  | [d1, d2] => { results := [.lit (.bool true)], args := [d1, d2] }
  | _ => none }
def fnExactLargestFarSetRow : OpenClaim := { program := "ytnmidgnkjpcpgaa", sum := "406faf1c07c5ffbfc6720649aba2277fe4510e09a5d0d0d9682c10ea6c99a969", func := "loop.example/g01109/laws.FnExactLargestFarSet", spec := "fnExactLargestFarSet", unfollowed := true, recurses := true, apart := false }
def FnExactLargestFarSetSaid : Prop := fnExactLargestFarSetRow.holds Try.pinned (OpenSpec.ofChange fnExactLargestFarSetSpec)

/-- ITS FALSE NEIGHBOUR: 'it returns false'. Refute it at one input. -/
def fnExactLargestFarSetWrong : ChangeSpec := { name := "fnExactLargestFarSet", fn := fun _ => fun
  | [d1, d2] => { results := [.lit (.bool false)], args := [d1, d2] }
  | _ => none }
def FnExactLargestFarSetWrongFalsely : Prop := fnExactLargestFarSetRow.holds Try.pinned (OpenSpec.ofChange fnExactLargestFarSetWrong)

/-- 'laws.FnExactFarBound': WHATEVER THE INPUT: true; the input reads as it did. -/
def fnExactFarBoundSpec : ChangeSpec := { name := "fnExactFarBound", fn := fun _ => fun
  | [d] => { results := [.lit (.bool true)], args := [d] }
  | _ => none }
def fnExactFarBoundRow : OpenClaim := { program := "ytnmidgnkjpcpgaa", sum := "406faf1c07c5ffbfc6720649aba2277fe4510e09a5d0d0d9682c10ea6c99a969", func := "loop.example/g01109/laws.FnExactFarBound", spec := "fnExactFarBound", unfollowed := true, recurses := true, apart := false }
def FnExactFarBoundSaid : Prop := fnExactFarBoundRow.holds Try.pinned (OpenSpec.ofChange fnExactFarBoundSpec)

/-- ITS FALSE NEIGHBOUR: 'it returns false'. Refute it at one input. -/
def fnExactFarBoundWrong : ChangeSpec := { name := "fnExactFarBound", fn := fun _ => fun
  | [d] => { results := [.lit (.bool false)], args := [d] }
  | _ => none }
def FnExactFarBoundWrongFalsely : Prop := fnExactFarBoundRow.holds Try.pinned (OpenSpec.ofChange fnExactFarBoundWrong)

/-- 'laws.FnExactBurntBy': WHATEVER THE INPUT: true; the input reads as it did. -/
def fnExactBurntBySpec : ChangeSpec := { name := "fnExactBurntBy", fn := fun _ => fun
  | [d1, d2] => { results := [.lit (.bool true)], args := [d1, d2] }
  | _ => none }
def fnExactBurntByRow : OpenClaim := { program := "ytnmidgnkjpcpgaa", sum := "406faf1c07c5ffbfc6720649aba2277fe4510e09a5d0d0d9682c10ea6c99a969", func := "loop.example/g01109/laws.FnExactBurntBy", spec := "fnExactBurntBy", unfollowed := true, recurses := true, apart := false }
def FnExactBurntBySaid : Prop := fnExactBurntByRow.holds Try.pinned (OpenSpec.ofChange fnExactBurntBySpec)

/-- ITS FALSE NEIGHBOUR: 'it returns false'. Refute it at one input. -/
def fnExactBurntByWrong : ChangeSpec := { name := "fnExactBurntBy", fn := fun _ => fun
  | [d1, d2] => { results := [.lit (.bool false)], args := [d1, d2] }
  | _ => none }
def FnExactBurntByWrongFalsely : Prop := fnExactBurntByRow.holds Try.pinned (OpenSpec.ofChange fnExactBurntByWrong)

/-- 'laws.FnExactBurningNumber': WHATEVER THE INPUT: true; the input reads as it did. -/
def fnExactBurningNumberSpec : ChangeSpec := { name := "fnExactBurningNumber", fn := fun _ => fun
  | [d] => { results := [.lit (.bool true)], args := [d] }
  | _ => none }
def fnExactBurningNumberRow : OpenClaim := { program := "ytnmidgnkjpcpgaa", sum := "406faf1c07c5ffbfc6720649aba2277fe4510e09a5d0d0d9682c10ea6c99a969", func := "loop.example/g01109/laws.FnExactBurningNumber", spec := "fnExactBurningNumber", unfollowed := true, recurses := true, apart := false }
def FnExactBurningNumberSaid : Prop := fnExactBurningNumberRow.holds Try.pinned (OpenSpec.ofChange fnExactBurningNumberSpec)

/-- ITS FALSE NEIGHBOUR: 'it returns false'. Refute it at one input. -/
def fnExactBurningNumberWrong : ChangeSpec := { name := "fnExactBurningNumber", fn := fun _ => fun
  | [d] => { results := [.lit (.bool false)], args := [d] }
  | _ => none }
def FnExactBurningNumberWrongFalsely : Prop := fnExactBurningNumberRow.holds Try.pinned (OpenSpec.ofChange fnExactBurningNumberWrong)

/-- 'laws.FnExactBestBurning': WHATEVER THE INPUT: true; the input reads as it did. -/
def fnExactBestBurningSpec : ChangeSpec := { name := "fnExactBestBurning", fn := fun _ => fun
  | [d] => { results := [.lit (.bool true)], args := [d] }
  | _ => none }
def fnExactBestBurningRow : OpenClaim := { program := "ytnmidgnkjpcpgaa", sum := "406faf1c07c5ffbfc6720649aba2277fe4510e09a5d0d0d9682c10ea6c99a969", func := "loop.example/g01109/laws.FnExactBestBurning", spec := "fnExactBestBurning", unfollowed := true, recurses := true, apart := false }
def FnExactBestBurningSaid : Prop := fnExactBestBurningRow.holds Try.pinned (OpenSpec.ofChange fnExactBestBurningSpec)

/-- ITS FALSE NEIGHBOUR: 'it returns false'. Refute it at one input. -/
def fnExactBestBurningWrong : ChangeSpec := { name := "fnExactBestBurning", fn := fun _ => fun
  | [d] => { results := [.lit (.bool false)], args := [d] }
  | _ => none }
def FnExactBestBurningWrongFalsely : Prop := fnExactBestBurningRow.holds Try.pinned (OpenSpec.ofChange fnExactBestBurningWrong)

/-- 'laws.FnExactMostSaved': WHATEVER THE INPUT: true; the input reads as it did. -/
def fnExactMostSavedSpec : ChangeSpec := { name := "fnExactMostSaved", fn := fun _ => fun
  | [d1, d2, d3] => { results := [.lit (.bool true)], args := [d1, d2, d3] }
  | _ => none }
def fnExactMostSavedRow : OpenClaim := { program := "ytnmidgnkjpcpgaa", sum := "406faf1c07c5ffbfc6720649aba2277fe4510e09a5d0d0d9682c10ea6c99a969", func := "loop.example/g01109/laws.FnExactMostSaved", spec := "fnExactMostSaved", unfollowed := true, recurses := true, apart := false }
def FnExactMostSavedSaid : Prop := fnExactMostSavedRow.holds Try.pinned (OpenSpec.ofChange fnExactMostSavedSpec)

/-- ITS FALSE NEIGHBOUR: 'it returns false'. Refute it at one input. -/
def fnExactMostSavedWrong : ChangeSpec := { name := "fnExactMostSaved", fn := fun _ => fun
  | [d1, d2, d3] => { results := [.lit (.bool false)], args := [d1, d2, d3] }
  | _ => none }
def FnExactMostSavedWrongFalsely : Prop := fnExactMostSavedRow.holds Try.pinned (OpenSpec.ofChange fnExactMostSavedWrong)

/-- 'laws.FnExactBestFirePlan': WHATEVER THE INPUT: true; the input reads as it did. -/
def fnExactBestFirePlanSpec : ChangeSpec := { name := "fnExactBestFirePlan", fn := fun _ => fun
  | [d1, d2, d3] => { results := [.lit (.bool true)], args := [d1, d2, d3] }
  | _ => none }
def fnExactBestFirePlanRow : OpenClaim := { program := "ytnmidgnkjpcpgaa", sum := "406faf1c07c5ffbfc6720649aba2277fe4510e09a5d0d0d9682c10ea6c99a969", func := "loop.example/g01109/laws.FnExactBestFirePlan", spec := "fnExactBestFirePlan", unfollowed := true, recurses := true, apart := false }
def FnExactBestFirePlanSaid : Prop := fnExactBestFirePlanRow.holds Try.pinned (OpenSpec.ofChange fnExactBestFirePlanSpec)

/-- ITS FALSE NEIGHBOUR: 'it returns false'. Refute it at one input. -/
def fnExactBestFirePlanWrong : ChangeSpec := { name := "fnExactBestFirePlan", fn := fun _ => fun
  | [d1, d2, d3] => { results := [.lit (.bool false)], args := [d1, d2, d3] }
  | _ => none }
def FnExactBestFirePlanWrongFalsely : Prop := fnExactBestFirePlanRow.holds Try.pinned (OpenSpec.ofChange fnExactBestFirePlanWrong)

/-- 'laws.FnExactSavedSum': WHATEVER THE INPUT: true; the input reads as it did. -/
def fnExactSavedSumSpec : ChangeSpec := { name := "fnExactSavedSum", fn := fun _ => fun
  | [d1, d2] => { results := [.lit (.bool true)], args := [d1, d2] }
  | _ => none }
def fnExactSavedSumRow : OpenClaim := { program := "ytnmidgnkjpcpgaa", sum := "406faf1c07c5ffbfc6720649aba2277fe4510e09a5d0d0d9682c10ea6c99a969", func := "loop.example/g01109/laws.FnExactSavedSum", spec := "fnExactSavedSum", unfollowed := true, recurses := true, apart := false }
def FnExactSavedSumSaid : Prop := fnExactSavedSumRow.holds Try.pinned (OpenSpec.ofChange fnExactSavedSumSpec)

/-- ITS FALSE NEIGHBOUR: 'it returns false'. Refute it at one input. -/
def fnExactSavedSumWrong : ChangeSpec := { name := "fnExactSavedSum", fn := fun _ => fun
  | [d1, d2] => { results := [.lit (.bool false)], args := [d1, d2] }
  | _ => none }
def FnExactSavedSumWrongFalsely : Prop := fnExactSavedSumRow.holds Try.pinned (OpenSpec.ofChange fnExactSavedSumWrong)

/- THE SECOND FORM. 'bulk': how many values and letters a reading holds, each counted each time it is reached (what is shared counts as often as it is met; a slice's spare places count too). A statement '..UptoSaid' is the law's where the arguments, and the package variables that the reading takes, are together of bulk at most 1048576: NARROWER than '..Said'. Prove '..Said' where nothing that the law and all that it calls make is longer than what came in: it says more and counts as full. Else prove '..UptoSaid'. A law counts once. -/
mutual
def uptoBulk {H : Type} : DataW H → Nat
  | .lit (.string bytes) => bytes.length + 1
  | .lit _ => 1
  | .nil => 1
  | .ptr d => uptoBulk d + 1
  | .slice elems spare => uptoBulkAll elems + uptoBulkAll spare + 1
  | .agg parts => uptoBulkAll parts + 1
  | .iface _ d => uptoBulk d + 1
  | .map entries => uptoBulkEntries entries + 1
  | .held _ => 1
def uptoBulkAll {H : Type} : List (DataW H) → Nat
  | [] => 0
  | d :: r => uptoBulk d + uptoBulkAll r
def uptoBulkEntries {H : Type} : List (Lit × DataW H) → Nat
  | [] => 0
  | x :: r => uptoBulkEntry x + uptoBulkEntries r
def uptoBulkEntry {H : Type} : Lit × DataW H → Nat
  | (.string bytes, d) => bytes.length + uptoBulk d + 1
  | (_, d) => uptoBulk d + 1
 end
def uptoSmall : (H : Type) → List (DataW H) → Bool := fun _ ds => decide (uptoBulkAll ds ≤ 1048576)
def OpenSpec.upto (s : _root_.Go.ChangeSpec) : _root_.Go.OpenSpec := { _root_.Go.OpenSpec.ofChange s with cond := some uptoSmall }

/-- 'laws.FnExactIsStopping', WHERE WHAT IT READS IS OF BULK AT MOST 1048576: true; the input reads as it did. -/
def fnExactIsStoppingUptoRow : OpenClaim := { program := "ytnmidgnkjpcpgaa", sum := "406faf1c07c5ffbfc6720649aba2277fe4510e09a5d0d0d9682c10ea6c99a969", func := "loop.example/g01109/laws.FnExactIsStopping", spec := "fnExactIsStopping", unfollowed := true, recurses := true, apart := false, narrowed := true }
def FnExactIsStoppingUptoSaid : Prop := fnExactIsStoppingUptoRow.holds Try.pinned (OpenSpec.upto fnExactIsStoppingSpec)

/-- 'laws.FnExactSpreadOf', WHERE WHAT IT READS IS OF BULK AT MOST 1048576: true; the input reads as it did. -/
def fnExactSpreadOfUptoRow : OpenClaim := { program := "ytnmidgnkjpcpgaa", sum := "406faf1c07c5ffbfc6720649aba2277fe4510e09a5d0d0d9682c10ea6c99a969", func := "loop.example/g01109/laws.FnExactSpreadOf", spec := "fnExactSpreadOf", unfollowed := true, recurses := true, apart := false, narrowed := true }
def FnExactSpreadOfUptoSaid : Prop := fnExactSpreadOfUptoRow.holds Try.pinned (OpenSpec.upto fnExactSpreadOfSpec)

/-- 'laws.FnExactLeastSpreading', WHERE WHAT IT READS IS OF BULK AT MOST 1048576: true; the input reads as it did. -/
def fnExactLeastSpreadingUptoRow : OpenClaim := { program := "ytnmidgnkjpcpgaa", sum := "406faf1c07c5ffbfc6720649aba2277fe4510e09a5d0d0d9682c10ea6c99a969", func := "loop.example/g01109/laws.FnExactLeastSpreading", spec := "fnExactLeastSpreading", unfollowed := true, recurses := true, apart := false, narrowed := true }
def FnExactLeastSpreadingUptoSaid : Prop := fnExactLeastSpreadingUptoRow.holds Try.pinned (OpenSpec.upto fnExactLeastSpreadingSpec)

/-- 'laws.FnExactIsFarSet', WHERE WHAT IT READS IS OF BULK AT MOST 1048576: true; the input reads as it did. -/
def fnExactIsFarSetUptoRow : OpenClaim := { program := "ytnmidgnkjpcpgaa", sum := "406faf1c07c5ffbfc6720649aba2277fe4510e09a5d0d0d9682c10ea6c99a969", func := "loop.example/g01109/laws.FnExactIsFarSet", spec := "fnExactIsFarSet", unfollowed := true, recurses := true, apart := false, narrowed := true }
def FnExactIsFarSetUptoSaid : Prop := fnExactIsFarSetUptoRow.holds Try.pinned (OpenSpec.upto fnExactIsFarSetSpec)

/-- 'laws.FnExactLargestFarSet', WHERE WHAT IT READS IS OF BULK AT MOST 1048576: true; the input reads as it did. -/
def fnExactLargestFarSetUptoRow : OpenClaim := { program := "ytnmidgnkjpcpgaa", sum := "406faf1c07c5ffbfc6720649aba2277fe4510e09a5d0d0d9682c10ea6c99a969", func := "loop.example/g01109/laws.FnExactLargestFarSet", spec := "fnExactLargestFarSet", unfollowed := true, recurses := true, apart := false, narrowed := true }
def FnExactLargestFarSetUptoSaid : Prop := fnExactLargestFarSetUptoRow.holds Try.pinned (OpenSpec.upto fnExactLargestFarSetSpec)

/-- 'laws.FnExactFarBound', WHERE WHAT IT READS IS OF BULK AT MOST 1048576: true; the input reads as it did. -/
def fnExactFarBoundUptoRow : OpenClaim := { program := "ytnmidgnkjpcpgaa", sum := "406faf1c07c5ffbfc6720649aba2277fe4510e09a5d0d0d9682c10ea6c99a969", func := "loop.example/g01109/laws.FnExactFarBound", spec := "fnExactFarBound", unfollowed := true, recurses := true, apart := false, narrowed := true }
def FnExactFarBoundUptoSaid : Prop := fnExactFarBoundUptoRow.holds Try.pinned (OpenSpec.upto fnExactFarBoundSpec)

/-- 'laws.FnExactBurntBy', WHERE WHAT IT READS IS OF BULK AT MOST 1048576: true; the input reads as it did. -/
def fnExactBurntByUptoRow : OpenClaim := { program := "ytnmidgnkjpcpgaa", sum := "406faf1c07c5ffbfc6720649aba2277fe4510e09a5d0d0d9682c10ea6c99a969", func := "loop.example/g01109/laws.FnExactBurntBy", spec := "fnExactBurntBy", unfollowed := true, recurses := true, apart := false, narrowed := true }
def FnExactBurntByUptoSaid : Prop := fnExactBurntByUptoRow.holds Try.pinned (OpenSpec.upto fnExactBurntBySpec)

/-- 'laws.FnExactBurningNumber', WHERE WHAT IT READS IS OF BULK AT MOST 1048576: true; the input reads as it did. -/
def fnExactBurningNumberUptoRow : OpenClaim := { program := "ytnmidgnkjpcpgaa", sum := "406faf1c07c5ffbfc6720649aba2277fe4510e09a5d0d0d9682c10ea6c99a969", func := "loop.example/g01109/laws.FnExactBurningNumber", spec := "fnExactBurningNumber", unfollowed := true, recurses := true, apart := false, narrowed := true }
def FnExactBurningNumberUptoSaid : Prop := fnExactBurningNumberUptoRow.holds Try.pinned (OpenSpec.upto fnExactBurningNumberSpec)

/-- 'laws.FnExactBestBurning', WHERE WHAT IT READS IS OF BULK AT MOST 1048576: true; the input reads as it did. -/
def fnExactBestBurningUptoRow : OpenClaim := { program := "ytnmidgnkjpcpgaa", sum := "406faf1c07c5ffbfc6720649aba2277fe4510e09a5d0d0d9682c10ea6c99a969", func := "loop.example/g01109/laws.FnExactBestBurning", spec := "fnExactBestBurning", unfollowed := true, recurses := true, apart := false, narrowed := true }
def FnExactBestBurningUptoSaid : Prop := fnExactBestBurningUptoRow.holds Try.pinned (OpenSpec.upto fnExactBestBurningSpec)

/-- 'laws.FnExactMostSaved', WHERE WHAT IT READS IS OF BULK AT MOST 1048576: true; the input reads as it did. -/
def fnExactMostSavedUptoRow : OpenClaim := { program := "ytnmidgnkjpcpgaa", sum := "406faf1c07c5ffbfc6720649aba2277fe4510e09a5d0d0d9682c10ea6c99a969", func := "loop.example/g01109/laws.FnExactMostSaved", spec := "fnExactMostSaved", unfollowed := true, recurses := true, apart := false, narrowed := true }
def FnExactMostSavedUptoSaid : Prop := fnExactMostSavedUptoRow.holds Try.pinned (OpenSpec.upto fnExactMostSavedSpec)

/-- 'laws.FnExactBestFirePlan', WHERE WHAT IT READS IS OF BULK AT MOST 1048576: true; the input reads as it did. -/
def fnExactBestFirePlanUptoRow : OpenClaim := { program := "ytnmidgnkjpcpgaa", sum := "406faf1c07c5ffbfc6720649aba2277fe4510e09a5d0d0d9682c10ea6c99a969", func := "loop.example/g01109/laws.FnExactBestFirePlan", spec := "fnExactBestFirePlan", unfollowed := true, recurses := true, apart := false, narrowed := true }
def FnExactBestFirePlanUptoSaid : Prop := fnExactBestFirePlanUptoRow.holds Try.pinned (OpenSpec.upto fnExactBestFirePlanSpec)

/-- 'laws.FnExactSavedSum', WHERE WHAT IT READS IS OF BULK AT MOST 1048576: true; the input reads as it did. -/
def fnExactSavedSumUptoRow : OpenClaim := { program := "ytnmidgnkjpcpgaa", sum := "406faf1c07c5ffbfc6720649aba2277fe4510e09a5d0d0d9682c10ea6c99a969", func := "loop.example/g01109/laws.FnExactSavedSum", spec := "fnExactSavedSum", unfollowed := true, recurses := true, apart := false, narrowed := true }
def FnExactSavedSumUptoSaid : Prop := fnExactSavedSumUptoRow.holds Try.pinned (OpenSpec.upto fnExactSavedSumSpec)

end Rows
end Go.Proofs.Ytnmidgnkjpcpgaa
