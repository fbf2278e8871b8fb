/-
  No cell of these rows narrows 'for every input' (looked for: loops, veiled, ifaces, maps, wideKeys, modest, calm, conditions, laid).
  DERIVED. THE GIVEN ROWS OF THIS SEAT. 10 by the template 'for every input the law returns true; each argument reads behind the call as it read before'; 0 by the template 'total and deterministic' (their statements: YtjcnngnahijceaaTotals.lean).
  GIVEN WITH THE SEED: the statements are not yours to turn. If you find one false, say at which input.
  Laid BY PROGRAM, IN A SANDBOX (cutbox-rows.mjs): the forced cells as the released guide's own fill.sh prints them over the translation 481244bb4eb37c62… (all of the seat's roots in one cut). By AI agents, Wed Nov 11 2026. No macro, syntax, notation, axiom, sorry.
-/
import Derived.Test.YtjcnngnahijceaaChecked
import GoSem.Claim
import GoSem.ClaimJoined
import GoSem.ClaimMapViews
import Derived.JoinedTies
import Derived.KernelRfl
namespace Go.Proofs.Ytjcnngnahijceaa
/- THE CELL 'sum', in the pinned program and in every row, IS THE sha256 OF THE DUMP (.gsa) THAT YtjcnngnahijceaaProg.lean LOADS. Nothing in Lean hashes anything: it is a label: what it is worth is what the hold of that sum in a sandbox is worth. -/
noncomputable def Try.pinned : Pinned := { name := "ytjcnngnahijceaa", sum := "481244bb4eb37c6262ebca210a6f3f0891788b632bf4169138e76eaaf72718a6", checked := Try.checked }
namespace Rows
def none {H : Type} : Left H := { results := [], args := [] }

/-- 'laws.FnExactLeastSum': WHATEVER THE INPUT: true; the input reads as it did. -/
def fnExactLeastSumSpec : ChangeSpec := { name := "fnExactLeastSum", fn := fun _ => fun
  | [d] => { results := [.lit (.bool true)], args := [d] }
  | _ => none }
def fnExactLeastSumRow : OpenClaim := { program := "ytjcnngnahijceaa", sum := "481244bb4eb37c6262ebca210a6f3f0891788b632bf4169138e76eaaf72718a6", func := "loop.example/g01109/laws.FnExactLeastSum", spec := "fnExactLeastSum", apart := false }
def FnExactLeastSumSaid : Prop := fnExactLeastSumRow.holds Try.pinned (OpenSpec.ofChange fnExactLeastSumSpec)

/-- ITS FALSE NEIGHBOUR: 'it returns false'. Refute it at one input. -/
def fnExactLeastSumWrong : ChangeSpec := { name := "fnExactLeastSum", fn := fun _ => fun
  | [d] => { results := [.lit (.bool false)], args := [d] }
  | _ => none }
def FnExactLeastSumWrongFalsely : Prop := fnExactLeastSumRow.holds Try.pinned (OpenSpec.ofChange fnExactLeastSumWrong)

/-- 'laws.FnExactNullityOf': WHATEVER THE INPUT: true; the input reads as it did. -/
def fnExactNullityOfSpec : ChangeSpec := { name := "fnExactNullityOf", fn := fun _ => fun
  | [d1, d2] => { results := [.lit (.bool true)], args := [d1, d2] }
  | _ => none }
def fnExactNullityOfRow : OpenClaim := { program := "ytjcnngnahijceaa", sum := "481244bb4eb37c6262ebca210a6f3f0891788b632bf4169138e76eaaf72718a6", func := "loop.example/g01109/laws.FnExactNullityOf", spec := "fnExactNullityOf", unfollowed := true, recurses := true, apart := false }
def FnExactNullityOfSaid : Prop := fnExactNullityOfRow.holds Try.pinned (OpenSpec.ofChange fnExactNullityOfSpec)

/-- ITS FALSE NEIGHBOUR: 'it returns false'. Refute it at one input. -/
def fnExactNullityOfWrong : ChangeSpec := { name := "fnExactNullityOf", fn := fun _ => fun
  | [d1, d2] => { results := [.lit (.bool false)], args := [d1, d2] }
  | _ => none }
def FnExactNullityOfWrongFalsely : Prop := fnExactNullityOfRow.holds Try.pinned (OpenSpec.ofChange fnExactNullityOfWrong)

/-- 'laws.FnExactMatchingNumber': WHATEVER THE INPUT: true; the input reads as it did. -/
def fnExactMatchingNumberSpec : ChangeSpec := { name := "fnExactMatchingNumber", fn := fun _ => fun
  | [d] => { results := [.lit (.bool true)], args := [d] }
  | _ => none }
def fnExactMatchingNumberRow : OpenClaim := { program := "ytjcnngnahijceaa", sum := "481244bb4eb37c6262ebca210a6f3f0891788b632bf4169138e76eaaf72718a6", func := "loop.example/g01109/laws.FnExactMatchingNumber", spec := "fnExactMatchingNumber", recurses := true, apart := false }
def FnExactMatchingNumberSaid : Prop := fnExactMatchingNumberRow.holds Try.pinned (OpenSpec.ofChange fnExactMatchingNumberSpec)

/-- ITS FALSE NEIGHBOUR: 'it returns false'. Refute it at one input. -/
def fnExactMatchingNumberWrong : ChangeSpec := { name := "fnExactMatchingNumber", fn := fun _ => fun
  | [d] => { results := [.lit (.bool false)], args := [d] }
  | _ => none }
def FnExactMatchingNumberWrongFalsely : Prop := fnExactMatchingNumberRow.holds Try.pinned (OpenSpec.ofChange fnExactMatchingNumberWrong)

/-- 'laws.FnExactLeastSpreading': WHATEVER THE INPUT: true; the input reads as it did. -/
def fnExactLeastSpreadingSpec : ChangeSpec := { name := "fnExactLeastSpreading", fn := fun _ => fun
  | [d1, d2] => { results := [.lit (.bool true)], args := [d1, d2] }
  | _ => none }
def fnExactLeastSpreadingRow : OpenClaim := { program := "ytjcnngnahijceaa", sum := "481244bb4eb37c6262ebca210a6f3f0891788b632bf4169138e76eaaf72718a6", func := "loop.example/g01109/laws.FnExactLeastSpreading", spec := "fnExactLeastSpreading", unfollowed := true, recurses := true, apart := false }
def FnExactLeastSpreadingSaid : Prop := fnExactLeastSpreadingRow.holds Try.pinned (OpenSpec.ofChange fnExactLeastSpreadingSpec)

/-- ITS FALSE NEIGHBOUR: 'it returns false'. Refute it at one input. -/
def fnExactLeastSpreadingWrong : ChangeSpec := { name := "fnExactLeastSpreading", fn := fun _ => fun
  | [d1, d2] => { results := [.lit (.bool false)], args := [d1, d2] }
  | _ => none }
def FnExactLeastSpreadingWrongFalsely : Prop := fnExactLeastSpreadingRow.holds Try.pinned (OpenSpec.ofChange fnExactLeastSpreadingWrong)

/-- 'laws.FnExactIsCaptureProof': WHATEVER THE INPUT: true; the input reads as it did. -/
def fnExactIsCaptureProofSpec : ChangeSpec := { name := "fnExactIsCaptureProof", fn := fun _ => fun
  | [d1, d2, d3] => { results := [.lit (.bool true)], args := [d1, d2, d3] }
  | _ => none }
def fnExactIsCaptureProofRow : OpenClaim := { program := "ytjcnngnahijceaa", sum := "481244bb4eb37c6262ebca210a6f3f0891788b632bf4169138e76eaaf72718a6", func := "loop.example/g01109/laws.FnExactIsCaptureProof", spec := "fnExactIsCaptureProof", unfollowed := true, recurses := true, apart := false }
def FnExactIsCaptureProofSaid : Prop := fnExactIsCaptureProofRow.holds Try.pinned (OpenSpec.ofChange fnExactIsCaptureProofSpec)

/-- ITS FALSE NEIGHBOUR: 'it returns false'. Refute it at one input. -/
def fnExactIsCaptureProofWrong : ChangeSpec := { name := "fnExactIsCaptureProof", fn := fun _ => fun
  | [d1, d2, d3] => { results := [.lit (.bool false)], args := [d1, d2, d3] }
  | _ => none }
def FnExactIsCaptureProofWrongFalsely : Prop := fnExactIsCaptureProofRow.holds Try.pinned (OpenSpec.ofChange fnExactIsCaptureProofWrong)

/-- 'laws.FnExactMostSaved': WHATEVER THE INPUT: true; the input reads as it did. -/
def fnExactMostSavedSpec : ChangeSpec := { name := "fnExactMostSaved", fn := fun _ => fun
  | [d1, d2, d3] => { results := [.lit (.bool true)], args := [d1, d2, d3] }
  | _ => none }
def fnExactMostSavedRow : OpenClaim := { program := "ytjcnngnahijceaa", sum := "481244bb4eb37c6262ebca210a6f3f0891788b632bf4169138e76eaaf72718a6", func := "loop.example/g01109/laws.FnExactMostSaved", spec := "fnExactMostSaved", unfollowed := true, recurses := true, apart := false }
def FnExactMostSavedSaid : Prop := fnExactMostSavedRow.holds Try.pinned (OpenSpec.ofChange fnExactMostSavedSpec)

/-- ITS FALSE NEIGHBOUR: 'it returns false'. Refute it at one input. -/
def fnExactMostSavedWrong : ChangeSpec := { name := "fnExactMostSaved", fn := fun _ => fun
  | [d1, d2, d3] => { results := [.lit (.bool false)], args := [d1, d2, d3] }
  | _ => none }
def FnExactMostSavedWrongFalsely : Prop := fnExactMostSavedRow.holds Try.pinned (OpenSpec.ofChange fnExactMostSavedWrong)

/-- 'laws.FnExactBestFirePlan': WHATEVER THE INPUT: true; the input reads as it did. -/
def fnExactBestFirePlanSpec : ChangeSpec := { name := "fnExactBestFirePlan", fn := fun _ => fun
  | [d1, d2, d3] => { results := [.lit (.bool true)], args := [d1, d2, d3] }
  | _ => none }
def fnExactBestFirePlanRow : OpenClaim := { program := "ytjcnngnahijceaa", sum := "481244bb4eb37c6262ebca210a6f3f0891788b632bf4169138e76eaaf72718a6", func := "loop.example/g01109/laws.FnExactBestFirePlan", spec := "fnExactBestFirePlan", unfollowed := true, recurses := true, apart := false }
def FnExactBestFirePlanSaid : Prop := fnExactBestFirePlanRow.holds Try.pinned (OpenSpec.ofChange fnExactBestFirePlanSpec)

/-- ITS FALSE NEIGHBOUR: 'it returns false'. Refute it at one input. -/
def fnExactBestFirePlanWrong : ChangeSpec := { name := "fnExactBestFirePlan", fn := fun _ => fun
  | [d1, d2, d3] => { results := [.lit (.bool false)], args := [d1, d2, d3] }
  | _ => none }
def FnExactBestFirePlanWrongFalsely : Prop := fnExactBestFirePlanRow.holds Try.pinned (OpenSpec.ofChange fnExactBestFirePlanWrong)

/-- 'laws.FnExactSavedSum': WHATEVER THE INPUT: true; the input reads as it did. -/
def fnExactSavedSumSpec : ChangeSpec := { name := "fnExactSavedSum", fn := fun _ => fun
  | [d1, d2] => { results := [.lit (.bool true)], args := [d1, d2] }
  | _ => none }
def fnExactSavedSumRow : OpenClaim := { program := "ytjcnngnahijceaa", sum := "481244bb4eb37c6262ebca210a6f3f0891788b632bf4169138e76eaaf72718a6", func := "loop.example/g01109/laws.FnExactSavedSum", spec := "fnExactSavedSum", unfollowed := true, recurses := true, apart := false }
def FnExactSavedSumSaid : Prop := fnExactSavedSumRow.holds Try.pinned (OpenSpec.ofChange fnExactSavedSumSpec)

/-- ITS FALSE NEIGHBOUR: 'it returns false'. Refute it at one input. -/
def fnExactSavedSumWrong : ChangeSpec := { name := "fnExactSavedSum", fn := fun _ => fun
  | [d1, d2] => { results := [.lit (.bool false)], args := [d1, d2] }
  | _ => none }
def FnExactSavedSumWrongFalsely : Prop := fnExactSavedSumRow.holds Try.pinned (OpenSpec.ofChange fnExactSavedSumWrong)

/-- 'laws.FnExactBurningNumber': WHATEVER THE INPUT: true; the input reads as it did. -/
def fnExactBurningNumberSpec : ChangeSpec := { name := "fnExactBurningNumber", fn := fun _ => fun
  | [d] => { results := [.lit (.bool true)], args := [d] }
  | _ => none }
def fnExactBurningNumberRow : OpenClaim := { program := "ytjcnngnahijceaa", sum := "481244bb4eb37c6262ebca210a6f3f0891788b632bf4169138e76eaaf72718a6", func := "loop.example/g01109/laws.FnExactBurningNumber", spec := "fnExactBurningNumber", unfollowed := true, recurses := true, apart := false }
def FnExactBurningNumberSaid : Prop := fnExactBurningNumberRow.holds Try.pinned (OpenSpec.ofChange fnExactBurningNumberSpec)

/-- ITS FALSE NEIGHBOUR: 'it returns false'. Refute it at one input. -/
def fnExactBurningNumberWrong : ChangeSpec := { name := "fnExactBurningNumber", fn := fun _ => fun
  | [d] => { results := [.lit (.bool false)], args := [d] }
  | _ => none }
def FnExactBurningNumberWrongFalsely : Prop := fnExactBurningNumberRow.holds Try.pinned (OpenSpec.ofChange fnExactBurningNumberWrong)

/-- 'laws.FnExactBestBurning': WHATEVER THE INPUT: true; the input reads as it did. -/
def fnExactBestBurningSpec : ChangeSpec := { name := "fnExactBestBurning", fn := fun _ => fun
  | [d] => { results := [.lit (.bool true)], args := [d] }
  | _ => none }
def fnExactBestBurningRow : OpenClaim := { program := "ytjcnngnahijceaa", sum := "481244bb4eb37c6262ebca210a6f3f0891788b632bf4169138e76eaaf72718a6", func := "loop.example/g01109/laws.FnExactBestBurning", spec := "fnExactBestBurning", unfollowed := true, recurses := true, apart := false }
def FnExactBestBurningSaid : Prop := fnExactBestBurningRow.holds Try.pinned (OpenSpec.ofChange fnExactBestBurningSpec)

/-- ITS FALSE NEIGHBOUR: 'it returns false'. Refute it at one input. -/
def fnExactBestBurningWrong : ChangeSpec := { name := "fnExactBestBurning", fn := fun _ => fun
  | [d] => { results := [.lit (.bool false)], args := [d] }
  | _ => none }
def FnExactBestBurningWrongFalsely : Prop := fnExactBestBurningRow.holds Try.pinned (OpenSpec.ofChange fnExactBestBurningWrong)

/- THE SECOND FORM. 'bulk': how many values and letters a reading holds, each counted each time it is reached (what is shared counts as often as it is met; a slice's spare places count too). A statement '..UptoSaid' is the law's where the arguments, and the package variables that the reading takes, are together of bulk at most 1048576: NARROWER than '..Said'. Prove '..Said' where nothing that the law and all that it calls make is longer than what came in: it says more and counts as full. Else prove '..UptoSaid'. A law counts once. -/
mutual
def uptoBulk {H : Type} : DataW H → Nat
  | .lit (.string bytes) => bytes.length + 1
  | .lit _ => 1
  | .nil => 1
  | .ptr d => uptoBulk d + 1
  | .slice elems spare => uptoBulkAll elems + uptoBulkAll spare + 1
  | .agg parts => uptoBulkAll parts + 1
  | .iface _ d => uptoBulk d + 1
  | .map entries => uptoBulkEntries entries + 1
  | .held _ => 1
def uptoBulkAll {H : Type} : List (DataW H) → Nat
  | [] => 0
  | d :: r => uptoBulk d + uptoBulkAll r
def uptoBulkEntries {H : Type} : List (Lit × DataW H) → Nat
  | [] => 0
  | x :: r => uptoBulkEntry x + uptoBulkEntries r
def uptoBulkEntry {H : Type} : Lit × DataW H → Nat
  | (.string bytes, d) => bytes.length + uptoBulk d + 1
  | (_, d) => uptoBulk d + 1
 end
def uptoSmall : (H : Type) → List (DataW H) → Bool := fun _ ds => decide (uptoBulkAll ds ≤ 1048576)
def OpenSpec.upto (s : _root_.Go.ChangeSpec) : _root_.Go.OpenSpec := { _root_.Go.OpenSpec.ofChange s with cond := some uptoSmall }

/-- 'laws.FnExactLeastSum', WHERE WHAT IT READS IS OF BULK AT MOST 1048576: true; the input reads as it did. -/
def fnExactLeastSumUptoRow : OpenClaim := { program := "ytjcnngnahijceaa", sum := "481244bb4eb37c6262ebca210a6f3f0891788b632bf4169138e76eaaf72718a6", func := "loop.example/g01109/laws.FnExactLeastSum", spec := "fnExactLeastSum", apart := false, narrowed := true }
def FnExactLeastSumUptoSaid : Prop := fnExactLeastSumUptoRow.holds Try.pinned (OpenSpec.upto fnExactLeastSumSpec)

/-- 'laws.FnExactNullityOf', WHERE WHAT IT READS IS OF BULK AT MOST 1048576: true; the input reads as it did. -/
def fnExactNullityOfUptoRow : OpenClaim := { program := "ytjcnngnahijceaa", sum := "481244bb4eb37c6262ebca210a6f3f0891788b632bf4169138e76eaaf72718a6", func := "loop.example/g01109/laws.FnExactNullityOf", spec := "fnExactNullityOf", unfollowed := true, recurses := true, apart := false, narrowed := true }
def FnExactNullityOfUptoSaid : Prop := fnExactNullityOfUptoRow.holds Try.pinned (OpenSpec.upto fnExactNullityOfSpec)

/-- 'laws.FnExactMatchingNumber', WHERE WHAT IT READS IS OF BULK AT MOST 1048576: true; the input reads as it did. -/
def fnExactMatchingNumberUptoRow : OpenClaim := { program := "ytjcnngnahijceaa", sum := "481244bb4eb37c6262ebca210a6f3f0891788b632bf4169138e76eaaf72718a6", func := "loop.example/g01109/laws.FnExactMatchingNumber", spec := "fnExactMatchingNumber", recurses := true, apart := false, narrowed := true }
def FnExactMatchingNumberUptoSaid : Prop := fnExactMatchingNumberUptoRow.holds Try.pinned (OpenSpec.upto fnExactMatchingNumberSpec)

/-- 'laws.FnExactLeastSpreading', WHERE WHAT IT READS IS OF BULK AT MOST 1048576: true; the input reads as it did. -/
def fnExactLeastSpreadingUptoRow : OpenClaim := { program := "ytjcnngnahijceaa", sum := "481244bb4eb37c6262ebca210a6f3f0891788b632bf4169138e76eaaf72718a6", func := "loop.example/g01109/laws.FnExactLeastSpreading", spec := "fnExactLeastSpreading", unfollowed := true, recurses := true, apart := false, narrowed := true }
def FnExactLeastSpreadingUptoSaid : Prop := fnExactLeastSpreadingUptoRow.holds Try.pinned (OpenSpec.upto fnExactLeastSpreadingSpec)

/-- 'laws.FnExactIsCaptureProof', WHERE WHAT IT READS IS OF BULK AT MOST 1048576: true; the input reads as it did. -/
def fnExactIsCaptureProofUptoRow : OpenClaim := { program := "ytjcnngnahijceaa", sum := "481244bb4eb37c6262ebca210a6f3f0891788b632bf4169138e76eaaf72718a6", func := "loop.example/g01109/laws.FnExactIsCaptureProof", spec := "fnExactIsCaptureProof", unfollowed := true, recurses := true, apart := false, narrowed := true }
def FnExactIsCaptureProofUptoSaid : Prop := fnExactIsCaptureProofUptoRow.holds Try.pinned (OpenSpec.upto fnExactIsCaptureProofSpec)

/-- 'laws.FnExactMostSaved', WHERE WHAT IT READS IS OF BULK AT MOST 1048576: true; the input reads as it did. -/
def fnExactMostSavedUptoRow : OpenClaim := { program := "ytjcnngnahijceaa", sum := "481244bb4eb37c6262ebca210a6f3f0891788b632bf4169138e76eaaf72718a6", func := "loop.example/g01109/laws.FnExactMostSaved", spec := "fnExactMostSaved", unfollowed := true, recurses := true, apart := false, narrowed := true }
def FnExactMostSavedUptoSaid : Prop := fnExactMostSavedUptoRow.holds Try.pinned (OpenSpec.upto fnExactMostSavedSpec)

/-- 'laws.FnExactBestFirePlan', WHERE WHAT IT READS IS OF BULK AT MOST 1048576: true; the input reads as it did. -/
def fnExactBestFirePlanUptoRow : OpenClaim := { program := "ytjcnngnahijceaa", sum := "481244bb4eb37c6262ebca210a6f3f0891788b632bf4169138e76eaaf72718a6", func := "loop.example/g01109/laws.FnExactBestFirePlan", spec := "fnExactBestFirePlan", unfollowed := true, recurses := true, apart := false, narrowed := true }
def FnExactBestFirePlanUptoSaid : Prop := fnExactBestFirePlanUptoRow.holds Try.pinned (OpenSpec.upto fnExactBestFirePlanSpec)

/-- 'laws.FnExactSavedSum', WHERE WHAT IT READS IS OF BULK AT MOST 1048576: true; the input reads as it did. -/
def fnExactSavedSumUptoRow : OpenClaim := { program := "ytjcnngnahijceaa", sum := "481244bb4eb37c6262ebca210a6f3f0891788b632bf4169138e76eaaf72718a6", func := "loop.example/g01109/laws.FnExactSavedSum", spec := "fnExactSavedSum", unfollowed := true, recurses := true, apart := false, narrowed := true }
def FnExactSavedSumUptoSaid : Prop := fnExactSavedSumUptoRow.holds Try.pinned (OpenSpec.upto fnExactSavedSumSpec)

/-- 'laws.FnExactBurningNumber', WHERE WHAT IT READS IS OF BULK AT MOST 1048576: true; the input reads as it did. -/
def fnExactBurningNumberUptoRow : OpenClaim := { program := "ytjcnngnahijceaa", sum := "481244bb4eb37c6262ebca210a6f3f0891788b632bf4169138e76eaaf72718a6", func := "loop.example/g01109/laws.FnExactBurningNumber", spec := "fnExactBurningNumber", unfollowed := true, recurses := true, apart := false, narrowed := true }
def FnExactBurningNumberUptoSaid : Prop := fnExactBurningNumberUptoRow.holds Try.pinned (OpenSpec.upto fnExactBurningNumberSpec)

/-- 'laws.FnExactBestBurning', WHERE WHAT IT READS IS OF BULK AT MOST 1048576: true; the input reads as it did. -/
def fnExactBestBurningUptoRow : OpenClaim := { program := "ytjcnngnahijceaa", sum := "481244bb4eb37c6262ebca210a6f3f0891788b632bf4169138e76eaaf72718a6", func := "loop.example/g01109/laws.FnExactBestBurning", spec := "fnExactBestBurning", unfollowed := true, recurses := true, apart := false, narrowed := true }
def FnExactBestBurningUptoSaid : Prop := fnExactBestBurningUptoRow.holds Try.pinned (OpenSpec.upto fnExactBestBurningSpec)

end Rows
end Go.Proofs.Ytjcnngnahijceaa
