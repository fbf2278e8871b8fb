/-
  No cell of these rows narrows 'for every input' (looked for: loops, veiled, ifaces, maps, wideKeys, modest, calm, conditions, laid).
  DERIVED. THE GIVEN ROWS OF THIS SEAT. 6 by the template 'for every input the law returns true; each argument reads behind the call as it read before'; 0 by the template 'total and deterministic' (their statements: YtdhbaegkogklgaaTotals.lean).
  GIVEN WITH THE SEED: the statements are not yours to turn. If you find one false, say at which input.
  Laid BY PROGRAM, IN A SANDBOX (cutbox-rows.mjs): the forced cells as the released guide's own fill.sh prints them over the translation e2ad1c81e7792d87… (all of the seat's roots in one cut). By AI agents, Wed Nov 11 2026. No macro, syntax, notation, axiom, sorry.
-/
import Derived.Test.YtdhbaegkogklgaaChecked
import GoSem.Claim
import GoSem.ClaimJoined
import GoSem.ClaimMapViews
import Derived.JoinedTies
import Derived.KernelRfl
namespace Go.Proofs.Ytdhbaegkogklgaa
/- THE CELL 'sum', in the pinned program and in every row, IS THE sha256 OF THE DUMP (.gsa) THAT YtdhbaegkogklgaaProg.lean LOADS. Nothing in Lean hashes anything: it is a label: what it is worth is what the hold of that sum in a sandbox is worth. -/
noncomputable def Try.pinned : Pinned := { name := "ytdhbaegkogklgaa", sum := "e2ad1c81e7792d87b78d9ed494cf17061970421dc43773ae3eef5545b9a80d09", checked := Try.checked }
namespace Rows
def none {H : Type} : Left H := { results := [], args := [] }

/-- 'laws.FnExactCoverFamily': WHATEVER THE INPUT: true; the input reads as it did. -/
def fnExactCoverFamilySpec : ChangeSpec := { name := "fnExactCoverFamily", fn := fun _ => fun
  | [d1, d2] => { results := [.lit (.bool true)], args := [d1, d2] }
  | _ => none }
def fnExactCoverFamilyRow : OpenClaim := { program := "ytdhbaegkogklgaa", sum := "e2ad1c81e7792d87b78d9ed494cf17061970421dc43773ae3eef5545b9a80d09", func := "loop.example/g01109/laws.FnExactCoverFamily", spec := "fnExactCoverFamily", unfollowed := true, recurses := true, apart := false }
def FnExactCoverFamilySaid : Prop := fnExactCoverFamilyRow.holds Try.pinned (OpenSpec.ofChange fnExactCoverFamilySpec)

/-- ITS FALSE NEIGHBOUR: 'it returns false'. Refute it at one input. -/
def fnExactCoverFamilyWrong : ChangeSpec := { name := "fnExactCoverFamily", fn := fun _ => fun
  | [d1, d2] => { results := [.lit (.bool false)], args := [d1, d2] }
  | _ => none }
def FnExactCoverFamilyWrongFalsely : Prop := fnExactCoverFamilyRow.holds Try.pinned (OpenSpec.ofChange fnExactCoverFamilyWrong)

/-- 'laws.FnExactNullityOf': WHATEVER THE INPUT: true; the input reads as it did. -/
def fnExactNullityOfSpec : ChangeSpec := { name := "fnExactNullityOf", fn := fun _ => fun
  | [d1, d2] => { results := [.lit (.bool true)], args := [d1, d2] }
  | _ => none }
def fnExactNullityOfRow : OpenClaim := { program := "ytdhbaegkogklgaa", sum := "e2ad1c81e7792d87b78d9ed494cf17061970421dc43773ae3eef5545b9a80d09", func := "loop.example/g01109/laws.FnExactNullityOf", spec := "fnExactNullityOf", unfollowed := true, recurses := true, apart := false }
def FnExactNullityOfSaid : Prop := fnExactNullityOfRow.holds Try.pinned (OpenSpec.ofChange fnExactNullityOfSpec)

/-- ITS FALSE NEIGHBOUR: 'it returns false'. Refute it at one input. -/
def fnExactNullityOfWrong : ChangeSpec := { name := "fnExactNullityOf", fn := fun _ => fun
  | [d1, d2] => { results := [.lit (.bool false)], args := [d1, d2] }
  | _ => none }
def FnExactNullityOfWrongFalsely : Prop := fnExactNullityOfRow.holds Try.pinned (OpenSpec.ofChange fnExactNullityOfWrong)

/-- 'laws.FnExactMostSaved': WHATEVER THE INPUT: true; the input reads as it did. -/
def fnExactMostSavedSpec : ChangeSpec := { name := "fnExactMostSaved", fn := fun _ => fun
  | [d1, d2, d3] => { results := [.lit (.bool true)], args := [d1, d2, d3] }
  | _ => none }
def fnExactMostSavedRow : OpenClaim := { program := "ytdhbaegkogklgaa", sum := "e2ad1c81e7792d87b78d9ed494cf17061970421dc43773ae3eef5545b9a80d09", func := "loop.example/g01109/laws.FnExactMostSaved", spec := "fnExactMostSaved", unfollowed := true, recurses := true, apart := false }
def FnExactMostSavedSaid : Prop := fnExactMostSavedRow.holds Try.pinned (OpenSpec.ofChange fnExactMostSavedSpec)

/-- ITS FALSE NEIGHBOUR: 'it returns false'. Refute it at one input. -/
def fnExactMostSavedWrong : ChangeSpec := { name := "fnExactMostSaved", fn := fun _ => fun
  | [d1, d2, d3] => { results := [.lit (.bool false)], args := [d1, d2, d3] }
  | _ => none }
def FnExactMostSavedWrongFalsely : Prop := fnExactMostSavedRow.holds Try.pinned (OpenSpec.ofChange fnExactMostSavedWrong)

/-- 'laws.FnExactBestFirePlan': WHATEVER THE INPUT: true; the input reads as it did. -/
def fnExactBestFirePlanSpec : ChangeSpec := { name := "fnExactBestFirePlan", fn := fun _ => fun
  | [d1, d2, d3] => { results := [.lit (.bool true)], args := [d1, d2, d3] }
  | _ => none }
def fnExactBestFirePlanRow : OpenClaim := { program := "ytdhbaegkogklgaa", sum := "e2ad1c81e7792d87b78d9ed494cf17061970421dc43773ae3eef5545b9a80d09", func := "loop.example/g01109/laws.FnExactBestFirePlan", spec := "fnExactBestFirePlan", unfollowed := true, recurses := true, apart := false }
def FnExactBestFirePlanSaid : Prop := fnExactBestFirePlanRow.holds Try.pinned (OpenSpec.ofChange fnExactBestFirePlanSpec)

/-- ITS FALSE NEIGHBOUR: 'it returns false'. Refute it at one input. -/
def fnExactBestFirePlanWrong : ChangeSpec := { name := "fnExactBestFirePlan", fn := fun _ => fun
  | [d1, d2, d3] => { results := [.lit (.bool false)], args := [d1, d2, d3] }
  | _ => none }
def FnExactBestFirePlanWrongFalsely : Prop := fnExactBestFirePlanRow.holds Try.pinned (OpenSpec.ofChange fnExactBestFirePlanWrong)

/-- 'laws.FnExactSavedSum': WHATEVER THE INPUT: true; the input reads as it did. -/
def fnExactSavedSumSpec : ChangeSpec := { name := "fnExactSavedSum", fn := fun _ => fun
  | [d1, d2] => { results := [.lit (.bool true)], args := [d1, d2] }
  | _ => none }
def fnExactSavedSumRow : OpenClaim := { program := "ytdhbaegkogklgaa", sum := "e2ad1c81e7792d87b78d9ed494cf17061970421dc43773ae3eef5545b9a80d09", func := "loop.example/g01109/laws.FnExactSavedSum", spec := "fnExactSavedSum", unfollowed := true, recurses := true, apart := false }
def FnExactSavedSumSaid : Prop := fnExactSavedSumRow.holds Try.pinned (OpenSpec.ofChange fnExactSavedSumSpec)

/-- ITS FALSE NEIGHBOUR: 'it returns false'. Refute it at one input. -/
def fnExactSavedSumWrong : ChangeSpec := { name := "fnExactSavedSum", fn := fun _ => fun
  | [d1, d2] => { results := [.lit (.bool false)], args := [d1, d2] }
  | _ => none }
def FnExactSavedSumWrongFalsely : Prop := fnExactSavedSumRow.holds Try.pinned (OpenSpec.ofChange fnExactSavedSumWrong)

/-- 'laws.FnExactLeastCliqueCover': WHATEVER THE INPUT: true; the input reads as it did. -/
def fnExactLeastCliqueCoverSpec : ChangeSpec := { name := "fnExactLeastCliqueCover", fn := fun _ => fun
  | [d] => { results := [.lit (.bool true)], args := [d] }
  | _ => none }
def fnExactLeastCliqueCoverRow : OpenClaim := { program := "ytdhbaegkogklgaa", sum := "e2ad1c81e7792d87b78d9ed494cf17061970421dc43773ae3eef5545b9a80d09", func := "loop.example/g01109/laws.FnExactLeastCliqueCover", spec := "fnExactLeastCliqueCover", unfollowed := true, recurses := true, apart := false }
def FnExactLeastCliqueCoverSaid : Prop := fnExactLeastCliqueCoverRow.holds Try.pinned (OpenSpec.ofChange fnExactLeastCliqueCoverSpec)

/-- ITS FALSE NEIGHBOUR: 'it returns false'. Refute it at one input. -/
def fnExactLeastCliqueCoverWrong : ChangeSpec := { name := "fnExactLeastCliqueCover", fn := fun _ => fun
  | [d] => { results := [.lit (.bool false)], args := [d] }
  | _ => none }
def FnExactLeastCliqueCoverWrongFalsely : Prop := fnExactLeastCliqueCoverRow.holds Try.pinned (OpenSpec.ofChange fnExactLeastCliqueCoverWrong)

/- THE SECOND FORM. 'bulk': how many values and letters a reading holds, each counted each time it is reached (what is shared counts as often as it is met; a slice's spare places count too). A statement '..UptoSaid' is the law's where the arguments, and the package variables that the reading takes, are together of bulk at most 1048576: NARROWER than '..Said'. Prove '..Said' where nothing that the law and all that it calls make is longer than what came in: it says more and counts as full. Else prove '..UptoSaid'. A law counts once. -/
mutual
def uptoBulk {H : Type} : DataW H → Nat
  | .lit (.string bytes) => bytes.length + 1
  | .lit _ => 1
  | .nil => 1
  | .ptr d => uptoBulk d + 1
  | .slice elems spare => uptoBulkAll elems + uptoBulkAll spare + 1
  | .agg parts => uptoBulkAll parts + 1
  | .iface _ d => uptoBulk d + 1
  | .map entries => uptoBulkEntries entries + 1
  | .held _ => 1
def uptoBulkAll {H : Type} : List (DataW H) → Nat
  | [] => 0
  | d :: r => uptoBulk d + uptoBulkAll r
def uptoBulkEntries {H : Type} : List (Lit × DataW H) → Nat
  | [] => 0
  | x :: r => uptoBulkEntry x + uptoBulkEntries r
def uptoBulkEntry {H : Type} : Lit × DataW H → Nat
  | (.string bytes, d) => bytes.length + uptoBulk d + 1
  | (_, d) => uptoBulk d + 1
 end
def uptoSmall : (H : Type) → List (DataW H) → Bool := fun _ ds => decide (uptoBulkAll ds ≤ 1048576)
def OpenSpec.upto (s : _root_.Go.ChangeSpec) : _root_.Go.OpenSpec := { _root_.Go.OpenSpec.ofChange s with cond := some uptoSmall }

/-- 'laws.FnExactCoverFamily', WHERE WHAT IT READS IS OF BULK AT MOST 1048576: true; the input reads as it did. -/
def fnExactCoverFamilyUptoRow : OpenClaim := { program := "ytdhbaegkogklgaa", sum := "e2ad1c81e7792d87b78d9ed494cf17061970421dc43773ae3eef5545b9a80d09", func := "loop.example/g01109/laws.FnExactCoverFamily", spec := "fnExactCoverFamily", unfollowed := true, recurses := true, apart := false, narrowed := true }
def FnExactCoverFamilyUptoSaid : Prop := fnExactCoverFamilyUptoRow.holds Try.pinned (OpenSpec.upto fnExactCoverFamilySpec)

/-- 'laws.FnExactNullityOf', WHERE WHAT IT READS IS OF BULK AT MOST 1048576: true; the input reads as it did. -/
def fnExactNullityOfUptoRow : OpenClaim := { program := "ytdhbaegkogklgaa", sum := "e2ad1c81e7792d87b78d9ed494cf17061970421dc43773ae3eef5545b9a80d09", func := "loop.example/g01109/laws.FnExactNullityOf", spec := "fnExactNullityOf", unfollowed := true, recurses := true, apart := false, narrowed := true }
def FnExactNullityOfUptoSaid : Prop := fnExactNullityOfUptoRow.holds Try.pinned (OpenSpec.upto fnExactNullityOfSpec)

/-- 'laws.FnExactMostSaved', WHERE WHAT IT READS IS OF BULK AT MOST 1048576: true; the input reads as it did. -/
def fnExactMostSavedUptoRow : OpenClaim := { program := "ytdhbaegkogklgaa", sum := "e2ad1c81e7792d87b78d9ed494cf17061970421dc43773ae3eef5545b9a80d09", func := "loop.example/g01109/laws.FnExactMostSaved", spec := "fnExactMostSaved", unfollowed := true, recurses := true, apart := false, narrowed := true }
def FnExactMostSavedUptoSaid : Prop := fnExactMostSavedUptoRow.holds Try.pinned (OpenSpec.upto fnExactMostSavedSpec)

/-- 'laws.FnExactBestFirePlan', WHERE WHAT IT READS IS OF BULK AT MOST 1048576: true; the input reads as it did. -/
def fnExactBestFirePlanUptoRow : OpenClaim := { program := "ytdhbaegkogklgaa", sum := "e2ad1c81e7792d87b78d9ed494cf17061970421dc43773ae3eef5545b9a80d09", func := "loop.example/g01109/laws.FnExactBestFirePlan", spec := "fnExactBestFirePlan", unfollowed := true, recurses := true, apart := false, narrowed := true }
def FnExactBestFirePlanUptoSaid : Prop := fnExactBestFirePlanUptoRow.holds Try.pinned (OpenSpec.upto fnExactBestFirePlanSpec)

/-- 'laws.FnExactSavedSum', WHERE WHAT IT READS IS OF BULK AT MOST 1048576: true; the input reads as it did. -/
def fnExactSavedSumUptoRow : OpenClaim := { program := "ytdhbaegkogklgaa", sum := "e2ad1c81e7792d87b78d9ed494cf17061970421dc43773ae3eef5545b9a80d09", func := "loop.example/g01109/laws.FnExactSavedSum", spec := "fnExactSavedSum", unfollowed := true, recurses := true, apart := false, narrowed := true }
def FnExactSavedSumUptoSaid : Prop := fnExactSavedSumUptoRow.holds Try.pinned (OpenSpec.upto fnExactSavedSumSpec)

/-- 'laws.FnExactLeastCliqueCover', WHERE WHAT IT READS IS OF BULK AT MOST 1048576: true; the input reads as it did. -/
def fnExactLeastCliqueCoverUptoRow : OpenClaim := { program := "ytdhbaegkogklgaa", sum := "e2ad1c81e7792d87b78d9ed494cf17061970421dc43773ae3eef5545b9a80d09", func := "loop.example/g01109/laws.FnExactLeastCliqueCover", spec := "fnExactLeastCliqueCover", unfollowed := true, recurses := true, apart := false, narrowed := true }
def FnExactLeastCliqueCoverUptoSaid : Prop := fnExactLeastCliqueCoverUptoRow.holds Try.pinned (OpenSpec.upto fnExactLeastCliqueCoverSpec)

end Rows
end Go.Proofs.Ytdhbaegkogklgaa
