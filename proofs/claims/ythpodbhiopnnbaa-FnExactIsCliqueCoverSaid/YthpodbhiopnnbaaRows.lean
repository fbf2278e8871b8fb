/-
  No cell of these rows narrows 'for every input' (looked for: loops, veiled, ifaces, maps, wideKeys, modest, calm, conditions, laid).
  DERIVED. THE GIVEN ROWS OF THIS SEAT. 6 by the template 'for every input the law returns true; each argument reads behind the call as it read before'; 0 by the template 'total and deterministic' (their statements: YthpodbhiopnnbaaTotals.lean).
  GIVEN WITH THE SEED: the statements are not yours to turn. If you find one false, say at which input.
  Laid BY PROGRAM, IN A SANDBOX (cutbox-rows.mjs): the forced cells as the released guide's own fill.sh prints them over the translation 4727ec0322993e5b… (all of the seat's roots in one cut). By AI agents, Wed Nov 11 2026. No macro, syntax, notation, axiom, sorry.
-/
import Derived.Test.YthpodbhiopnnbaaChecked
import GoSem.Claim
import GoSem.ClaimJoined
import GoSem.ClaimMapViews
import Derived.JoinedTies
import Derived.KernelRfl
namespace Go.Proofs.Ythpodbhiopnnbaa
/- THE CELL 'sum', in the pinned program and in every row, IS THE sha256 OF THE DUMP (.gsa) THAT YthpodbhiopnnbaaProg.lean LOADS. Nothing in Lean hashes anything: it is a label: what it is worth is what the hold of that sum in a sandbox is worth. -/
noncomputable def Try.pinned : Pinned := { name := "ythpodbhiopnnbaa", sum := "4727ec0322993e5be4bf00f67690354f7a61d815ca5e9f7c4887360ec7c77f2f", checked := Try.checked }
namespace Rows
def none {H : Type} : Left H := { results := [], args := [] }

/-- 'laws.FnExactIsDominating': WHATEVER THE INPUT: true; the input reads as it did. -/
def fnExactIsDominatingSpec : ChangeSpec := { name := "fnExactIsDominating", fn := fun _ => fun
  | [d1, d2] => { results := [.lit (.bool true)], args := [d1, d2] }
  | _ => none }
def fnExactIsDominatingRow : OpenClaim := { program := "ythpodbhiopnnbaa", sum := "4727ec0322993e5be4bf00f67690354f7a61d815ca5e9f7c4887360ec7c77f2f", func := "loop.example/g01109/laws.FnExactIsDominating", spec := "fnExactIsDominating", apart := false }
def FnExactIsDominatingSaid : Prop := fnExactIsDominatingRow.holds Try.pinned (OpenSpec.ofChange fnExactIsDominatingSpec)

/-- ITS FALSE NEIGHBOUR: 'it returns false'. Refute it at one input. -/
def fnExactIsDominatingWrong : ChangeSpec := { name := "fnExactIsDominating", fn := fun _ => fun
  | [d1, d2] => { results := [.lit (.bool false)], args := [d1, d2] }
  | _ => none }
def FnExactIsDominatingWrongFalsely : Prop := fnExactIsDominatingRow.holds Try.pinned (OpenSpec.ofChange fnExactIsDominatingWrong)

/-- 'laws.FnExactLeastDominating': WHATEVER THE INPUT: true; the input reads as it did. -/
def fnExactLeastDominatingSpec : ChangeSpec := { name := "fnExactLeastDominating", fn := fun _ => fun
  | [d] => { results := [.lit (.bool true)], args := [d] }
  | _ => none }
def fnExactLeastDominatingRow : OpenClaim := { program := "ythpodbhiopnnbaa", sum := "4727ec0322993e5be4bf00f67690354f7a61d815ca5e9f7c4887360ec7c77f2f", func := "loop.example/g01109/laws.FnExactLeastDominating", spec := "fnExactLeastDominating", unfollowed := true, recurses := true, apart := false }
def FnExactLeastDominatingSaid : Prop := fnExactLeastDominatingRow.holds Try.pinned (OpenSpec.ofChange fnExactLeastDominatingSpec)

/-- ITS FALSE NEIGHBOUR: 'it returns false'. Refute it at one input. -/
def fnExactLeastDominatingWrong : ChangeSpec := { name := "fnExactLeastDominating", fn := fun _ => fun
  | [d] => { results := [.lit (.bool false)], args := [d] }
  | _ => none }
def FnExactLeastDominatingWrongFalsely : Prop := fnExactLeastDominatingRow.holds Try.pinned (OpenSpec.ofChange fnExactLeastDominatingWrong)

/-- 'laws.FnExactLargestIndependent': WHATEVER THE INPUT: true; the input reads as it did. -/
def fnExactLargestIndependentSpec : ChangeSpec := { name := "fnExactLargestIndependent", fn := fun _ => fun
  | [d] => { results := [.lit (.bool true)], args := [d] }
  | _ => none }
def fnExactLargestIndependentRow : OpenClaim := { program := "ythpodbhiopnnbaa", sum := "4727ec0322993e5be4bf00f67690354f7a61d815ca5e9f7c4887360ec7c77f2f", func := "loop.example/g01109/laws.FnExactLargestIndependent", spec := "fnExactLargestIndependent", unfollowed := true, recurses := true, apart := false }
def FnExactLargestIndependentSaid : Prop := fnExactLargestIndependentRow.holds Try.pinned (OpenSpec.ofChange fnExactLargestIndependentSpec)

/-- ITS FALSE NEIGHBOUR: 'it returns false'. Refute it at one input. -/
def fnExactLargestIndependentWrong : ChangeSpec := { name := "fnExactLargestIndependent", fn := fun _ => fun
  | [d] => { results := [.lit (.bool false)], args := [d] }
  | _ => none }
def FnExactLargestIndependentWrongFalsely : Prop := fnExactLargestIndependentRow.holds Try.pinned (OpenSpec.ofChange fnExactLargestIndependentWrong)

/-- 'laws.FnExactIsCliqueCover': WHATEVER THE INPUT: true; the input reads as it did. -/
def fnExactIsCliqueCoverSpec : ChangeSpec := { name := "fnExactIsCliqueCover", fn := fun _ => fun
  | [d1, d2] => { results := [.lit (.bool true)], args := [d1, d2] }
  | _ => none }
def fnExactIsCliqueCoverRow : OpenClaim := { program := "ythpodbhiopnnbaa", sum := "4727ec0322993e5be4bf00f67690354f7a61d815ca5e9f7c4887360ec7c77f2f", func := "loop.example/g01109/laws.FnExactIsCliqueCover", spec := "fnExactIsCliqueCover", unfollowed := true, recurses := true, apart := false }
def FnExactIsCliqueCoverSaid : Prop := fnExactIsCliqueCoverRow.holds Try.pinned (OpenSpec.ofChange fnExactIsCliqueCoverSpec)

/-- ITS FALSE NEIGHBOUR: 'it returns false'. Refute it at one input. -/
def fnExactIsCliqueCoverWrong : ChangeSpec := { name := "fnExactIsCliqueCover", fn := fun _ => fun
  | [d1, d2] => { results := [.lit (.bool false)], args := [d1, d2] }
  | _ => none }
def FnExactIsCliqueCoverWrongFalsely : Prop := fnExactIsCliqueCoverRow.holds Try.pinned (OpenSpec.ofChange fnExactIsCliqueCoverWrong)

/-- 'laws.FnExactLeastCliqueCover': WHATEVER THE INPUT: true; the input reads as it did. -/
def fnExactLeastCliqueCoverSpec : ChangeSpec := { name := "fnExactLeastCliqueCover", fn := fun _ => fun
  | [d] => { results := [.lit (.bool true)], args := [d] }
  | _ => none }
def fnExactLeastCliqueCoverRow : OpenClaim := { program := "ythpodbhiopnnbaa", sum := "4727ec0322993e5be4bf00f67690354f7a61d815ca5e9f7c4887360ec7c77f2f", func := "loop.example/g01109/laws.FnExactLeastCliqueCover", spec := "fnExactLeastCliqueCover", unfollowed := true, recurses := true, apart := false }
def FnExactLeastCliqueCoverSaid : Prop := fnExactLeastCliqueCoverRow.holds Try.pinned (OpenSpec.ofChange fnExactLeastCliqueCoverSpec)

/-- ITS FALSE NEIGHBOUR: 'it returns false'. Refute it at one input. -/
def fnExactLeastCliqueCoverWrong : ChangeSpec := { name := "fnExactLeastCliqueCover", fn := fun _ => fun
  | [d] => { results := [.lit (.bool false)], args := [d] }
  | _ => none }
def FnExactLeastCliqueCoverWrongFalsely : Prop := fnExactLeastCliqueCoverRow.holds Try.pinned (OpenSpec.ofChange fnExactLeastCliqueCoverWrong)

/-- 'laws.FnExactGuardSets': WHATEVER THE INPUT: true; the input reads as it did. -/
def fnExactGuardSetsSpec : ChangeSpec := { name := "fnExactGuardSets", fn := fun _ => fun
  | [d1, d2] => { results := [.lit (.bool true)], args := [d1, d2] }
  | _ => none }
def fnExactGuardSetsRow : OpenClaim := { program := "ythpodbhiopnnbaa", sum := "4727ec0322993e5be4bf00f67690354f7a61d815ca5e9f7c4887360ec7c77f2f", func := "loop.example/g01109/laws.FnExactGuardSets", spec := "fnExactGuardSets", unfollowed := true, recurses := true, apart := false }
def FnExactGuardSetsSaid : Prop := fnExactGuardSetsRow.holds Try.pinned (OpenSpec.ofChange fnExactGuardSetsSpec)

/-- ITS FALSE NEIGHBOUR: 'it returns false'. Refute it at one input. -/
def fnExactGuardSetsWrong : ChangeSpec := { name := "fnExactGuardSets", fn := fun _ => fun
  | [d1, d2] => { results := [.lit (.bool false)], args := [d1, d2] }
  | _ => none }
def FnExactGuardSetsWrongFalsely : Prop := fnExactGuardSetsRow.holds Try.pinned (OpenSpec.ofChange fnExactGuardSetsWrong)

/- THE SECOND FORM. 'bulk': how many values and letters a reading holds, each counted each time it is reached (what is shared counts as often as it is met; a slice's spare places count too). A statement '..UptoSaid' is the law's where the arguments, and the package variables that the reading takes, are together of bulk at most 1048576: NARROWER than '..Said'. Prove '..Said' where nothing that the law and all that it calls make is longer than what came in: it says more and counts as full. Else prove '..UptoSaid'. A law counts once. -/
mutual
def uptoBulk {H : Type} : DataW H → Nat
  | .lit (.string bytes) => bytes.length + 1
  | .lit _ => 1
  | .nil => 1
  | .ptr d => uptoBulk d + 1
  | .slice elems spare => uptoBulkAll elems + uptoBulkAll spare + 1
  | .agg parts => uptoBulkAll parts + 1
  | .iface _ d => uptoBulk d + 1
  | .map entries => uptoBulkEntries entries + 1
  | .held _ => 1
def uptoBulkAll {H : Type} : List (DataW H) → Nat
  | [] => 0
  | d :: r => uptoBulk d + uptoBulkAll r
def uptoBulkEntries {H : Type} : List (Lit × DataW H) → Nat
  | [] => 0
  | x :: r => uptoBulkEntry x + uptoBulkEntries r
def uptoBulkEntry {H : Type} : Lit × DataW H → Nat
  | (.string bytes, d) => bytes.length + uptoBulk d + 1
  | (_, d) => uptoBulk d + 1
 end
def uptoSmall : (H : Type) → List (DataW H) → Bool := fun _ ds => decide (uptoBulkAll ds ≤ 1048576)
def OpenSpec.upto (s : _root_.Go.ChangeSpec) : _root_.Go.OpenSpec := { _root_.Go.OpenSpec.ofChange s with cond := some uptoSmall }

/-- 'laws.FnExactIsDominating', WHERE WHAT IT READS IS OF BULK AT MOST 1048576: true; the input reads as it did. -/
def fnExactIsDominatingUptoRow : OpenClaim := { program := "ythpodbhiopnnbaa", sum := "4727ec0322993e5be4bf00f67690354f7a61d815ca5e9f7c4887360ec7c77f2f", func := "loop.example/g01109/laws.FnExactIsDominating", spec := "fnExactIsDominating", apart := false, narrowed := true }
def FnExactIsDominatingUptoSaid : Prop := fnExactIsDominatingUptoRow.holds Try.pinned (OpenSpec.upto fnExactIsDominatingSpec)

/-- 'laws.FnExactLeastDominating', WHERE WHAT IT READS IS OF BULK AT MOST 1048576: true; the input reads as it did. -/
def fnExactLeastDominatingUptoRow : OpenClaim := { program := "ythpodbhiopnnbaa", sum := "4727ec0322993e5be4bf00f67690354f7a61d815ca5e9f7c4887360ec7c77f2f", func := "loop.example/g01109/laws.FnExactLeastDominating", spec := "fnExactLeastDominating", unfollowed := true, recurses := true, apart := false, narrowed := true }
def FnExactLeastDominatingUptoSaid : Prop := fnExactLeastDominatingUptoRow.holds Try.pinned (OpenSpec.upto fnExactLeastDominatingSpec)

/-- 'laws.FnExactLargestIndependent', WHERE WHAT IT READS IS OF BULK AT MOST 1048576: true; the input reads as it did. -/
def fnExactLargestIndependentUptoRow : OpenClaim := { program := "ythpodbhiopnnbaa", sum := "4727ec0322993e5be4bf00f67690354f7a61d815ca5e9f7c4887360ec7c77f2f", func := "loop.example/g01109/laws.FnExactLargestIndependent", spec := "fnExactLargestIndependent", unfollowed := true, recurses := true, apart := false, narrowed := true }
def FnExactLargestIndependentUptoSaid : Prop := fnExactLargestIndependentUptoRow.holds Try.pinned (OpenSpec.upto fnExactLargestIndependentSpec)

/-- 'laws.FnExactIsCliqueCover', WHERE WHAT IT READS IS OF BULK AT MOST 1048576: true; the input reads as it did. -/
def fnExactIsCliqueCoverUptoRow : OpenClaim := { program := "ythpodbhiopnnbaa", sum := "4727ec0322993e5be4bf00f67690354f7a61d815ca5e9f7c4887360ec7c77f2f", func := "loop.example/g01109/laws.FnExactIsCliqueCover", spec := "fnExactIsCliqueCover", unfollowed := true, recurses := true, apart := false, narrowed := true }
def FnExactIsCliqueCoverUptoSaid : Prop := fnExactIsCliqueCoverUptoRow.holds Try.pinned (OpenSpec.upto fnExactIsCliqueCoverSpec)

/-- 'laws.FnExactLeastCliqueCover', WHERE WHAT IT READS IS OF BULK AT MOST 1048576: true; the input reads as it did. -/
def fnExactLeastCliqueCoverUptoRow : OpenClaim := { program := "ythpodbhiopnnbaa", sum := "4727ec0322993e5be4bf00f67690354f7a61d815ca5e9f7c4887360ec7c77f2f", func := "loop.example/g01109/laws.FnExactLeastCliqueCover", spec := "fnExactLeastCliqueCover", unfollowed := true, recurses := true, apart := false, narrowed := true }
def FnExactLeastCliqueCoverUptoSaid : Prop := fnExactLeastCliqueCoverUptoRow.holds Try.pinned (OpenSpec.upto fnExactLeastCliqueCoverSpec)

/-- 'laws.FnExactGuardSets', WHERE WHAT IT READS IS OF BULK AT MOST 1048576: true; the input reads as it did. -/
def fnExactGuardSetsUptoRow : OpenClaim := { program := "ythpodbhiopnnbaa", sum := "4727ec0322993e5be4bf00f67690354f7a61d815ca5e9f7c4887360ec7c77f2f", func := "loop.example/g01109/laws.FnExactGuardSets", spec := "fnExactGuardSets", unfollowed := true, recurses := true, apart := false, narrowed := true }
def FnExactGuardSetsUptoSaid : Prop := fnExactGuardSetsUptoRow.holds Try.pinned (OpenSpec.upto fnExactGuardSetsSpec)

end Rows
end Go.Proofs.Ythpodbhiopnnbaa
