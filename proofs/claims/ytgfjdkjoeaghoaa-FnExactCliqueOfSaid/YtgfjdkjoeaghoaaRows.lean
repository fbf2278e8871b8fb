/-
  No cell of these rows narrows 'for every input' (looked for: loops, veiled, ifaces, maps, wideKeys, modest, calm, conditions, laid).
  DERIVED. THE GIVEN ROWS OF THIS SEAT. 5 by the template 'for every input the law returns true; each argument reads behind the call as it read before'; 0 by the template 'total and deterministic' (their statements: YtgfjdkjoeaghoaaTotals.lean).
  GIVEN WITH THE SEED: the statements are not yours to turn. If you find one false, say at which input.
  Laid BY PROGRAM, IN A SANDBOX (cutbox-rows.mjs): the forced cells as the released guide's own fill.sh prints them over the translation 5b679e2ce0930360… (all of the seat's roots in one cut). By AI agents, Wed Nov 11 2026. No macro, syntax, notation, axiom, sorry.
-/
import Derived.Test.YtgfjdkjoeaghoaaChecked
import GoSem.Claim
import GoSem.ClaimJoined
import GoSem.ClaimMapViews
import Derived.JoinedTies
import Derived.KernelRfl
namespace Go.Proofs.Ytgfjdkjoeaghoaa
/- THE CELL 'sum', in the pinned program and in every row, IS THE sha256 OF THE DUMP (.gsa) THAT YtgfjdkjoeaghoaaProg.lean LOADS. Nothing in Lean hashes anything: it is a label: what it is worth is what the hold of that sum in a sandbox is worth. -/
noncomputable def Try.pinned : Pinned := { name := "ytgfjdkjoeaghoaa", sum := "5b679e2ce0930360e9f4f74d348d41fa06fc055f440546ac2f49d66bb859994b", checked := Try.checked }
namespace Rows
def none {H : Type} : Left H := { results := [], args := [] }

/-- 'laws.FnExactCoverFamily': WHATEVER THE INPUT: true; the input reads as it did. -/
def fnExactCoverFamilySpec : ChangeSpec := { name := "fnExactCoverFamily", fn := fun _ => fun
  | [d1, d2] => { results := [.lit (.bool true)], args := [d1, d2] }
  | _ => none }
def fnExactCoverFamilyRow : OpenClaim := { program := "ytgfjdkjoeaghoaa", sum := "5b679e2ce0930360e9f4f74d348d41fa06fc055f440546ac2f49d66bb859994b", func := "loop.example/g01109/laws.FnExactCoverFamily", spec := "fnExactCoverFamily", unfollowed := true, recurses := true, apart := false }
def FnExactCoverFamilySaid : Prop := fnExactCoverFamilyRow.holds Try.pinned (OpenSpec.ofChange fnExactCoverFamilySpec)

/-- ITS FALSE NEIGHBOUR: 'it returns false'. Refute it at one input. -/
def fnExactCoverFamilyWrong : ChangeSpec := { name := "fnExactCoverFamily", fn := fun _ => fun
  | [d1, d2] => { results := [.lit (.bool false)], args := [d1, d2] }
  | _ => none }
def FnExactCoverFamilyWrongFalsely : Prop := fnExactCoverFamilyRow.holds Try.pinned (OpenSpec.ofChange fnExactCoverFamilyWrong)

/-- 'laws.FnExactCliqueOf': WHATEVER THE INPUT: true; the input reads as it did. -/
def fnExactCliqueOfSpec : ChangeSpec := { name := "fnExactCliqueOf", fn := fun _ => fun
  | [d] => { results := [.lit (.bool true)], args := [d] }
  | _ => none }
def fnExactCliqueOfRow : OpenClaim := { program := "ytgfjdkjoeaghoaa", sum := "5b679e2ce0930360e9f4f74d348d41fa06fc055f440546ac2f49d66bb859994b", func := "loop.example/g01109/laws.FnExactCliqueOf", spec := "fnExactCliqueOf", unfollowed := true, recurses := true, apart := false }
def FnExactCliqueOfSaid : Prop := fnExactCliqueOfRow.holds Try.pinned (OpenSpec.ofChange fnExactCliqueOfSpec)

/-- ITS FALSE NEIGHBOUR: 'it returns false'. Refute it at one input. -/
def fnExactCliqueOfWrong : ChangeSpec := { name := "fnExactCliqueOf", fn := fun _ => fun
  | [d] => { results := [.lit (.bool false)], args := [d] }
  | _ => none }
def FnExactCliqueOfWrongFalsely : Prop := fnExactCliqueOfRow.holds Try.pinned (OpenSpec.ofChange fnExactCliqueOfWrong)

/-- 'laws.FnExactLargestFarSet': WHATEVER THE INPUT: true; the input reads as it did. -/
def fnExactLargestFarSetSpec : ChangeSpec := { name := "fnExactLargestFarSet", fn := fun _ => fun
  | [d1, d2] => { results := [.lit (.bool true)], args := [d1, d2] }
  | _ => none }
def fnExactLargestFarSetRow : OpenClaim := { program := "ytgfjdkjoeaghoaa", sum := "5b679e2ce0930360e9f4f74d348d41fa06fc055f440546ac2f49d66bb859994b", func := "loop.example/g01109/laws.FnExactLargestFarSet", spec := "fnExactLargestFarSet", unfollowed := true, recurses := true, apart := false }
def FnExactLargestFarSetSaid : Prop := fnExactLargestFarSetRow.holds Try.pinned (OpenSpec.ofChange fnExactLargestFarSetSpec)

/-- ITS FALSE NEIGHBOUR: 'it returns false'. Refute it at one input. -/
def fnExactLargestFarSetWrong : ChangeSpec := { name := "fnExactLargestFarSet", fn := fun _ => fun
  | [d1, d2] => { results := [.lit (.bool false)], args := [d1, d2] }
  | _ => none }
def FnExactLargestFarSetWrongFalsely : Prop := fnExactLargestFarSetRow.holds Try.pinned (OpenSpec.ofChange fnExactLargestFarSetWrong)

/-- 'laws.FnExactFarBound': WHATEVER THE INPUT: true; the input reads as it did. -/
def fnExactFarBoundSpec : ChangeSpec := { name := "fnExactFarBound", fn := fun _ => fun
  | [d] => { results := [.lit (.bool true)], args := [d] }
  | _ => none }
def fnExactFarBoundRow : OpenClaim := { program := "ytgfjdkjoeaghoaa", sum := "5b679e2ce0930360e9f4f74d348d41fa06fc055f440546ac2f49d66bb859994b", func := "loop.example/g01109/laws.FnExactFarBound", spec := "fnExactFarBound", unfollowed := true, recurses := true, apart := false }
def FnExactFarBoundSaid : Prop := fnExactFarBoundRow.holds Try.pinned (OpenSpec.ofChange fnExactFarBoundSpec)

/-- ITS FALSE NEIGHBOUR: 'it returns false'. Refute it at one input. -/
def fnExactFarBoundWrong : ChangeSpec := { name := "fnExactFarBound", fn := fun _ => fun
  | [d] => { results := [.lit (.bool false)], args := [d] }
  | _ => none }
def FnExactFarBoundWrongFalsely : Prop := fnExactFarBoundRow.holds Try.pinned (OpenSpec.ofChange fnExactFarBoundWrong)

/-- 'laws.FnExactNullityOf': WHATEVER THE INPUT: true; the input reads as it did. -/
def fnExactNullityOfSpec : ChangeSpec := { name := "fnExactNullityOf", fn := fun _ => fun
  | [d1, d2] => { results := [.lit (.bool true)], args := [d1, d2] }
  | _ => none }
def fnExactNullityOfRow : OpenClaim := { program := "ytgfjdkjoeaghoaa", sum := "5b679e2ce0930360e9f4f74d348d41fa06fc055f440546ac2f49d66bb859994b", func := "loop.example/g01109/laws.FnExactNullityOf", spec := "fnExactNullityOf", unfollowed := true, recurses := true, apart := false }
def FnExactNullityOfSaid : Prop := fnExactNullityOfRow.holds Try.pinned (OpenSpec.ofChange fnExactNullityOfSpec)

/-- ITS FALSE NEIGHBOUR: 'it returns false'. Refute it at one input. -/
def fnExactNullityOfWrong : ChangeSpec := { name := "fnExactNullityOf", fn := fun _ => fun
  | [d1, d2] => { results := [.lit (.bool false)], args := [d1, d2] }
  | _ => none }
def FnExactNullityOfWrongFalsely : Prop := fnExactNullityOfRow.holds Try.pinned (OpenSpec.ofChange fnExactNullityOfWrong)

/- THE SECOND FORM. 'bulk': how many values and letters a reading holds, each counted each time it is reached (what is shared counts as often as it is met; a slice's spare places count too). A statement '..UptoSaid' is the law's where the arguments, and the package variables that the reading takes, are together of bulk at most 1048576: NARROWER than '..Said'. Prove '..Said' where nothing that the law and all that it calls make is longer than what came in: it says more and counts as full. Else prove '..UptoSaid'. A law counts once. -/
mutual
def uptoBulk {H : Type} : DataW H → Nat
  | .lit (.string bytes) => bytes.length + 1
  | .lit _ => 1
  | .nil => 1
  | .ptr d => uptoBulk d + 1
  | .slice elems spare => uptoBulkAll elems + uptoBulkAll spare + 1
  | .agg parts => uptoBulkAll parts + 1
  | .iface _ d => uptoBulk d + 1
  | .map entries => uptoBulkEntries entries + 1
  | .held _ => 1
def uptoBulkAll {H : Type} : List (DataW H) → Nat
  | [] => 0
  | d :: r => uptoBulk d + uptoBulkAll r
def uptoBulkEntries {H : Type} : List (Lit × DataW H) → Nat
  | [] => 0
  | x :: r => uptoBulkEntry x + uptoBulkEntries r
def uptoBulkEntry {H : Type} : Lit × DataW H → Nat
  | (.string bytes, d) => bytes.length + uptoBulk d + 1
  | (_, d) => uptoBulk d + 1
 end
def uptoSmall : (H : Type) → List (DataW H) → Bool := fun _ ds => decide (uptoBulkAll ds ≤ 1048576)
def OpenSpec.upto (s : _root_.Go.ChangeSpec) : _root_.Go.OpenSpec := { _root_.Go.OpenSpec.ofChange s with cond := some uptoSmall }

/-- 'laws.FnExactCoverFamily', WHERE WHAT IT READS IS OF BULK AT MOST 1048576: true; the input reads as it did. -/
def fnExactCoverFamilyUptoRow : OpenClaim := { program := "ytgfjdkjoeaghoaa", sum := "5b679e2ce0930360e9f4f74d348d41fa06fc055f440546ac2f49d66bb859994b", func := "loop.example/g01109/laws.FnExactCoverFamily", spec := "fnExactCoverFamily", unfollowed := true, recurses := true, apart := false, narrowed := true }
def FnExactCoverFamilyUptoSaid : Prop := fnExactCoverFamilyUptoRow.holds Try.pinned (OpenSpec.upto fnExactCoverFamilySpec)

/-- 'laws.FnExactCliqueOf', WHERE WHAT IT READS IS OF BULK AT MOST 1048576: true; the input reads as it did. -/
def fnExactCliqueOfUptoRow : OpenClaim := { program := "ytgfjdkjoeaghoaa", sum := "5b679e2ce0930360e9f4f74d348d41fa06fc055f440546ac2f49d66bb859994b", func := "loop.example/g01109/laws.FnExactCliqueOf", spec := "fnExactCliqueOf", unfollowed := true, recurses := true, apart := false, narrowed := true }
def FnExactCliqueOfUptoSaid : Prop := fnExactCliqueOfUptoRow.holds Try.pinned (OpenSpec.upto fnExactCliqueOfSpec)

/-- 'laws.FnExactLargestFarSet', WHERE WHAT IT READS IS OF BULK AT MOST 1048576: true; the input reads as it did. -/
def fnExactLargestFarSetUptoRow : OpenClaim := { program := "ytgfjdkjoeaghoaa", sum := "5b679e2ce0930360e9f4f74d348d41fa06fc055f440546ac2f49d66bb859994b", func := "loop.example/g01109/laws.FnExactLargestFarSet", spec := "fnExactLargestFarSet", unfollowed := true, recurses := true, apart := false, narrowed := true }
def FnExactLargestFarSetUptoSaid : Prop := fnExactLargestFarSetUptoRow.holds Try.pinned (OpenSpec.upto fnExactLargestFarSetSpec)

/-- 'laws.FnExactFarBound', WHERE WHAT IT READS IS OF BULK AT MOST 1048576: true; the input reads as it did. -/
def fnExactFarBoundUptoRow : OpenClaim := { program := "ytgfjdkjoeaghoaa", sum := "5b679e2ce0930360e9f4f74d348d41fa06fc055f440546ac2f49d66bb859994b", func := "loop.example/g01109/laws.FnExactFarBound", spec := "fnExactFarBound", unfollowed := true, recurses := true, apart := false, narrowed := true }
def FnExactFarBoundUptoSaid : Prop := fnExactFarBoundUptoRow.holds Try.pinned (OpenSpec.upto fnExactFarBoundSpec)

/-- 'laws.FnExactNullityOf', WHERE WHAT IT READS IS OF BULK AT MOST 1048576: true; the input reads as it did. -/
def fnExactNullityOfUptoRow : OpenClaim := { program := "ytgfjdkjoeaghoaa", sum := "5b679e2ce0930360e9f4f74d348d41fa06fc055f440546ac2f49d66bb859994b", func := "loop.example/g01109/laws.FnExactNullityOf", spec := "fnExactNullityOf", unfollowed := true, recurses := true, apart := false, narrowed := true }
def FnExactNullityOfUptoSaid : Prop := fnExactNullityOfUptoRow.holds Try.pinned (OpenSpec.upto fnExactNullityOfSpec)

end Rows
end Go.Proofs.Ytgfjdkjoeaghoaa
