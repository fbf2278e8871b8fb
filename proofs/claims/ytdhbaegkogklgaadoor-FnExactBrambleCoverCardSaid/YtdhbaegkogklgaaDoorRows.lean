/-
  NARROWER THAN 'FOR EVERY INPUT', by the rows' own cells (each row's printed sentence says how): FnExactWorstAttack: laid · FnExactBestAnswer: laid · FnExactPlayAttacks: laid · FnExactBrambleCover: laid · FnExactChainsOf: laid · FnExactReversedSet: laid.
  DERIVED. THE GIVEN ROWS OF THIS SEAT. 6 by the template 'for every input the law returns true; each argument reads behind the call as it read before'; 0 by the template 'total and deterministic' (their statements: YtdhbaegkogklgaaDoorTotals.lean).
  GIVEN WITH THE SEED: the statements are not yours to turn. If you find one false, say at which input.
  Laid BY PROGRAM, IN A SANDBOX (cutbox-rows.mjs): the forced cells as the released guide's own fill.sh prints them over the translation b308c2bc8254a6fa… (all of the seat's roots in one cut). By AI agents, Wed Nov 11 2026. No macro, syntax, notation, axiom, sorry.
-/
import Derived.Test.YtdhbaegkogklgaaDoorChecked
import GoSem.Claim
import GoSem.ClaimJoined
import GoSem.ClaimMapViews
import Derived.JoinedTies
import Derived.KernelRfl
namespace Go.Proofs.YtdhbaegkogklgaaDoor
/- THE CELL 'sum', in the pinned program and in every row, IS THE sha256 OF THE DUMP (.gsa) THAT YtdhbaegkogklgaaDoorProg.lean LOADS. Nothing in Lean hashes anything: it is a label: what it is worth is what the hold of that sum in a sandbox is worth. -/
noncomputable def Tryd.pinned : Pinned := { name := "ytdhbaegkogklgaadoor", sum := "b308c2bc8254a6fa86b7b4b4f1175cf2241850b4052960edd83cebed7a8d774d", checked := Tryd.checked }
namespace Rows
def none {H : Type} : Left H := { results := [], args := [] }

/- WHAT THE LISTED PACKAGE-LEVEL VARIABLES READ AS WHEN THE CALL BEGINS. Each datum BY PROGRAM (the guide's laid-datum.mjs) off the statement by which the dump's own 'gosem.cut.vars' lays the variable. In a bare row this is a premise. The card (YtdhbaegkogklgaaDoorCards.lean) ties it to the program's text. -/
def laid_math_bits_deBruijn32tab {H : Type} : DataW H := .agg [.lit (.int .u8 0), .lit (.int .u8 1), .lit (.int .u8 28), .lit (.int .u8 2), .lit (.int .u8 29), .lit (.int .u8 14), .lit (.int .u8 24), .lit (.int .u8 3), .lit (.int .u8 30), .lit (.int .u8 22), .lit (.int .u8 20), .lit (.int .u8 15), .lit (.int .u8 25), .lit (.int .u8 17), .lit (.int .u8 4), .lit (.int .u8 8), .lit (.int .u8 31), .lit (.int .u8 27), .lit (.int .u8 13), .lit (.int .u8 23), .lit (.int .u8 21), .lit (.int .u8 19), .lit (.int .u8 16), .lit (.int .u8 7), .lit (.int .u8 26), .lit (.int .u8 12), .lit (.int .u8 18), .lit (.int .u8 6), .lit (.int .u8 11), .lit (.int .u8 5), .lit (.int .u8 10), .lit (.int .u8 9)]
def laid_math_bits_deBruijn64tab {H : Type} : DataW H := .agg [.lit (.int .u8 0), .lit (.int .u8 1), .lit (.int .u8 56), .lit (.int .u8 2), .lit (.int .u8 57), .lit (.int .u8 49), .lit (.int .u8 28), .lit (.int .u8 3), .lit (.int .u8 61), .lit (.int .u8 58), .lit (.int .u8 42), .lit (.int .u8 50), .lit (.int .u8 38), .lit (.int .u8 29), .lit (.int .u8 17), .lit (.int .u8 4), .lit (.int .u8 62), .lit (.int .u8 47), .lit (.int .u8 59), .lit (.int .u8 36), .lit (.int .u8 45), .lit (.int .u8 43), .lit (.int .u8 51), .lit (.int .u8 22), .lit (.int .u8 53), .lit (.int .u8 39), .lit (.int .u8 33), .lit (.int .u8 30), .lit (.int .u8 24), .lit (.int .u8 18), .lit (.int .u8 12), .lit (.int .u8 5), .lit (.int .u8 63), .lit (.int .u8 55), .lit (.int .u8 48), .lit (.int .u8 27), .lit (.int .u8 60), .lit (.int .u8 41), .lit (.int .u8 37), .lit (.int .u8 16), .lit (.int .u8 46), .lit (.int .u8 35), .lit (.int .u8 44), .lit (.int .u8 21), .lit (.int .u8 52), .lit (.int .u8 32), .lit (.int .u8 23), .lit (.int .u8 11), .lit (.int .u8 54), .lit (.int .u8 26), .lit (.int .u8 40), .lit (.int .u8 15), .lit (.int .u8 34), .lit (.int .u8 20), .lit (.int .u8 31), .lit (.int .u8 10), .lit (.int .u8 25), .lit (.int .u8 14), .lit (.int .u8 19), .lit (.int .u8 9), .lit (.int .u8 13), .lit (.int .u8 8), .lit (.int .u8 7), .lit (.int .u8 6)]

/-- 'laws.FnExactWorstAttack': WHATEVER THE INPUT: true; the input reads as it did. -/
def fnExactWorstAttackSpec : ChangeSpec := { name := "fnExactWorstAttack", fn := fun _ => fun
  | [d1, d2, d3] => { results := [.lit (.bool true)], args := [d1, d2, d3] }
  | _ => none }
def fnExactWorstAttackRow : OpenClaim := { program := "ytdhbaegkogklgaadoor", sum := "b308c2bc8254a6fa86b7b4b4f1175cf2241850b4052960edd83cebed7a8d774d", func := "loop.example/g01109/laws.FnExactWorstAttack", spec := "fnExactWorstAttack", unfollowed := true, recurses := true, named := ["math/bits.deBruijn32tab", "math/bits.deBruijn64tab"], apart := false, laid := [("math/bits.deBruijn32tab", laid_math_bits_deBruijn32tab), ("math/bits.deBruijn64tab", laid_math_bits_deBruijn64tab)] }
def FnExactWorstAttackSaid : Prop := fnExactWorstAttackRow.holds Tryd.pinned (OpenSpec.ofChange fnExactWorstAttackSpec)

/-- ITS FALSE NEIGHBOUR: 'it returns false'. Refute it at one input. -/
def fnExactWorstAttackWrong : ChangeSpec := { name := "fnExactWorstAttack", fn := fun _ => fun
  | [d1, d2, d3] => { results := [.lit (.bool false)], args := [d1, d2, d3] }
  | _ => none }
def FnExactWorstAttackWrongFalsely : Prop := fnExactWorstAttackRow.holds Tryd.pinned (OpenSpec.ofChange fnExactWorstAttackWrong)

/-- 'laws.FnExactBestAnswer': WHATEVER THE INPUT: true; the input reads as it did. -/
def fnExactBestAnswerSpec : ChangeSpec := { name := "fnExactBestAnswer", fn := fun _ => fun
  | [d1, d2, d3, d4] => { results := [.lit (.bool true)], args := [d1, d2, d3, d4] }
  | _ => none }
def fnExactBestAnswerRow : OpenClaim := { program := "ytdhbaegkogklgaadoor", sum := "b308c2bc8254a6fa86b7b4b4f1175cf2241850b4052960edd83cebed7a8d774d", func := "loop.example/g01109/laws.FnExactBestAnswer", spec := "fnExactBestAnswer", unfollowed := true, recurses := true, named := ["math/bits.deBruijn32tab", "math/bits.deBruijn64tab"], apart := false, laid := [("math/bits.deBruijn32tab", laid_math_bits_deBruijn32tab), ("math/bits.deBruijn64tab", laid_math_bits_deBruijn64tab)] }
def FnExactBestAnswerSaid : Prop := fnExactBestAnswerRow.holds Tryd.pinned (OpenSpec.ofChange fnExactBestAnswerSpec)

/-- ITS FALSE NEIGHBOUR: 'it returns false'. Refute it at one input. -/
def fnExactBestAnswerWrong : ChangeSpec := { name := "fnExactBestAnswer", fn := fun _ => fun
  | [d1, d2, d3, d4] => { results := [.lit (.bool false)], args := [d1, d2, d3, d4] }
  | _ => none }
def FnExactBestAnswerWrongFalsely : Prop := fnExactBestAnswerRow.holds Tryd.pinned (OpenSpec.ofChange fnExactBestAnswerWrong)

/-- 'laws.FnExactPlayAttacks': WHATEVER THE INPUT: true; the input reads as it did. -/
def fnExactPlayAttacksSpec : ChangeSpec := { name := "fnExactPlayAttacks", fn := fun _ => fun
  | [d1, d2, d3, d4] => { results := [.lit (.bool true)], args := [d1, d2, d3, d4] }
  | _ => none }
def fnExactPlayAttacksRow : OpenClaim := { program := "ytdhbaegkogklgaadoor", sum := "b308c2bc8254a6fa86b7b4b4f1175cf2241850b4052960edd83cebed7a8d774d", func := "loop.example/g01109/laws.FnExactPlayAttacks", spec := "fnExactPlayAttacks", unfollowed := true, recurses := true, named := ["math/bits.deBruijn32tab", "math/bits.deBruijn64tab"], apart := false, laid := [("math/bits.deBruijn32tab", laid_math_bits_deBruijn32tab), ("math/bits.deBruijn64tab", laid_math_bits_deBruijn64tab)] }
def FnExactPlayAttacksSaid : Prop := fnExactPlayAttacksRow.holds Tryd.pinned (OpenSpec.ofChange fnExactPlayAttacksSpec)

/-- ITS FALSE NEIGHBOUR: 'it returns false'. Refute it at one input. -/
def fnExactPlayAttacksWrong : ChangeSpec := { name := "fnExactPlayAttacks", fn := fun _ => fun
  | [d1, d2, d3, d4] => { results := [.lit (.bool false)], args := [d1, d2, d3, d4] }
  | _ => none }
def FnExactPlayAttacksWrongFalsely : Prop := fnExactPlayAttacksRow.holds Tryd.pinned (OpenSpec.ofChange fnExactPlayAttacksWrong)

/-- 'laws.FnExactBrambleCover': WHATEVER THE INPUT: true; the input reads as it did. -/
def fnExactBrambleCoverSpec : ChangeSpec := { name := "fnExactBrambleCover", fn := fun _ => fun
  | [d1, d2] => { results := [.lit (.bool true)], args := [d1, d2] }
  | _ => none }
def fnExactBrambleCoverRow : OpenClaim := { program := "ytdhbaegkogklgaadoor", sum := "b308c2bc8254a6fa86b7b4b4f1175cf2241850b4052960edd83cebed7a8d774d", func := "loop.example/g01109/laws.FnExactBrambleCover", spec := "fnExactBrambleCover", unfollowed := true, recurses := true, named := ["math/bits.deBruijn32tab", "math/bits.deBruijn64tab"], apart := false, laid := [("math/bits.deBruijn32tab", laid_math_bits_deBruijn32tab), ("math/bits.deBruijn64tab", laid_math_bits_deBruijn64tab)] }
def FnExactBrambleCoverSaid : Prop := fnExactBrambleCoverRow.holds Tryd.pinned (OpenSpec.ofChange fnExactBrambleCoverSpec)

/-- ITS FALSE NEIGHBOUR: 'it returns false'. Refute it at one input. -/
def fnExactBrambleCoverWrong : ChangeSpec := { name := "fnExactBrambleCover", fn := fun _ => fun
  | [d1, d2] => { results := [.lit (.bool false)], args := [d1, d2] }
  | _ => none }
def FnExactBrambleCoverWrongFalsely : Prop := fnExactBrambleCoverRow.holds Tryd.pinned (OpenSpec.ofChange fnExactBrambleCoverWrong)

/-- 'laws.FnExactChainsOf': WHATEVER THE INPUT: true; the input reads as it did. -/
def fnExactChainsOfSpec : ChangeSpec := { name := "fnExactChainsOf", fn := fun _ => fun
  | [d1, d2] => { results := [.lit (.bool true)], args := [d1, d2] }
  | _ => none }
def fnExactChainsOfRow : OpenClaim := { program := "ytdhbaegkogklgaadoor", sum := "b308c2bc8254a6fa86b7b4b4f1175cf2241850b4052960edd83cebed7a8d774d", func := "loop.example/g01109/laws.FnExactChainsOf", spec := "fnExactChainsOf", unfollowed := true, recurses := true, named := ["math/bits.deBruijn32tab", "math/bits.deBruijn64tab"], apart := false, laid := [("math/bits.deBruijn32tab", laid_math_bits_deBruijn32tab), ("math/bits.deBruijn64tab", laid_math_bits_deBruijn64tab)] }
def FnExactChainsOfSaid : Prop := fnExactChainsOfRow.holds Tryd.pinned (OpenSpec.ofChange fnExactChainsOfSpec)

/-- ITS FALSE NEIGHBOUR: 'it returns false'. Refute it at one input. -/
def fnExactChainsOfWrong : ChangeSpec := { name := "fnExactChainsOf", fn := fun _ => fun
  | [d1, d2] => { results := [.lit (.bool false)], args := [d1, d2] }
  | _ => none }
def FnExactChainsOfWrongFalsely : Prop := fnExactChainsOfRow.holds Tryd.pinned (OpenSpec.ofChange fnExactChainsOfWrong)

/-- 'laws.FnExactReversedSet': WHATEVER THE INPUT: true; the input reads as it did. -/
def fnExactReversedSetSpec : ChangeSpec := { name := "fnExactReversedSet", fn := fun _ => fun
  | [d1, d2] => { results := [.lit (.bool true)], args := [d1, d2] }
  | _ => none }
def fnExactReversedSetRow : OpenClaim := { program := "ytdhbaegkogklgaadoor", sum := "b308c2bc8254a6fa86b7b4b4f1175cf2241850b4052960edd83cebed7a8d774d", func := "loop.example/g01109/laws.FnExactReversedSet", spec := "fnExactReversedSet", unfollowed := true, recurses := true, named := ["math/bits.deBruijn32tab", "math/bits.deBruijn64tab"], apart := false, laid := [("math/bits.deBruijn32tab", laid_math_bits_deBruijn32tab), ("math/bits.deBruijn64tab", laid_math_bits_deBruijn64tab)] }
def FnExactReversedSetSaid : Prop := fnExactReversedSetRow.holds Tryd.pinned (OpenSpec.ofChange fnExactReversedSetSpec)

/-- ITS FALSE NEIGHBOUR: 'it returns false'. Refute it at one input. -/
def fnExactReversedSetWrong : ChangeSpec := { name := "fnExactReversedSet", fn := fun _ => fun
  | [d1, d2] => { results := [.lit (.bool false)], args := [d1, d2] }
  | _ => none }
def FnExactReversedSetWrongFalsely : Prop := fnExactReversedSetRow.holds Tryd.pinned (OpenSpec.ofChange fnExactReversedSetWrong)

/- THE SECOND FORM. 'bulk': how many values and letters a reading holds, each counted each time it is reached (what is shared counts as often as it is met; a slice's spare places count too). A statement '..UptoSaid' is the law's where the arguments, and the package variables that the reading takes, are together of bulk at most 1048576: NARROWER than '..Said'. Prove '..Said' where nothing that the law and all that it calls make is longer than what came in: it says more and counts as full. Else prove '..UptoSaid'. A law counts once. -/
mutual
def uptoBulk {H : Type} : DataW H → Nat
  | .lit (.string bytes) => bytes.length + 1
  | .lit _ => 1
  | .nil => 1
  | .ptr d => uptoBulk d + 1
  | .slice elems spare => uptoBulkAll elems + uptoBulkAll spare + 1
  | .agg parts => uptoBulkAll parts + 1
  | .iface _ d => uptoBulk d + 1
  | .map entries => uptoBulkEntries entries + 1
  | .held _ => 1
def uptoBulkAll {H : Type} : List (DataW H) → Nat
  | [] => 0
  | d :: r => uptoBulk d + uptoBulkAll r
def uptoBulkEntries {H : Type} : List (Lit × DataW H) → Nat
  | [] => 0
  | x :: r => uptoBulkEntry x + uptoBulkEntries r
def uptoBulkEntry {H : Type} : Lit × DataW H → Nat
  | (.string bytes, d) => bytes.length + uptoBulk d + 1
  | (_, d) => uptoBulk d + 1
 end
def uptoSmall : (H : Type) → List (DataW H) → Bool := fun _ ds => decide (uptoBulkAll ds ≤ 1048576)
def OpenSpec.upto (s : _root_.Go.ChangeSpec) : _root_.Go.OpenSpec := { _root_.Go.OpenSpec.ofChange s with cond := some uptoSmall }

/-- 'laws.FnExactWorstAttack', WHERE WHAT IT READS IS OF BULK AT MOST 1048576: true; the input reads as it did. -/
def fnExactWorstAttackUptoRow : OpenClaim := { program := "ytdhbaegkogklgaadoor", sum := "b308c2bc8254a6fa86b7b4b4f1175cf2241850b4052960edd83cebed7a8d774d", func := "loop.example/g01109/laws.FnExactWorstAttack", spec := "fnExactWorstAttack", unfollowed := true, recurses := true, named := ["math/bits.deBruijn32tab", "math/bits.deBruijn64tab"], apart := false, laid := [("math/bits.deBruijn32tab", laid_math_bits_deBruijn32tab), ("math/bits.deBruijn64tab", laid_math_bits_deBruijn64tab)], narrowed := true }
def FnExactWorstAttackUptoSaid : Prop := fnExactWorstAttackUptoRow.holds Tryd.pinned (OpenSpec.upto fnExactWorstAttackSpec)

/-- 'laws.FnExactBestAnswer', WHERE WHAT IT READS IS OF BULK AT MOST 1048576: true; the input reads as it did. -/
def fnExactBestAnswerUptoRow : OpenClaim := { program := "ytdhbaegkogklgaadoor", sum := "b308c2bc8254a6fa86b7b4b4f1175cf2241850b4052960edd83cebed7a8d774d", func := "loop.example/g01109/laws.FnExactBestAnswer", spec := "fnExactBestAnswer", unfollowed := true, recurses := true, named := ["math/bits.deBruijn32tab", "math/bits.deBruijn64tab"], apart := false, laid := [("math/bits.deBruijn32tab", laid_math_bits_deBruijn32tab), ("math/bits.deBruijn64tab", laid_math_bits_deBruijn64tab)], narrowed := true }
def FnExactBestAnswerUptoSaid : Prop := fnExactBestAnswerUptoRow.holds Tryd.pinned (OpenSpec.upto fnExactBestAnswerSpec)

/-- 'laws.FnExactPlayAttacks', WHERE WHAT IT READS IS OF BULK AT MOST 1048576: true; the input reads as it did. -/
def fnExactPlayAttacksUptoRow : OpenClaim := { program := "ytdhbaegkogklgaadoor", sum := "b308c2bc8254a6fa86b7b4b4f1175cf2241850b4052960edd83cebed7a8d774d", func := "loop.example/g01109/laws.FnExactPlayAttacks", spec := "fnExactPlayAttacks", unfollowed := true, recurses := true, named := ["math/bits.deBruijn32tab", "math/bits.deBruijn64tab"], apart := false, laid := [("math/bits.deBruijn32tab", laid_math_bits_deBruijn32tab), ("math/bits.deBruijn64tab", laid_math_bits_deBruijn64tab)], narrowed := true }
def FnExactPlayAttacksUptoSaid : Prop := fnExactPlayAttacksUptoRow.holds Tryd.pinned (OpenSpec.upto fnExactPlayAttacksSpec)

/-- 'laws.FnExactBrambleCover', WHERE WHAT IT READS IS OF BULK AT MOST 1048576: true; the input reads as it did. -/
def fnExactBrambleCoverUptoRow : OpenClaim := { program := "ytdhbaegkogklgaadoor", sum := "b308c2bc8254a6fa86b7b4b4f1175cf2241850b4052960edd83cebed7a8d774d", func := "loop.example/g01109/laws.FnExactBrambleCover", spec := "fnExactBrambleCover", unfollowed := true, recurses := true, named := ["math/bits.deBruijn32tab", "math/bits.deBruijn64tab"], apart := false, laid := [("math/bits.deBruijn32tab", laid_math_bits_deBruijn32tab), ("math/bits.deBruijn64tab", laid_math_bits_deBruijn64tab)], narrowed := true }
def FnExactBrambleCoverUptoSaid : Prop := fnExactBrambleCoverUptoRow.holds Tryd.pinned (OpenSpec.upto fnExactBrambleCoverSpec)

/-- 'laws.FnExactChainsOf', WHERE WHAT IT READS IS OF BULK AT MOST 1048576: true; the input reads as it did. -/
def fnExactChainsOfUptoRow : OpenClaim := { program := "ytdhbaegkogklgaadoor", sum := "b308c2bc8254a6fa86b7b4b4f1175cf2241850b4052960edd83cebed7a8d774d", func := "loop.example/g01109/laws.FnExactChainsOf", spec := "fnExactChainsOf", unfollowed := true, recurses := true, named := ["math/bits.deBruijn32tab", "math/bits.deBruijn64tab"], apart := false, laid := [("math/bits.deBruijn32tab", laid_math_bits_deBruijn32tab), ("math/bits.deBruijn64tab", laid_math_bits_deBruijn64tab)], narrowed := true }
def FnExactChainsOfUptoSaid : Prop := fnExactChainsOfUptoRow.holds Tryd.pinned (OpenSpec.upto fnExactChainsOfSpec)

/-- 'laws.FnExactReversedSet', WHERE WHAT IT READS IS OF BULK AT MOST 1048576: true; the input reads as it did. -/
def fnExactReversedSetUptoRow : OpenClaim := { program := "ytdhbaegkogklgaadoor", sum := "b308c2bc8254a6fa86b7b4b4f1175cf2241850b4052960edd83cebed7a8d774d", func := "loop.example/g01109/laws.FnExactReversedSet", spec := "fnExactReversedSet", unfollowed := true, recurses := true, named := ["math/bits.deBruijn32tab", "math/bits.deBruijn64tab"], apart := false, laid := [("math/bits.deBruijn32tab", laid_math_bits_deBruijn32tab), ("math/bits.deBruijn64tab", laid_math_bits_deBruijn64tab)], narrowed := true }
def FnExactReversedSetUptoSaid : Prop := fnExactReversedSetUptoRow.holds Tryd.pinned (OpenSpec.upto fnExactReversedSetSpec)

end Rows
end Go.Proofs.YtdhbaegkogklgaaDoor
