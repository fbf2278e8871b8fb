/-
  No cell of these rows narrows 'for every input' (looked for: loops, veiled, ifaces, maps, wideKeys, modest, calm, conditions, laid).
  DERIVED. THE GIVEN ROWS OF THIS SEAT. 11 by the template 'for every input the law returns true; each argument reads behind the call as it read before'; 0 by the template 'total and deterministic' (their statements: YtbdappkhkngdlaaTotals.lean).
  GIVEN WITH THE SEED: the statements are not yours to turn. If you find one false, say at which input.
  Laid BY PROGRAM, IN A SANDBOX (cutbox-rows.mjs): the forced cells as the released guide's own fill.sh prints them over the translation 8134bc72133e0457… (all of the seat's roots in one cut). By AI agents, Wed Nov 11 2026. No macro, syntax, notation, axiom, sorry.
-/
import Derived.Test.YtbdappkhkngdlaaChecked
import GoSem.Claim
import GoSem.ClaimJoined
import GoSem.ClaimMapViews
import Derived.JoinedTies
import Derived.KernelRfl
namespace Go.Proofs.Ytbdappkhkngdlaa
/- THE CELL 'sum', in the pinned program and in every row, IS THE sha256 OF THE DUMP (.gsa) THAT YtbdappkhkngdlaaProg.lean LOADS. Nothing in Lean hashes anything: it is a label: what it is worth is what the hold of that sum in a sandbox is worth. -/
noncomputable def Try.pinned : Pinned := { name := "ytbdappkhkngdlaa", sum := "8134bc72133e04574121c5bd00dc8920c59667681c65ac114d447ab692007ee5", checked := Try.checked }
namespace Rows
def none {H : Type} : Left H := { results := [], args := [] }

/-- 'laws.FnExactIsCorner': WHATEVER THE INPUT: true; the input reads as it did. -/
def fnExactIsCornerSpec : ChangeSpec := { name := "fnExactIsCorner", fn := fun _ => fun
  | [d1, d2, d3] => { results := [.lit (.bool true)], args := [d1, d2, d3] }
  | _ => none }
def fnExactIsCornerRow : OpenClaim := { program := "ytbdappkhkngdlaa", sum := "8134bc72133e04574121c5bd00dc8920c59667681c65ac114d447ab692007ee5", func := "loop.example/g01109/laws.FnExactIsCorner", spec := "fnExactIsCorner", plainKeys := false, apart := false }
def FnExactIsCornerSaid : Prop := fnExactIsCornerRow.holds Try.pinned (OpenSpec.ofChange fnExactIsCornerSpec)

/-- ITS FALSE NEIGHBOUR: 'it returns false'. Refute it at one input. -/
def fnExactIsCornerWrong : ChangeSpec := { name := "fnExactIsCorner", fn := fun _ => fun
  | [d1, d2, d3] => { results := [.lit (.bool false)], args := [d1, d2, d3] }
  | _ => none }
def FnExactIsCornerWrongFalsely : Prop := fnExactIsCornerRow.holds Try.pinned (OpenSpec.ofChange fnExactIsCornerWrong)

/-- 'laws.FnExactCoversOf': WHATEVER THE INPUT: true; the input reads as it did. -/
def fnExactCoversOfSpec : ChangeSpec := { name := "fnExactCoversOf", fn := fun _ => fun
  | [d1, d2] => { results := [.lit (.bool true)], args := [d1, d2] }
  | _ => none }
def fnExactCoversOfRow : OpenClaim := { program := "ytbdappkhkngdlaa", sum := "8134bc72133e04574121c5bd00dc8920c59667681c65ac114d447ab692007ee5", func := "loop.example/g01109/laws.FnExactCoversOf", spec := "fnExactCoversOf", unfollowed := true, recurses := true, plainKeys := false, apart := false }
def FnExactCoversOfSaid : Prop := fnExactCoversOfRow.holds Try.pinned (OpenSpec.ofChange fnExactCoversOfSpec)

/-- ITS FALSE NEIGHBOUR: 'it returns false'. Refute it at one input. -/
def fnExactCoversOfWrong : ChangeSpec := { name := "fnExactCoversOf", fn := fun _ => fun
  | [d1, d2] => { results := [.lit (.bool false)], args := [d1, d2] }
  | _ => none }
def FnExactCoversOfWrongFalsely : Prop := fnExactCoversOfRow.holds Try.pinned (OpenSpec.ofChange fnExactCoversOfWrong)

/-- 'laws.FnExactCornersOf': WHATEVER THE INPUT: true; the input reads as it did. -/
def fnExactCornersOfSpec : ChangeSpec := { name := "fnExactCornersOf", fn := fun _ => fun
  | [d1, d2] => { results := [.lit (.bool true)], args := [d1, d2] }
  | _ => none }
def fnExactCornersOfRow : OpenClaim := { program := "ytbdappkhkngdlaa", sum := "8134bc72133e04574121c5bd00dc8920c59667681c65ac114d447ab692007ee5", func := "loop.example/g01109/laws.FnExactCornersOf", spec := "fnExactCornersOf", unfollowed := true, recurses := true, plainKeys := false, apart := false }
def FnExactCornersOfSaid : Prop := fnExactCornersOfRow.holds Try.pinned (OpenSpec.ofChange fnExactCornersOfSpec)

/-- ITS FALSE NEIGHBOUR: 'it returns false'. Refute it at one input. -/
def fnExactCornersOfWrong : ChangeSpec := { name := "fnExactCornersOf", fn := fun _ => fun
  | [d1, d2] => { results := [.lit (.bool false)], args := [d1, d2] }
  | _ => none }
def FnExactCornersOfWrongFalsely : Prop := fnExactCornersOfRow.holds Try.pinned (OpenSpec.ofChange fnExactCornersOfWrong)

/-- 'laws.FnExactIsRetraction': WHATEVER THE INPUT: true; the input reads as it did. -/
def fnExactIsRetractionSpec : ChangeSpec := { name := "fnExactIsRetraction", fn := fun _ => fun
  | [d1, d2] => { results := [.lit (.bool true)], args := [d1, d2] }
  | _ => none }
def fnExactIsRetractionRow : OpenClaim := { program := "ytbdappkhkngdlaa", sum := "8134bc72133e04574121c5bd00dc8920c59667681c65ac114d447ab692007ee5", func := "loop.example/g01109/laws.FnExactIsRetraction", spec := "fnExactIsRetraction", unfollowed := true, recurses := true, plainKeys := false, apart := false }
def FnExactIsRetractionSaid : Prop := fnExactIsRetractionRow.holds Try.pinned (OpenSpec.ofChange fnExactIsRetractionSpec)

/-- ITS FALSE NEIGHBOUR: 'it returns false'. Refute it at one input. -/
def fnExactIsRetractionWrong : ChangeSpec := { name := "fnExactIsRetraction", fn := fun _ => fun
  | [d1, d2] => { results := [.lit (.bool false)], args := [d1, d2] }
  | _ => none }
def FnExactIsRetractionWrongFalsely : Prop := fnExactIsRetractionRow.holds Try.pinned (OpenSpec.ofChange fnExactIsRetractionWrong)

/-- 'laws.FnExactIsRoom': WHATEVER THE INPUT: true; the input reads as it did. -/
def fnExactIsRoomSpec : ChangeSpec := { name := "fnExactIsRoom", fn := fun _ => fun
  | [d1, d2, d3] => { results := [.lit (.bool true)], args := [d1, d2, d3] }
  | _ => none }
def fnExactIsRoomRow : OpenClaim := { program := "ytbdappkhkngdlaa", sum := "8134bc72133e04574121c5bd00dc8920c59667681c65ac114d447ab692007ee5", func := "loop.example/g01109/laws.FnExactIsRoom", spec := "fnExactIsRoom", unfollowed := true, recurses := true, plainKeys := false, apart := false }
def FnExactIsRoomSaid : Prop := fnExactIsRoomRow.holds Try.pinned (OpenSpec.ofChange fnExactIsRoomSpec)

/-- ITS FALSE NEIGHBOUR: 'it returns false'. Refute it at one input. -/
def fnExactIsRoomWrong : ChangeSpec := { name := "fnExactIsRoom", fn := fun _ => fun
  | [d1, d2, d3] => { results := [.lit (.bool false)], args := [d1, d2, d3] }
  | _ => none }
def FnExactIsRoomWrongFalsely : Prop := fnExactIsRoomRow.holds Try.pinned (OpenSpec.ofChange fnExactIsRoomWrong)

/-- 'laws.FnExactDegreesOf': WHATEVER THE INPUT: true; the input reads as it did. -/
def fnExactDegreesOfSpec : ChangeSpec := { name := "fnExactDegreesOf", fn := fun _ => fun
  | [d] => { results := [.lit (.bool true)], args := [d] }
  | _ => none }
def fnExactDegreesOfRow : OpenClaim := { program := "ytbdappkhkngdlaa", sum := "8134bc72133e04574121c5bd00dc8920c59667681c65ac114d447ab692007ee5", func := "loop.example/g01109/laws.FnExactDegreesOf", spec := "fnExactDegreesOf", plainKeys := false, apart := false }
def FnExactDegreesOfSaid : Prop := fnExactDegreesOfRow.holds Try.pinned (OpenSpec.ofChange fnExactDegreesOfSpec)

/-- ITS FALSE NEIGHBOUR: 'it returns false'. Refute it at one input. -/
def fnExactDegreesOfWrong : ChangeSpec := { name := "fnExactDegreesOf", fn := fun _ => fun
  | [d] => { results := [.lit (.bool false)], args := [d] }
  | _ => none }
def FnExactDegreesOfWrongFalsely : Prop := fnExactDegreesOfRow.holds Try.pinned (OpenSpec.ofChange fnExactDegreesOfWrong)

/-- 'laws.FnExactBallOf': WHATEVER THE INPUT: true; the input reads as it did. -/
def fnExactBallOfSpec : ChangeSpec := { name := "fnExactBallOf", fn := fun _ => fun
  | [d1, d2, d3] => { results := [.lit (.bool true)], args := [d1, d2, d3] }
  | _ => none }
def fnExactBallOfRow : OpenClaim := { program := "ytbdappkhkngdlaa", sum := "8134bc72133e04574121c5bd00dc8920c59667681c65ac114d447ab692007ee5", func := "loop.example/g01109/laws.FnExactBallOf", spec := "fnExactBallOf", unfollowed := true, recurses := true, plainKeys := false, apart := false }
def FnExactBallOfSaid : Prop := fnExactBallOfRow.holds Try.pinned (OpenSpec.ofChange fnExactBallOfSpec)

/-- ITS FALSE NEIGHBOUR: 'it returns false'. Refute it at one input. -/
def fnExactBallOfWrong : ChangeSpec := { name := "fnExactBallOf", fn := fun _ => fun
  | [d1, d2, d3] => { results := [.lit (.bool false)], args := [d1, d2, d3] }
  | _ => none }
def FnExactBallOfWrongFalsely : Prop := fnExactBallOfRow.holds Try.pinned (OpenSpec.ofChange fnExactBallOfWrong)

/-- 'laws.FnExactDistancesOf': WHATEVER THE INPUT: true; the input reads as it did. -/
def fnExactDistancesOfSpec : ChangeSpec := { name := "fnExactDistancesOf", fn := fun _ => fun
  | [d] => { results := [.lit (.bool true)], args := [d] }
  | _ => none }
def fnExactDistancesOfRow : OpenClaim := { program := "ytbdappkhkngdlaa", sum := "8134bc72133e04574121c5bd00dc8920c59667681c65ac114d447ab692007ee5", func := "loop.example/g01109/laws.FnExactDistancesOf", spec := "fnExactDistancesOf", unfollowed := true, recurses := true, plainKeys := false, apart := false }
def FnExactDistancesOfSaid : Prop := fnExactDistancesOfRow.holds Try.pinned (OpenSpec.ofChange fnExactDistancesOfSpec)

/-- ITS FALSE NEIGHBOUR: 'it returns false'. Refute it at one input. -/
def fnExactDistancesOfWrong : ChangeSpec := { name := "fnExactDistancesOf", fn := fun _ => fun
  | [d] => { results := [.lit (.bool false)], args := [d] }
  | _ => none }
def FnExactDistancesOfWrongFalsely : Prop := fnExactDistancesOfRow.holds Try.pinned (OpenSpec.ofChange fnExactDistancesOfWrong)

/-- 'laws.FnExactRadiusOf': WHATEVER THE INPUT: true; the input reads as it did. -/
def fnExactRadiusOfSpec : ChangeSpec := { name := "fnExactRadiusOf", fn := fun _ => fun
  | [d] => { results := [.lit (.bool true)], args := [d] }
  | _ => none }
def fnExactRadiusOfRow : OpenClaim := { program := "ytbdappkhkngdlaa", sum := "8134bc72133e04574121c5bd00dc8920c59667681c65ac114d447ab692007ee5", func := "loop.example/g01109/laws.FnExactRadiusOf", spec := "fnExactRadiusOf", unfollowed := true, recurses := true, plainKeys := false, apart := false }
def FnExactRadiusOfSaid : Prop := fnExactRadiusOfRow.holds Try.pinned (OpenSpec.ofChange fnExactRadiusOfSpec)

/-- ITS FALSE NEIGHBOUR: 'it returns false'. Refute it at one input. -/
def fnExactRadiusOfWrong : ChangeSpec := { name := "fnExactRadiusOf", fn := fun _ => fun
  | [d] => { results := [.lit (.bool false)], args := [d] }
  | _ => none }
def FnExactRadiusOfWrongFalsely : Prop := fnExactRadiusOfRow.holds Try.pinned (OpenSpec.ofChange fnExactRadiusOfWrong)

/-- 'laws.FnExactCartesianProduct': WHATEVER THE INPUT: true; the input reads as it did. -/
def fnExactCartesianProductSpec : ChangeSpec := { name := "fnExactCartesianProduct", fn := fun _ => fun
  | [d1, d2] => { results := [.lit (.bool true)], args := [d1, d2] }
  | _ => none }
def fnExactCartesianProductRow : OpenClaim := { program := "ytbdappkhkngdlaa", sum := "8134bc72133e04574121c5bd00dc8920c59667681c65ac114d447ab692007ee5", func := "loop.example/g01109/laws.FnExactCartesianProduct", spec := "fnExactCartesianProduct", unfollowed := true, recurses := true, plainKeys := false, apart := false }
def FnExactCartesianProductSaid : Prop := fnExactCartesianProductRow.holds Try.pinned (OpenSpec.ofChange fnExactCartesianProductSpec)

/-- ITS FALSE NEIGHBOUR: 'it returns false'. Refute it at one input. -/
def fnExactCartesianProductWrong : ChangeSpec := { name := "fnExactCartesianProduct", fn := fun _ => fun
  | [d1, d2] => { results := [.lit (.bool false)], args := [d1, d2] }
  | _ => none }
def FnExactCartesianProductWrongFalsely : Prop := fnExactCartesianProductRow.holds Try.pinned (OpenSpec.ofChange fnExactCartesianProductWrong)

/-- 'laws.FnExactStrongProduct': WHATEVER THE INPUT: true; the input reads as it did. -/
def fnExactStrongProductSpec : ChangeSpec := { name := "fnExactStrongProduct", fn := fun _ => fun
  | [d1, d2] => { results := [.lit (.bool true)], args := [d1, d2] }
  | _ => none }
def fnExactStrongProductRow : OpenClaim := { program := "ytbdappkhkngdlaa", sum := "8134bc72133e04574121c5bd00dc8920c59667681c65ac114d447ab692007ee5", func := "loop.example/g01109/laws.FnExactStrongProduct", spec := "fnExactStrongProduct", unfollowed := true, recurses := true, plainKeys := false, apart := false }
def FnExactStrongProductSaid : Prop := fnExactStrongProductRow.holds Try.pinned (OpenSpec.ofChange fnExactStrongProductSpec)

/-- ITS FALSE NEIGHBOUR: 'it returns false'. Refute it at one input. -/
def fnExactStrongProductWrong : ChangeSpec := { name := "fnExactStrongProduct", fn := fun _ => fun
  | [d1, d2] => { results := [.lit (.bool false)], args := [d1, d2] }
  | _ => none }
def FnExactStrongProductWrongFalsely : Prop := fnExactStrongProductRow.holds Try.pinned (OpenSpec.ofChange fnExactStrongProductWrong)

/- THE SECOND FORM. 'bulk': how many values and letters a reading holds, each counted each time it is reached (what is shared counts as often as it is met; a slice's spare places count too). A statement '..UptoSaid' is the law's where the arguments, and the package variables that the reading takes, are together of bulk at most 1048576: NARROWER than '..Said'. Prove '..Said' where nothing that the law and all that it calls make is longer than what came in: it says more and counts as full. Else prove '..UptoSaid'. A law counts once. -/
mutual
def uptoBulk {H : Type} : DataW H → Nat
  | .lit (.string bytes) => bytes.length + 1
  | .lit _ => 1
  | .nil => 1
  | .ptr d => uptoBulk d + 1
  | .slice elems spare => uptoBulkAll elems + uptoBulkAll spare + 1
  | .agg parts => uptoBulkAll parts + 1
  | .iface _ d => uptoBulk d + 1
  | .map entries => uptoBulkEntries entries + 1
  | .held _ => 1
def uptoBulkAll {H : Type} : List (DataW H) → Nat
  | [] => 0
  | d :: r => uptoBulk d + uptoBulkAll r
def uptoBulkEntries {H : Type} : List (Lit × DataW H) → Nat
  | [] => 0
  | x :: r => uptoBulkEntry x + uptoBulkEntries r
def uptoBulkEntry {H : Type} : Lit × DataW H → Nat
  | (.string bytes, d) => bytes.length + uptoBulk d + 1
  | (_, d) => uptoBulk d + 1
 end
def uptoSmall : (H : Type) → List (DataW H) → Bool := fun _ ds => decide (uptoBulkAll ds ≤ 1048576)
def OpenSpec.upto (s : _root_.Go.ChangeSpec) : _root_.Go.OpenSpec := { _root_.Go.OpenSpec.ofChange s with cond := some uptoSmall }

/-- 'laws.FnExactIsCorner', WHERE WHAT IT READS IS OF BULK AT MOST 1048576: true; the input reads as it did. -/
def fnExactIsCornerUptoRow : OpenClaim := { program := "ytbdappkhkngdlaa", sum := "8134bc72133e04574121c5bd00dc8920c59667681c65ac114d447ab692007ee5", func := "loop.example/g01109/laws.FnExactIsCorner", spec := "fnExactIsCorner", plainKeys := false, apart := false, narrowed := true }
def FnExactIsCornerUptoSaid : Prop := fnExactIsCornerUptoRow.holds Try.pinned (OpenSpec.upto fnExactIsCornerSpec)

/-- 'laws.FnExactCoversOf', WHERE WHAT IT READS IS OF BULK AT MOST 1048576: true; the input reads as it did. -/
def fnExactCoversOfUptoRow : OpenClaim := { program := "ytbdappkhkngdlaa", sum := "8134bc72133e04574121c5bd00dc8920c59667681c65ac114d447ab692007ee5", func := "loop.example/g01109/laws.FnExactCoversOf", spec := "fnExactCoversOf", unfollowed := true, recurses := true, plainKeys := false, apart := false, narrowed := true }
def FnExactCoversOfUptoSaid : Prop := fnExactCoversOfUptoRow.holds Try.pinned (OpenSpec.upto fnExactCoversOfSpec)

/-- 'laws.FnExactCornersOf', WHERE WHAT IT READS IS OF BULK AT MOST 1048576: true; the input reads as it did. -/
def fnExactCornersOfUptoRow : OpenClaim := { program := "ytbdappkhkngdlaa", sum := "8134bc72133e04574121c5bd00dc8920c59667681c65ac114d447ab692007ee5", func := "loop.example/g01109/laws.FnExactCornersOf", spec := "fnExactCornersOf", unfollowed := true, recurses := true, plainKeys := false, apart := false, narrowed := true }
def FnExactCornersOfUptoSaid : Prop := fnExactCornersOfUptoRow.holds Try.pinned (OpenSpec.upto fnExactCornersOfSpec)

/-- 'laws.FnExactIsRetraction', WHERE WHAT IT READS IS OF BULK AT MOST 1048576: true; the input reads as it did. -/
def fnExactIsRetractionUptoRow : OpenClaim := { program := "ytbdappkhkngdlaa", sum := "8134bc72133e04574121c5bd00dc8920c59667681c65ac114d447ab692007ee5", func := "loop.example/g01109/laws.FnExactIsRetraction", spec := "fnExactIsRetraction", unfollowed := true, recurses := true, plainKeys := false, apart := false, narrowed := true }
def FnExactIsRetractionUptoSaid : Prop := fnExactIsRetractionUptoRow.holds Try.pinned (OpenSpec.upto fnExactIsRetractionSpec)

/-- 'laws.FnExactIsRoom', WHERE WHAT IT READS IS OF BULK AT MOST 1048576: true; the input reads as it did. -/
def fnExactIsRoomUptoRow : OpenClaim := { program := "ytbdappkhkngdlaa", sum := "8134bc72133e04574121c5bd00dc8920c59667681c65ac114d447ab692007ee5", func := "loop.example/g01109/laws.FnExactIsRoom", spec := "fnExactIsRoom", unfollowed := true, recurses := true, plainKeys := false, apart := false, narrowed := true }
def FnExactIsRoomUptoSaid : Prop := fnExactIsRoomUptoRow.holds Try.pinned (OpenSpec.upto fnExactIsRoomSpec)

/-- 'laws.FnExactDegreesOf', WHERE WHAT IT READS IS OF BULK AT MOST 1048576: true; the input reads as it did. -/
def fnExactDegreesOfUptoRow : OpenClaim := { program := "ytbdappkhkngdlaa", sum := "8134bc72133e04574121c5bd00dc8920c59667681c65ac114d447ab692007ee5", func := "loop.example/g01109/laws.FnExactDegreesOf", spec := "fnExactDegreesOf", plainKeys := false, apart := false, narrowed := true }
def FnExactDegreesOfUptoSaid : Prop := fnExactDegreesOfUptoRow.holds Try.pinned (OpenSpec.upto fnExactDegreesOfSpec)

/-- 'laws.FnExactBallOf', WHERE WHAT IT READS IS OF BULK AT MOST 1048576: true; the input reads as it did. -/
def fnExactBallOfUptoRow : OpenClaim := { program := "ytbdappkhkngdlaa", sum := "8134bc72133e04574121c5bd00dc8920c59667681c65ac114d447ab692007ee5", func := "loop.example/g01109/laws.FnExactBallOf", spec := "fnExactBallOf", unfollowed := true, recurses := true, plainKeys := false, apart := false, narrowed := true }
def FnExactBallOfUptoSaid : Prop := fnExactBallOfUptoRow.holds Try.pinned (OpenSpec.upto fnExactBallOfSpec)

/-- 'laws.FnExactDistancesOf', WHERE WHAT IT READS IS OF BULK AT MOST 1048576: true; the input reads as it did. -/
def fnExactDistancesOfUptoRow : OpenClaim := { program := "ytbdappkhkngdlaa", sum := "8134bc72133e04574121c5bd00dc8920c59667681c65ac114d447ab692007ee5", func := "loop.example/g01109/laws.FnExactDistancesOf", spec := "fnExactDistancesOf", unfollowed := true, recurses := true, plainKeys := false, apart := false, narrowed := true }
def FnExactDistancesOfUptoSaid : Prop := fnExactDistancesOfUptoRow.holds Try.pinned (OpenSpec.upto fnExactDistancesOfSpec)

/-- 'laws.FnExactRadiusOf', WHERE WHAT IT READS IS OF BULK AT MOST 1048576: true; the input reads as it did. -/
def fnExactRadiusOfUptoRow : OpenClaim := { program := "ytbdappkhkngdlaa", sum := "8134bc72133e04574121c5bd00dc8920c59667681c65ac114d447ab692007ee5", func := "loop.example/g01109/laws.FnExactRadiusOf", spec := "fnExactRadiusOf", unfollowed := true, recurses := true, plainKeys := false, apart := false, narrowed := true }
def FnExactRadiusOfUptoSaid : Prop := fnExactRadiusOfUptoRow.holds Try.pinned (OpenSpec.upto fnExactRadiusOfSpec)

/-- 'laws.FnExactCartesianProduct', WHERE WHAT IT READS IS OF BULK AT MOST 1048576: true; the input reads as it did. -/
def fnExactCartesianProductUptoRow : OpenClaim := { program := "ytbdappkhkngdlaa", sum := "8134bc72133e04574121c5bd00dc8920c59667681c65ac114d447ab692007ee5", func := "loop.example/g01109/laws.FnExactCartesianProduct", spec := "fnExactCartesianProduct", unfollowed := true, recurses := true, plainKeys := false, apart := false, narrowed := true }
def FnExactCartesianProductUptoSaid : Prop := fnExactCartesianProductUptoRow.holds Try.pinned (OpenSpec.upto fnExactCartesianProductSpec)

/-- 'laws.FnExactStrongProduct', WHERE WHAT IT READS IS OF BULK AT MOST 1048576: true; the input reads as it did. -/
def fnExactStrongProductUptoRow : OpenClaim := { program := "ytbdappkhkngdlaa", sum := "8134bc72133e04574121c5bd00dc8920c59667681c65ac114d447ab692007ee5", func := "loop.example/g01109/laws.FnExactStrongProduct", spec := "fnExactStrongProduct", unfollowed := true, recurses := true, plainKeys := false, apart := false, narrowed := true }
def FnExactStrongProductUptoSaid : Prop := fnExactStrongProductUptoRow.holds Try.pinned (OpenSpec.upto fnExactStrongProductSpec)

end Rows
end Go.Proofs.Ytbdappkhkngdlaa
