/-
  No cell of these rows narrows 'for every input' (looked for: loops, veiled, ifaces, maps, wideKeys, modest, calm, conditions, laid).
  DERIVED. THE GIVEN ROWS OF THIS SEAT. 12 by the template 'for every input the law returns true; each argument reads behind the call as it read before'; 0 by the template 'total and deterministic' (their statements: YtphlpipbhaiijaaTotals.lean).
  GIVEN WITH THE SEED: the statements are not yours to turn. If you find one false, say at which input.
  Laid BY PROGRAM, IN A SANDBOX (cutbox-rows.mjs): the forced cells as the released guide's own fill.sh prints them over the translation 429e59ab6915f17b… (all of the seat's roots in one cut). By AI agents, Wed Nov 11 2026. No macro, syntax, notation, axiom, sorry.
-/
import Derived.Test.YtphlpipbhaiijaaChecked
import GoSem.Claim
import GoSem.ClaimJoined
import GoSem.ClaimMapViews
import Derived.JoinedTies
import Derived.KernelRfl
namespace Go.Proofs.Ytphlpipbhaiijaa
/- THE CELL 'sum', in the pinned program and in every row, IS THE sha256 OF THE DUMP (.gsa) THAT YtphlpipbhaiijaaProg.lean LOADS. Nothing in Lean hashes anything: it is a label: what it is worth is what the hold of that sum in a sandbox is worth. -/
noncomputable def Try.pinned : Pinned := { name := "ytphlpipbhaiijaa", sum := "429e59ab6915f17b7a0585030ef5c35f342435414c28fcfcd45e772e09484954", checked := Try.checked }
namespace Rows
def none {H : Type} : Left H := { results := [], args := [] }

/-- 'laws.FnExactBandwidthOf': WHATEVER THE INPUT: true; the input reads as it did. -/
def fnExactBandwidthOfSpec : ChangeSpec := { name := "fnExactBandwidthOf", fn := fun _ => fun
  | [d1, d2] => { results := [.lit (.bool true)], args := [d1, d2] }
  | _ => none }
def fnExactBandwidthOfRow : OpenClaim := { program := "ytphlpipbhaiijaa", sum := "429e59ab6915f17b7a0585030ef5c35f342435414c28fcfcd45e772e09484954", func := "loop.example/g01109/laws.FnExactBandwidthOf", spec := "fnExactBandwidthOf", unfollowed := true, recurses := true, plainKeys := false, apart := false }
def FnExactBandwidthOfSaid : Prop := fnExactBandwidthOfRow.holds Try.pinned (OpenSpec.ofChange fnExactBandwidthOfSpec)

/-- ITS FALSE NEIGHBOUR: 'it returns false'. Refute it at one input. -/
def fnExactBandwidthOfWrong : ChangeSpec := { name := "fnExactBandwidthOf", fn := fun _ => fun
  | [d1, d2] => { results := [.lit (.bool false)], args := [d1, d2] }
  | _ => none }
def FnExactBandwidthOfWrongFalsely : Prop := fnExactBandwidthOfRow.holds Try.pinned (OpenSpec.ofChange fnExactBandwidthOfWrong)

/-- 'laws.FnExactCutsOf': WHATEVER THE INPUT: true; the input reads as it did. -/
def fnExactCutsOfSpec : ChangeSpec := { name := "fnExactCutsOf", fn := fun _ => fun
  | [d1, d2] => { results := [.lit (.bool true)], args := [d1, d2] }
  | _ => none }
def fnExactCutsOfRow : OpenClaim := { program := "ytphlpipbhaiijaa", sum := "429e59ab6915f17b7a0585030ef5c35f342435414c28fcfcd45e772e09484954", func := "loop.example/g01109/laws.FnExactCutsOf", spec := "fnExactCutsOf", unfollowed := true, recurses := true, plainKeys := false, apart := false }
def FnExactCutsOfSaid : Prop := fnExactCutsOfRow.holds Try.pinned (OpenSpec.ofChange fnExactCutsOfSpec)

/-- ITS FALSE NEIGHBOUR: 'it returns false'. Refute it at one input. -/
def fnExactCutsOfWrong : ChangeSpec := { name := "fnExactCutsOf", fn := fun _ => fun
  | [d1, d2] => { results := [.lit (.bool false)], args := [d1, d2] }
  | _ => none }
def FnExactCutsOfWrongFalsely : Prop := fnExactCutsOfRow.holds Try.pinned (OpenSpec.ofChange fnExactCutsOfWrong)

/-- 'laws.FnExactCutwidthOf': WHATEVER THE INPUT: true; the input reads as it did. -/
def fnExactCutwidthOfSpec : ChangeSpec := { name := "fnExactCutwidthOf", fn := fun _ => fun
  | [d1, d2] => { results := [.lit (.bool true)], args := [d1, d2] }
  | _ => none }
def fnExactCutwidthOfRow : OpenClaim := { program := "ytphlpipbhaiijaa", sum := "429e59ab6915f17b7a0585030ef5c35f342435414c28fcfcd45e772e09484954", func := "loop.example/g01109/laws.FnExactCutwidthOf", spec := "fnExactCutwidthOf", unfollowed := true, recurses := true, plainKeys := false, apart := false }
def FnExactCutwidthOfSaid : Prop := fnExactCutwidthOfRow.holds Try.pinned (OpenSpec.ofChange fnExactCutwidthOfSpec)

/-- ITS FALSE NEIGHBOUR: 'it returns false'. Refute it at one input. -/
def fnExactCutwidthOfWrong : ChangeSpec := { name := "fnExactCutwidthOf", fn := fun _ => fun
  | [d1, d2] => { results := [.lit (.bool false)], args := [d1, d2] }
  | _ => none }
def FnExactCutwidthOfWrongFalsely : Prop := fnExactCutwidthOfRow.holds Try.pinned (OpenSpec.ofChange fnExactCutwidthOfWrong)

/-- 'laws.FnExactIsForest': WHATEVER THE INPUT: true; the input reads as it did. -/
def fnExactIsForestSpec : ChangeSpec := { name := "fnExactIsForest", fn := fun _ => fun
  | [d1, d2] => { results := [.lit (.bool true)], args := [d1, d2] }
  | _ => none }
def fnExactIsForestRow : OpenClaim := { program := "ytphlpipbhaiijaa", sum := "429e59ab6915f17b7a0585030ef5c35f342435414c28fcfcd45e772e09484954", func := "loop.example/g01109/laws.FnExactIsForest", spec := "fnExactIsForest", plainKeys := false, apart := false }
def FnExactIsForestSaid : Prop := fnExactIsForestRow.holds Try.pinned (OpenSpec.ofChange fnExactIsForestSpec)

/-- ITS FALSE NEIGHBOUR: 'it returns false'. Refute it at one input. -/
def fnExactIsForestWrong : ChangeSpec := { name := "fnExactIsForest", fn := fun _ => fun
  | [d1, d2] => { results := [.lit (.bool false)], args := [d1, d2] }
  | _ => none }
def FnExactIsForestWrongFalsely : Prop := fnExactIsForestRow.holds Try.pinned (OpenSpec.ofChange fnExactIsForestWrong)

/-- 'laws.FnExactForestDepth': WHATEVER THE INPUT: true; the input reads as it did. -/
def fnExactForestDepthSpec : ChangeSpec := { name := "fnExactForestDepth", fn := fun _ => fun
  | [d1, d2] => { results := [.lit (.bool true)], args := [d1, d2] }
  | _ => none }
def fnExactForestDepthRow : OpenClaim := { program := "ytphlpipbhaiijaa", sum := "429e59ab6915f17b7a0585030ef5c35f342435414c28fcfcd45e772e09484954", func := "loop.example/g01109/laws.FnExactForestDepth", spec := "fnExactForestDepth", plainKeys := false, apart := false }
def FnExactForestDepthSaid : Prop := fnExactForestDepthRow.holds Try.pinned (OpenSpec.ofChange fnExactForestDepthSpec)

/-- ITS FALSE NEIGHBOUR: 'it returns false'. Refute it at one input. -/
def fnExactForestDepthWrong : ChangeSpec := { name := "fnExactForestDepth", fn := fun _ => fun
  | [d1, d2] => { results := [.lit (.bool false)], args := [d1, d2] }
  | _ => none }
def FnExactForestDepthWrongFalsely : Prop := fnExactForestDepthRow.holds Try.pinned (OpenSpec.ofChange fnExactForestDepthWrong)

/-- 'laws.FnExactIsRanking': WHATEVER THE INPUT: true; the input reads as it did. -/
def fnExactIsRankingSpec : ChangeSpec := { name := "fnExactIsRanking", fn := fun _ => fun
  | [d1, d2] => { results := [.lit (.bool true)], args := [d1, d2] }
  | _ => none }
def fnExactIsRankingRow : OpenClaim := { program := "ytphlpipbhaiijaa", sum := "429e59ab6915f17b7a0585030ef5c35f342435414c28fcfcd45e772e09484954", func := "loop.example/g01109/laws.FnExactIsRanking", spec := "fnExactIsRanking", unfollowed := true, recurses := true, plainKeys := false, apart := false }
def FnExactIsRankingSaid : Prop := fnExactIsRankingRow.holds Try.pinned (OpenSpec.ofChange fnExactIsRankingSpec)

/-- ITS FALSE NEIGHBOUR: 'it returns false'. Refute it at one input. -/
def fnExactIsRankingWrong : ChangeSpec := { name := "fnExactIsRanking", fn := fun _ => fun
  | [d1, d2] => { results := [.lit (.bool false)], args := [d1, d2] }
  | _ => none }
def FnExactIsRankingWrongFalsely : Prop := fnExactIsRankingRow.holds Try.pinned (OpenSpec.ofChange fnExactIsRankingWrong)

/-- 'laws.FnExactBandwidthBound': WHATEVER THE INPUT: true; the input reads as it did. -/
def fnExactBandwidthBoundSpec : ChangeSpec := { name := "fnExactBandwidthBound", fn := fun _ => fun
  | [d] => { results := [.lit (.bool true)], args := [d] }
  | _ => none }
def fnExactBandwidthBoundRow : OpenClaim := { program := "ytphlpipbhaiijaa", sum := "429e59ab6915f17b7a0585030ef5c35f342435414c28fcfcd45e772e09484954", func := "loop.example/g01109/laws.FnExactBandwidthBound", spec := "fnExactBandwidthBound", unfollowed := true, recurses := true, plainKeys := false, apart := false }
def FnExactBandwidthBoundSaid : Prop := fnExactBandwidthBoundRow.holds Try.pinned (OpenSpec.ofChange fnExactBandwidthBoundSpec)

/-- ITS FALSE NEIGHBOUR: 'it returns false'. Refute it at one input. -/
def fnExactBandwidthBoundWrong : ChangeSpec := { name := "fnExactBandwidthBound", fn := fun _ => fun
  | [d] => { results := [.lit (.bool false)], args := [d] }
  | _ => none }
def FnExactBandwidthBoundWrongFalsely : Prop := fnExactBandwidthBoundRow.holds Try.pinned (OpenSpec.ofChange fnExactBandwidthBoundWrong)

/-- 'laws.FnExactBestElimination': WHATEVER THE INPUT: true; the input reads as it did. -/
def fnExactBestEliminationSpec : ChangeSpec := { name := "fnExactBestElimination", fn := fun _ => fun
  | [d] => { results := [.lit (.bool true)], args := [d] }
  | _ => none }
def fnExactBestEliminationRow : OpenClaim := { program := "ytphlpipbhaiijaa", sum := "429e59ab6915f17b7a0585030ef5c35f342435414c28fcfcd45e772e09484954", func := "loop.example/g01109/laws.FnExactBestElimination", spec := "fnExactBestElimination", unfollowed := true, recurses := true, plainKeys := false, apart := false }
def FnExactBestEliminationSaid : Prop := fnExactBestEliminationRow.holds Try.pinned (OpenSpec.ofChange fnExactBestEliminationSpec)

/-- ITS FALSE NEIGHBOUR: 'it returns false'. Refute it at one input. -/
def fnExactBestEliminationWrong : ChangeSpec := { name := "fnExactBestElimination", fn := fun _ => fun
  | [d] => { results := [.lit (.bool false)], args := [d] }
  | _ => none }
def FnExactBestEliminationWrongFalsely : Prop := fnExactBestEliminationRow.holds Try.pinned (OpenSpec.ofChange fnExactBestEliminationWrong)

/-- 'laws.FnExactPerfectElimination': WHATEVER THE INPUT: true; the input reads as it did. -/
def fnExactPerfectEliminationSpec : ChangeSpec := { name := "fnExactPerfectElimination", fn := fun _ => fun
  | [d] => { results := [.lit (.bool true)], args := [d] }
  | _ => none }
def fnExactPerfectEliminationRow : OpenClaim := { program := "ytphlpipbhaiijaa", sum := "429e59ab6915f17b7a0585030ef5c35f342435414c28fcfcd45e772e09484954", func := "loop.example/g01109/laws.FnExactPerfectElimination", spec := "fnExactPerfectElimination", unfollowed := true, recurses := true, plainKeys := false, apart := false }
def FnExactPerfectEliminationSaid : Prop := fnExactPerfectEliminationRow.holds Try.pinned (OpenSpec.ofChange fnExactPerfectEliminationSpec)

/-- ITS FALSE NEIGHBOUR: 'it returns false'. Refute it at one input. -/
def fnExactPerfectEliminationWrong : ChangeSpec := { name := "fnExactPerfectElimination", fn := fun _ => fun
  | [d] => { results := [.lit (.bool false)], args := [d] }
  | _ => none }
def FnExactPerfectEliminationWrongFalsely : Prop := fnExactPerfectEliminationRow.holds Try.pinned (OpenSpec.ofChange fnExactPerfectEliminationWrong)

/-- 'laws.FnExactBestLayout': WHATEVER THE INPUT: true; the input reads as it did. -/
def fnExactBestLayoutSpec : ChangeSpec := { name := "fnExactBestLayout", fn := fun _ => fun
  | [d] => { results := [.lit (.bool true)], args := [d] }
  | _ => none }
def fnExactBestLayoutRow : OpenClaim := { program := "ytphlpipbhaiijaa", sum := "429e59ab6915f17b7a0585030ef5c35f342435414c28fcfcd45e772e09484954", func := "loop.example/g01109/laws.FnExactBestLayout", spec := "fnExactBestLayout", unfollowed := true, recurses := true, plainKeys := false, apart := false }
def FnExactBestLayoutSaid : Prop := fnExactBestLayoutRow.holds Try.pinned (OpenSpec.ofChange fnExactBestLayoutSpec)

/-- ITS FALSE NEIGHBOUR: 'it returns false'. Refute it at one input. -/
def fnExactBestLayoutWrong : ChangeSpec := { name := "fnExactBestLayout", fn := fun _ => fun
  | [d] => { results := [.lit (.bool false)], args := [d] }
  | _ => none }
def FnExactBestLayoutWrongFalsely : Prop := fnExactBestLayoutRow.holds Try.pinned (OpenSpec.ofChange fnExactBestLayoutWrong)

/-- 'laws.FnExactIsEvasion': WHATEVER THE INPUT: true; the input reads as it did. -/
def fnExactIsEvasionSpec : ChangeSpec := { name := "fnExactIsEvasion", fn := fun _ => fun
  | [d1, d2, d3] => { results := [.lit (.bool true)], args := [d1, d2, d3] }
  | _ => none }
def fnExactIsEvasionRow : OpenClaim := { program := "ytphlpipbhaiijaa", sum := "429e59ab6915f17b7a0585030ef5c35f342435414c28fcfcd45e772e09484954", func := "loop.example/g01109/laws.FnExactIsEvasion", spec := "fnExactIsEvasion", unfollowed := true, recurses := true, plainKeys := false, apart := false }
def FnExactIsEvasionSaid : Prop := fnExactIsEvasionRow.holds Try.pinned (OpenSpec.ofChange fnExactIsEvasionSpec)

/-- ITS FALSE NEIGHBOUR: 'it returns false'. Refute it at one input. -/
def fnExactIsEvasionWrong : ChangeSpec := { name := "fnExactIsEvasion", fn := fun _ => fun
  | [d1, d2, d3] => { results := [.lit (.bool false)], args := [d1, d2, d3] }
  | _ => none }
def FnExactIsEvasionWrongFalsely : Prop := fnExactIsEvasionRow.holds Try.pinned (OpenSpec.ofChange fnExactIsEvasionWrong)

/-- 'laws.FnExactIsCaptureProof': WHATEVER THE INPUT: true; the input reads as it did. -/
def fnExactIsCaptureProofSpec : ChangeSpec := { name := "fnExactIsCaptureProof", fn := fun _ => fun
  | [d1, d2, d3] => { results := [.lit (.bool true)], args := [d1, d2, d3] }
  | _ => none }
def fnExactIsCaptureProofRow : OpenClaim := { program := "ytphlpipbhaiijaa", sum := "429e59ab6915f17b7a0585030ef5c35f342435414c28fcfcd45e772e09484954", func := "loop.example/g01109/laws.FnExactIsCaptureProof", spec := "fnExactIsCaptureProof", unfollowed := true, recurses := true, plainKeys := false, apart := false }
def FnExactIsCaptureProofSaid : Prop := fnExactIsCaptureProofRow.holds Try.pinned (OpenSpec.ofChange fnExactIsCaptureProofSpec)

/-- ITS FALSE NEIGHBOUR: 'it returns false'. Refute it at one input. -/
def fnExactIsCaptureProofWrong : ChangeSpec := { name := "fnExactIsCaptureProof", fn := fun _ => fun
  | [d1, d2, d3] => { results := [.lit (.bool false)], args := [d1, d2, d3] }
  | _ => none }
def FnExactIsCaptureProofWrongFalsely : Prop := fnExactIsCaptureProofRow.holds Try.pinned (OpenSpec.ofChange fnExactIsCaptureProofWrong)

/- THE SECOND FORM. 'bulk': how many values and letters a reading holds, each counted each time it is reached (what is shared counts as often as it is met; a slice's spare places count too). A statement '..UptoSaid' is the law's where the arguments, and the package variables that the reading takes, are together of bulk at most 1048576: NARROWER than '..Said'. Prove '..Said' where nothing that the law and all that it calls make is longer than what came in: it says more and counts as full. Else prove '..UptoSaid'. A law counts once. -/
mutual
def uptoBulk {H : Type} : DataW H → Nat
  | .lit (.string bytes) => bytes.length + 1
  | .lit _ => 1
  | .nil => 1
  | .ptr d => uptoBulk d + 1
  | .slice elems spare => uptoBulkAll elems + uptoBulkAll spare + 1
  | .agg parts => uptoBulkAll parts + 1
  | .iface _ d => uptoBulk d + 1
  | .map entries => uptoBulkEntries entries + 1
  | .held _ => 1
def uptoBulkAll {H : Type} : List (DataW H) → Nat
  | [] => 0
  | d :: r => uptoBulk d + uptoBulkAll r
def uptoBulkEntries {H : Type} : List (Lit × DataW H) → Nat
  | [] => 0
  | x :: r => uptoBulkEntry x + uptoBulkEntries r
def uptoBulkEntry {H : Type} : Lit × DataW H → Nat
  | (.string bytes, d) => bytes.length + uptoBulk d + 1
  | (_, d) => uptoBulk d + 1
 end
def uptoSmall : (H : Type) → List (DataW H) → Bool := fun _ ds => decide (uptoBulkAll ds ≤ 1048576)
def OpenSpec.upto (s : _root_.Go.ChangeSpec) : _root_.Go.OpenSpec := { _root_.Go.OpenSpec.ofChange s with cond := some uptoSmall }

/-- 'laws.FnExactBandwidthOf', WHERE WHAT IT READS IS OF BULK AT MOST 1048576: true; the input reads as it did. -/
def fnExactBandwidthOfUptoRow : OpenClaim := { program := "ytphlpipbhaiijaa", sum := "429e59ab6915f17b7a0585030ef5c35f342435414c28fcfcd45e772e09484954", func := "loop.example/g01109/laws.FnExactBandwidthOf", spec := "fnExactBandwidthOf", unfollowed := true, recurses := true, plainKeys := false, apart := false, narrowed := true }
def FnExactBandwidthOfUptoSaid : Prop := fnExactBandwidthOfUptoRow.holds Try.pinned (OpenSpec.upto fnExactBandwidthOfSpec)

/-- 'laws.FnExactCutsOf', WHERE WHAT IT READS IS OF BULK AT MOST 1048576: true; the input reads as it did. -/
def fnExactCutsOfUptoRow : OpenClaim := { program := "ytphlpipbhaiijaa", sum := "429e59ab6915f17b7a0585030ef5c35f342435414c28fcfcd45e772e09484954", func := "loop.example/g01109/laws.FnExactCutsOf", spec := "fnExactCutsOf", unfollowed := true, recurses := true, plainKeys := false, apart := false, narrowed := true }
def FnExactCutsOfUptoSaid : Prop := fnExactCutsOfUptoRow.holds Try.pinned (OpenSpec.upto fnExactCutsOfSpec)

/-- 'laws.FnExactCutwidthOf', WHERE WHAT IT READS IS OF BULK AT MOST 1048576: true; the input reads as it did. -/
def fnExactCutwidthOfUptoRow : OpenClaim := { program := "ytphlpipbhaiijaa", sum := "429e59ab6915f17b7a0585030ef5c35f342435414c28fcfcd45e772e09484954", func := "loop.example/g01109/laws.FnExactCutwidthOf", spec := "fnExactCutwidthOf", unfollowed := true, recurses := true, plainKeys := false, apart := false, narrowed := true }
def FnExactCutwidthOfUptoSaid : Prop := fnExactCutwidthOfUptoRow.holds Try.pinned (OpenSpec.upto fnExactCutwidthOfSpec)

/-- 'laws.FnExactIsForest', WHERE WHAT IT READS IS OF BULK AT MOST 1048576: true; the input reads as it did. -/
def fnExactIsForestUptoRow : OpenClaim := { program := "ytphlpipbhaiijaa", sum := "429e59ab6915f17b7a0585030ef5c35f342435414c28fcfcd45e772e09484954", func := "loop.example/g01109/laws.FnExactIsForest", spec := "fnExactIsForest", plainKeys := false, apart := false, narrowed := true }
def FnExactIsForestUptoSaid : Prop := fnExactIsForestUptoRow.holds Try.pinned (OpenSpec.upto fnExactIsForestSpec)

/-- 'laws.FnExactForestDepth', WHERE WHAT IT READS IS OF BULK AT MOST 1048576: true; the input reads as it did. -/
def fnExactForestDepthUptoRow : OpenClaim := { program := "ytphlpipbhaiijaa", sum := "429e59ab6915f17b7a0585030ef5c35f342435414c28fcfcd45e772e09484954", func := "loop.example/g01109/laws.FnExactForestDepth", spec := "fnExactForestDepth", plainKeys := false, apart := false, narrowed := true }
def FnExactForestDepthUptoSaid : Prop := fnExactForestDepthUptoRow.holds Try.pinned (OpenSpec.upto fnExactForestDepthSpec)

/-- 'laws.FnExactIsRanking', WHERE WHAT IT READS IS OF BULK AT MOST 1048576: true; the input reads as it did. -/
def fnExactIsRankingUptoRow : OpenClaim := { program := "ytphlpipbhaiijaa", sum := "429e59ab6915f17b7a0585030ef5c35f342435414c28fcfcd45e772e09484954", func := "loop.example/g01109/laws.FnExactIsRanking", spec := "fnExactIsRanking", unfollowed := true, recurses := true, plainKeys := false, apart := false, narrowed := true }
def FnExactIsRankingUptoSaid : Prop := fnExactIsRankingUptoRow.holds Try.pinned (OpenSpec.upto fnExactIsRankingSpec)

/-- 'laws.FnExactBandwidthBound', WHERE WHAT IT READS IS OF BULK AT MOST 1048576: true; the input reads as it did. -/
def fnExactBandwidthBoundUptoRow : OpenClaim := { program := "ytphlpipbhaiijaa", sum := "429e59ab6915f17b7a0585030ef5c35f342435414c28fcfcd45e772e09484954", func := "loop.example/g01109/laws.FnExactBandwidthBound", spec := "fnExactBandwidthBound", unfollowed := true, recurses := true, plainKeys := false, apart := false, narrowed := true }
def FnExactBandwidthBoundUptoSaid : Prop := fnExactBandwidthBoundUptoRow.holds Try.pinned (OpenSpec.upto fnExactBandwidthBoundSpec)

/-- 'laws.FnExactBestElimination', WHERE WHAT IT READS IS OF BULK AT MOST 1048576: true; the input reads as it did. -/
def fnExactBestEliminationUptoRow : OpenClaim := { program := "ytphlpipbhaiijaa", sum := "429e59ab6915f17b7a0585030ef5c35f342435414c28fcfcd45e772e09484954", func := "loop.example/g01109/laws.FnExactBestElimination", spec := "fnExactBestElimination", unfollowed := true, recurses := true, plainKeys := false, apart := false, narrowed := true }
def FnExactBestEliminationUptoSaid : Prop := fnExactBestEliminationUptoRow.holds Try.pinned (OpenSpec.upto fnExactBestEliminationSpec)

/-- 'laws.FnExactPerfectElimination', WHERE WHAT IT READS IS OF BULK AT MOST 1048576: true; the input reads as it did. -/
def fnExactPerfectEliminationUptoRow : OpenClaim := { program := "ytphlpipbhaiijaa", sum := "429e59ab6915f17b7a0585030ef5c35f342435414c28fcfcd45e772e09484954", func := "loop.example/g01109/laws.FnExactPerfectElimination", spec := "fnExactPerfectElimination", unfollowed := true, recurses := true, plainKeys := false, apart := false, narrowed := true }
def FnExactPerfectEliminationUptoSaid : Prop := fnExactPerfectEliminationUptoRow.holds Try.pinned (OpenSpec.upto fnExactPerfectEliminationSpec)

/-- 'laws.FnExactBestLayout', WHERE WHAT IT READS IS OF BULK AT MOST 1048576: true; the input reads as it did. -/
def fnExactBestLayoutUptoRow : OpenClaim := { program := "ytphlpipbhaiijaa", sum := "429e59ab6915f17b7a0585030ef5c35f342435414c28fcfcd45e772e09484954", func := "loop.example/g01109/laws.FnExactBestLayout", spec := "fnExactBestLayout", unfollowed := true, recurses := true, plainKeys := false, apart := false, narrowed := true }
def FnExactBestLayoutUptoSaid : Prop := fnExactBestLayoutUptoRow.holds Try.pinned (OpenSpec.upto fnExactBestLayoutSpec)

/-- 'laws.FnExactIsEvasion', WHERE WHAT IT READS IS OF BULK AT MOST 1048576: true; the input reads as it did. -/
def fnExactIsEvasionUptoRow : OpenClaim := { program := "ytphlpipbhaiijaa", sum := "429e59ab6915f17b7a0585030ef5c35f342435414c28fcfcd45e772e09484954", func := "loop.example/g01109/laws.FnExactIsEvasion", spec := "fnExactIsEvasion", unfollowed := true, recurses := true, plainKeys := false, apart := false, narrowed := true }
def FnExactIsEvasionUptoSaid : Prop := fnExactIsEvasionUptoRow.holds Try.pinned (OpenSpec.upto fnExactIsEvasionSpec)

/-- 'laws.FnExactIsCaptureProof', WHERE WHAT IT READS IS OF BULK AT MOST 1048576: true; the input reads as it did. -/
def fnExactIsCaptureProofUptoRow : OpenClaim := { program := "ytphlpipbhaiijaa", sum := "429e59ab6915f17b7a0585030ef5c35f342435414c28fcfcd45e772e09484954", func := "loop.example/g01109/laws.FnExactIsCaptureProof", spec := "fnExactIsCaptureProof", unfollowed := true, recurses := true, plainKeys := false, apart := false, narrowed := true }
def FnExactIsCaptureProofUptoSaid : Prop := fnExactIsCaptureProofUptoRow.holds Try.pinned (OpenSpec.upto fnExactIsCaptureProofSpec)

end Rows
end Go.Proofs.Ytphlpipbhaiijaa
