/-
  No cell of these rows narrows 'for every input' (looked for: loops, veiled, ifaces, maps, wideKeys, modest, calm, conditions, laid).
  DERIVED. THE GIVEN ROWS OF THIS SEAT. 12 by the template 'for every input the law returns true; each argument reads behind the call as it read before'; 0 by the template 'total and deterministic' (their statements: YtfphpilabfpmjaaTotals.lean).
  GIVEN WITH THE SEED: the statements are not yours to turn. If you find one false, say at which input.
  Laid BY PROGRAM, IN A SANDBOX (cutbox-rows.mjs): the forced cells as the released guide's own fill.sh prints them over the translation cb0b3c22973d408c… (all of the seat's roots in one cut). By AI agents, Wed Nov 11 2026. No macro, syntax, notation, axiom, sorry.
-/
import Derived.Test.YtfphpilabfpmjaaChecked
import GoSem.Claim
import GoSem.ClaimJoined
import GoSem.ClaimMapViews
import Derived.JoinedTies
import Derived.KernelRfl
namespace Go.Proofs.Ytfphpilabfpmjaa
/- THE CELL 'sum', in the pinned program and in every row, IS THE sha256 OF THE DUMP (.gsa) THAT YtfphpilabfpmjaaProg.lean LOADS. Nothing in Lean hashes anything: it is a label: what it is worth is what the hold of that sum in a sandbox is worth. -/
noncomputable def Try.pinned : Pinned := { name := "ytfphpilabfpmjaa", sum := "cb0b3c22973d408c592808d3fb1c0013488a1c5ed722de7443a55c6e9638a305", checked := Try.checked }
namespace Rows
def none {H : Type} : Left H := { results := [], args := [] }

/-- 'laws.FnExactForceOnce': WHATEVER THE INPUT: true; the input reads as it did. -/
def fnExactForceOnceSpec : ChangeSpec := { name := "fnExactForceOnce", fn := fun _ => fun
  | [d1, d2] => { results := [.lit (.bool true)], args := [d1, d2] }
  | _ => none }
def fnExactForceOnceRow : OpenClaim := { program := "ytfphpilabfpmjaa", sum := "cb0b3c22973d408c592808d3fb1c0013488a1c5ed722de7443a55c6e9638a305", func := "loop.example/g01109/laws.FnExactForceOnce", spec := "fnExactForceOnce", unfollowed := true, recurses := true, apart := false }
def FnExactForceOnceSaid : Prop := fnExactForceOnceRow.holds Try.pinned (OpenSpec.ofChange fnExactForceOnceSpec)

/-- ITS FALSE NEIGHBOUR: 'it returns false'. Refute it at one input. -/
def fnExactForceOnceWrong : ChangeSpec := { name := "fnExactForceOnce", fn := fun _ => fun
  | [d1, d2] => { results := [.lit (.bool false)], args := [d1, d2] }
  | _ => none }
def FnExactForceOnceWrongFalsely : Prop := fnExactForceOnceRow.holds Try.pinned (OpenSpec.ofChange fnExactForceOnceWrong)

/-- 'laws.FnExactForceAll': WHATEVER THE INPUT: true; the input reads as it did. -/
def fnExactForceAllSpec : ChangeSpec := { name := "fnExactForceAll", fn := fun _ => fun
  | [d1, d2] => { results := [.lit (.bool true)], args := [d1, d2] }
  | _ => none }
def fnExactForceAllRow : OpenClaim := { program := "ytfphpilabfpmjaa", sum := "cb0b3c22973d408c592808d3fb1c0013488a1c5ed722de7443a55c6e9638a305", func := "loop.example/g01109/laws.FnExactForceAll", spec := "fnExactForceAll", unfollowed := true, recurses := true, apart := false }
def FnExactForceAllSaid : Prop := fnExactForceAllRow.holds Try.pinned (OpenSpec.ofChange fnExactForceAllSpec)

/-- ITS FALSE NEIGHBOUR: 'it returns false'. Refute it at one input. -/
def fnExactForceAllWrong : ChangeSpec := { name := "fnExactForceAll", fn := fun _ => fun
  | [d1, d2] => { results := [.lit (.bool false)], args := [d1, d2] }
  | _ => none }
def FnExactForceAllWrongFalsely : Prop := fnExactForceAllRow.holds Try.pinned (OpenSpec.ofChange fnExactForceAllWrong)

/-- 'laws.FnExactForceRounds': WHATEVER THE INPUT: true; the input reads as it did. -/
def fnExactForceRoundsSpec : ChangeSpec := { name := "fnExactForceRounds", fn := fun _ => fun
  | [d1, d2] => { results := [.lit (.bool true)], args := [d1, d2] }
  | _ => none }
def fnExactForceRoundsRow : OpenClaim := { program := "ytfphpilabfpmjaa", sum := "cb0b3c22973d408c592808d3fb1c0013488a1c5ed722de7443a55c6e9638a305", func := "loop.example/g01109/laws.FnExactForceRounds", spec := "fnExactForceRounds", unfollowed := true, recurses := true, apart := false }
def FnExactForceRoundsSaid : Prop := fnExactForceRoundsRow.holds Try.pinned (OpenSpec.ofChange fnExactForceRoundsSpec)

/-- ITS FALSE NEIGHBOUR: 'it returns false'. Refute it at one input. -/
def fnExactForceRoundsWrong : ChangeSpec := { name := "fnExactForceRounds", fn := fun _ => fun
  | [d1, d2] => { results := [.lit (.bool false)], args := [d1, d2] }
  | _ => none }
def FnExactForceRoundsWrongFalsely : Prop := fnExactForceRoundsRow.holds Try.pinned (OpenSpec.ofChange fnExactForceRoundsWrong)

/-- 'laws.FnExactIsForcing': WHATEVER THE INPUT: true; the input reads as it did. -/
def fnExactIsForcingSpec : ChangeSpec := { name := "fnExactIsForcing", fn := fun _ => fun
  | [d1, d2] => { results := [.lit (.bool true)], args := [d1, d2] }
  | _ => none }
def fnExactIsForcingRow : OpenClaim := { program := "ytfphpilabfpmjaa", sum := "cb0b3c22973d408c592808d3fb1c0013488a1c5ed722de7443a55c6e9638a305", func := "loop.example/g01109/laws.FnExactIsForcing", spec := "fnExactIsForcing", unfollowed := true, recurses := true, apart := false }
def FnExactIsForcingSaid : Prop := fnExactIsForcingRow.holds Try.pinned (OpenSpec.ofChange fnExactIsForcingSpec)

/-- ITS FALSE NEIGHBOUR: 'it returns false'. Refute it at one input. -/
def fnExactIsForcingWrong : ChangeSpec := { name := "fnExactIsForcing", fn := fun _ => fun
  | [d1, d2] => { results := [.lit (.bool false)], args := [d1, d2] }
  | _ => none }
def FnExactIsForcingWrongFalsely : Prop := fnExactIsForcingRow.holds Try.pinned (OpenSpec.ofChange fnExactIsForcingWrong)

/-- 'laws.FnExactLeastForcing': WHATEVER THE INPUT: true; the input reads as it did. -/
def fnExactLeastForcingSpec : ChangeSpec := { name := "fnExactLeastForcing", fn := fun _ => fun
  | [d] => { results := [.lit (.bool true)], args := [d] }
  | _ => none }
def fnExactLeastForcingRow : OpenClaim := { program := "ytfphpilabfpmjaa", sum := "cb0b3c22973d408c592808d3fb1c0013488a1c5ed722de7443a55c6e9638a305", func := "loop.example/g01109/laws.FnExactLeastForcing", spec := "fnExactLeastForcing", unfollowed := true, recurses := true, apart := false }
def FnExactLeastForcingSaid : Prop := fnExactLeastForcingRow.holds Try.pinned (OpenSpec.ofChange fnExactLeastForcingSpec)

/-- ITS FALSE NEIGHBOUR: 'it returns false'. Refute it at one input. -/
def fnExactLeastForcingWrong : ChangeSpec := { name := "fnExactLeastForcing", fn := fun _ => fun
  | [d] => { results := [.lit (.bool false)], args := [d] }
  | _ => none }
def FnExactLeastForcingWrongFalsely : Prop := fnExactLeastForcingRow.holds Try.pinned (OpenSpec.ofChange fnExactLeastForcingWrong)

/-- 'laws.FnExactIsFort': WHATEVER THE INPUT: true; the input reads as it did. -/
def fnExactIsFortSpec : ChangeSpec := { name := "fnExactIsFort", fn := fun _ => fun
  | [d1, d2] => { results := [.lit (.bool true)], args := [d1, d2] }
  | _ => none }
def fnExactIsFortRow : OpenClaim := { program := "ytfphpilabfpmjaa", sum := "cb0b3c22973d408c592808d3fb1c0013488a1c5ed722de7443a55c6e9638a305", func := "loop.example/g01109/laws.FnExactIsFort", spec := "fnExactIsFort", apart := false }
def FnExactIsFortSaid : Prop := fnExactIsFortRow.holds Try.pinned (OpenSpec.ofChange fnExactIsFortSpec)

/-- ITS FALSE NEIGHBOUR: 'it returns false'. Refute it at one input. -/
def fnExactIsFortWrong : ChangeSpec := { name := "fnExactIsFort", fn := fun _ => fun
  | [d1, d2] => { results := [.lit (.bool false)], args := [d1, d2] }
  | _ => none }
def FnExactIsFortWrongFalsely : Prop := fnExactIsFortRow.holds Try.pinned (OpenSpec.ofChange fnExactIsFortWrong)

/-- 'laws.FnExactFortOutside': WHATEVER THE INPUT: true; the input reads as it did. -/
def fnExactFortOutsideSpec : ChangeSpec := { name := "fnExactFortOutside", fn := fun _ => fun
  | [d1, d2] => { results := [.lit (.bool true)], args := [d1, d2] }
  | _ => none }
def fnExactFortOutsideRow : OpenClaim := { program := "ytfphpilabfpmjaa", sum := "cb0b3c22973d408c592808d3fb1c0013488a1c5ed722de7443a55c6e9638a305", func := "loop.example/g01109/laws.FnExactFortOutside", spec := "fnExactFortOutside", unfollowed := true, recurses := true, apart := false }
def FnExactFortOutsideSaid : Prop := fnExactFortOutsideRow.holds Try.pinned (OpenSpec.ofChange fnExactFortOutsideSpec)

/-- ITS FALSE NEIGHBOUR: 'it returns false'. Refute it at one input. -/
def fnExactFortOutsideWrong : ChangeSpec := { name := "fnExactFortOutside", fn := fun _ => fun
  | [d1, d2] => { results := [.lit (.bool false)], args := [d1, d2] }
  | _ => none }
def FnExactFortOutsideWrongFalsely : Prop := fnExactFortOutsideRow.holds Try.pinned (OpenSpec.ofChange fnExactFortOutsideWrong)

/-- 'laws.FnExactFortsOf': WHATEVER THE INPUT: true; the input reads as it did. -/
def fnExactFortsOfSpec : ChangeSpec := { name := "fnExactFortsOf", fn := fun _ => fun
  | [d] => { results := [.lit (.bool true)], args := [d] }
  | _ => none }
def fnExactFortsOfRow : OpenClaim := { program := "ytfphpilabfpmjaa", sum := "cb0b3c22973d408c592808d3fb1c0013488a1c5ed722de7443a55c6e9638a305", func := "loop.example/g01109/laws.FnExactFortsOf", spec := "fnExactFortsOf", unfollowed := true, recurses := true, apart := false }
def FnExactFortsOfSaid : Prop := fnExactFortsOfRow.holds Try.pinned (OpenSpec.ofChange fnExactFortsOfSpec)

/-- ITS FALSE NEIGHBOUR: 'it returns false'. Refute it at one input. -/
def fnExactFortsOfWrong : ChangeSpec := { name := "fnExactFortsOf", fn := fun _ => fun
  | [d] => { results := [.lit (.bool false)], args := [d] }
  | _ => none }
def FnExactFortsOfWrongFalsely : Prop := fnExactFortsOfRow.holds Try.pinned (OpenSpec.ofChange fnExactFortsOfWrong)

/-- 'laws.FnExactPowerAll': WHATEVER THE INPUT: true; the input reads as it did. -/
def fnExactPowerAllSpec : ChangeSpec := { name := "fnExactPowerAll", fn := fun _ => fun
  | [d1, d2] => { results := [.lit (.bool true)], args := [d1, d2] }
  | _ => none }
def fnExactPowerAllRow : OpenClaim := { program := "ytfphpilabfpmjaa", sum := "cb0b3c22973d408c592808d3fb1c0013488a1c5ed722de7443a55c6e9638a305", func := "loop.example/g01109/laws.FnExactPowerAll", spec := "fnExactPowerAll", unfollowed := true, recurses := true, apart := false }
def FnExactPowerAllSaid : Prop := fnExactPowerAllRow.holds Try.pinned (OpenSpec.ofChange fnExactPowerAllSpec)

/-- ITS FALSE NEIGHBOUR: 'it returns false'. Refute it at one input. -/
def fnExactPowerAllWrong : ChangeSpec := { name := "fnExactPowerAll", fn := fun _ => fun
  | [d1, d2] => { results := [.lit (.bool false)], args := [d1, d2] }
  | _ => none }
def FnExactPowerAllWrongFalsely : Prop := fnExactPowerAllRow.holds Try.pinned (OpenSpec.ofChange fnExactPowerAllWrong)

/-- 'laws.FnExactLeastPower': WHATEVER THE INPUT: true; the input reads as it did. -/
def fnExactLeastPowerSpec : ChangeSpec := { name := "fnExactLeastPower", fn := fun _ => fun
  | [d] => { results := [.lit (.bool true)], args := [d] }
  | _ => none }
def fnExactLeastPowerRow : OpenClaim := { program := "ytfphpilabfpmjaa", sum := "cb0b3c22973d408c592808d3fb1c0013488a1c5ed722de7443a55c6e9638a305", func := "loop.example/g01109/laws.FnExactLeastPower", spec := "fnExactLeastPower", unfollowed := true, recurses := true, apart := false }
def FnExactLeastPowerSaid : Prop := fnExactLeastPowerRow.holds Try.pinned (OpenSpec.ofChange fnExactLeastPowerSpec)

/-- ITS FALSE NEIGHBOUR: 'it returns false'. Refute it at one input. -/
def fnExactLeastPowerWrong : ChangeSpec := { name := "fnExactLeastPower", fn := fun _ => fun
  | [d] => { results := [.lit (.bool false)], args := [d] }
  | _ => none }
def FnExactLeastPowerWrongFalsely : Prop := fnExactLeastPowerRow.holds Try.pinned (OpenSpec.ofChange fnExactLeastPowerWrong)

/-- 'laws.FnExactSkewAll': WHATEVER THE INPUT: true; the input reads as it did. -/
def fnExactSkewAllSpec : ChangeSpec := { name := "fnExactSkewAll", fn := fun _ => fun
  | [d1, d2] => { results := [.lit (.bool true)], args := [d1, d2] }
  | _ => none }
def fnExactSkewAllRow : OpenClaim := { program := "ytfphpilabfpmjaa", sum := "cb0b3c22973d408c592808d3fb1c0013488a1c5ed722de7443a55c6e9638a305", func := "loop.example/g01109/laws.FnExactSkewAll", spec := "fnExactSkewAll", unfollowed := true, recurses := true, apart := false }
def FnExactSkewAllSaid : Prop := fnExactSkewAllRow.holds Try.pinned (OpenSpec.ofChange fnExactSkewAllSpec)

/-- ITS FALSE NEIGHBOUR: 'it returns false'. Refute it at one input. -/
def fnExactSkewAllWrong : ChangeSpec := { name := "fnExactSkewAll", fn := fun _ => fun
  | [d1, d2] => { results := [.lit (.bool false)], args := [d1, d2] }
  | _ => none }
def FnExactSkewAllWrongFalsely : Prop := fnExactSkewAllRow.holds Try.pinned (OpenSpec.ofChange fnExactSkewAllWrong)

/-- 'laws.FnExactLeastSkew': WHATEVER THE INPUT: true; the input reads as it did. -/
def fnExactLeastSkewSpec : ChangeSpec := { name := "fnExactLeastSkew", fn := fun _ => fun
  | [d] => { results := [.lit (.bool true)], args := [d] }
  | _ => none }
def fnExactLeastSkewRow : OpenClaim := { program := "ytfphpilabfpmjaa", sum := "cb0b3c22973d408c592808d3fb1c0013488a1c5ed722de7443a55c6e9638a305", func := "loop.example/g01109/laws.FnExactLeastSkew", spec := "fnExactLeastSkew", unfollowed := true, recurses := true, apart := false }
def FnExactLeastSkewSaid : Prop := fnExactLeastSkewRow.holds Try.pinned (OpenSpec.ofChange fnExactLeastSkewSpec)

/-- ITS FALSE NEIGHBOUR: 'it returns false'. Refute it at one input. -/
def fnExactLeastSkewWrong : ChangeSpec := { name := "fnExactLeastSkew", fn := fun _ => fun
  | [d] => { results := [.lit (.bool false)], args := [d] }
  | _ => none }
def FnExactLeastSkewWrongFalsely : Prop := fnExactLeastSkewRow.holds Try.pinned (OpenSpec.ofChange fnExactLeastSkewWrong)

/- THE SECOND FORM. 'bulk': how many values and letters a reading holds, each counted each time it is reached (what is shared counts as often as it is met; a slice's spare places count too). A statement '..UptoSaid' is the law's where the arguments, and the package variables that the reading takes, are together of bulk at most 1048576: NARROWER than '..Said'. Prove '..Said' where nothing that the law and all that it calls make is longer than what came in: it says more and counts as full. Else prove '..UptoSaid'. A law counts once. -/
mutual
def uptoBulk {H : Type} : DataW H → Nat
  | .lit (.string bytes) => bytes.length + 1
  | .lit _ => 1
  | .nil => 1
  | .ptr d => uptoBulk d + 1
  | .slice elems spare => uptoBulkAll elems + uptoBulkAll spare + 1
  | .agg parts => uptoBulkAll parts + 1
  | .iface _ d => uptoBulk d + 1
  | .map entries => uptoBulkEntries entries + 1
  | .held _ => 1
def uptoBulkAll {H : Type} : List (DataW H) → Nat
  | [] => 0
  | d :: r => uptoBulk d + uptoBulkAll r
def uptoBulkEntries {H : Type} : List (Lit × DataW H) → Nat
  | [] => 0
  | x :: r => uptoBulkEntry x + uptoBulkEntries r
def uptoBulkEntry {H : Type} : Lit × DataW H → Nat
  | (.string bytes, d) => bytes.length + uptoBulk d + 1
  | (_, d) => uptoBulk d + 1
 end
def uptoSmall : (H : Type) → List (DataW H) → Bool := fun _ ds => decide (uptoBulkAll ds ≤ 1048576)
def OpenSpec.upto (s : _root_.Go.ChangeSpec) : _root_.Go.OpenSpec := { _root_.Go.OpenSpec.ofChange s with cond := some uptoSmall }

/-- 'laws.FnExactForceOnce', WHERE WHAT IT READS IS OF BULK AT MOST 1048576: true; the input reads as it did. -/
def fnExactForceOnceUptoRow : OpenClaim := { program := "ytfphpilabfpmjaa", sum := "cb0b3c22973d408c592808d3fb1c0013488a1c5ed722de7443a55c6e9638a305", func := "loop.example/g01109/laws.FnExactForceOnce", spec := "fnExactForceOnce", unfollowed := true, recurses := true, apart := false, narrowed := true }
def FnExactForceOnceUptoSaid : Prop := fnExactForceOnceUptoRow.holds Try.pinned (OpenSpec.upto fnExactForceOnceSpec)

/-- 'laws.FnExactForceAll', WHERE WHAT IT READS IS OF BULK AT MOST 1048576: true; the input reads as it did. -/
def fnExactForceAllUptoRow : OpenClaim := { program := "ytfphpilabfpmjaa", sum := "cb0b3c22973d408c592808d3fb1c0013488a1c5ed722de7443a55c6e9638a305", func := "loop.example/g01109/laws.FnExactForceAll", spec := "fnExactForceAll", unfollowed := true, recurses := true, apart := false, narrowed := true }
def FnExactForceAllUptoSaid : Prop := fnExactForceAllUptoRow.holds Try.pinned (OpenSpec.upto fnExactForceAllSpec)

/-- 'laws.FnExactForceRounds', WHERE WHAT IT READS IS OF BULK AT MOST 1048576: true; the input reads as it did. -/
def fnExactForceRoundsUptoRow : OpenClaim := { program := "ytfphpilabfpmjaa", sum := "cb0b3c22973d408c592808d3fb1c0013488a1c5ed722de7443a55c6e9638a305", func := "loop.example/g01109/laws.FnExactForceRounds", spec := "fnExactForceRounds", unfollowed := true, recurses := true, apart := false, narrowed := true }
def FnExactForceRoundsUptoSaid : Prop := fnExactForceRoundsUptoRow.holds Try.pinned (OpenSpec.upto fnExactForceRoundsSpec)

/-- 'laws.FnExactIsForcing', WHERE WHAT IT READS IS OF BULK AT MOST 1048576: true; the input reads as it did. -/
def fnExactIsForcingUptoRow : OpenClaim := { program := "ytfphpilabfpmjaa", sum := "cb0b3c22973d408c592808d3fb1c0013488a1c5ed722de7443a55c6e9638a305", func := "loop.example/g01109/laws.FnExactIsForcing", spec := "fnExactIsForcing", unfollowed := true, recurses := true, apart := false, narrowed := true }
def FnExactIsForcingUptoSaid : Prop := fnExactIsForcingUptoRow.holds Try.pinned (OpenSpec.upto fnExactIsForcingSpec)

/-- 'laws.FnExactLeastForcing', WHERE WHAT IT READS IS OF BULK AT MOST 1048576: true; the input reads as it did. -/
def fnExactLeastForcingUptoRow : OpenClaim := { program := "ytfphpilabfpmjaa", sum := "cb0b3c22973d408c592808d3fb1c0013488a1c5ed722de7443a55c6e9638a305", func := "loop.example/g01109/laws.FnExactLeastForcing", spec := "fnExactLeastForcing", unfollowed := true, recurses := true, apart := false, narrowed := true }
def FnExactLeastForcingUptoSaid : Prop := fnExactLeastForcingUptoRow.holds Try.pinned (OpenSpec.upto fnExactLeastForcingSpec)

/-- 'laws.FnExactIsFort', WHERE WHAT IT READS IS OF BULK AT MOST 1048576: true; the input reads as it did. -/
def fnExactIsFortUptoRow : OpenClaim := { program := "ytfphpilabfpmjaa", sum := "cb0b3c22973d408c592808d3fb1c0013488a1c5ed722de7443a55c6e9638a305", func := "loop.example/g01109/laws.FnExactIsFort", spec := "fnExactIsFort", apart := false, narrowed := true }
def FnExactIsFortUptoSaid : Prop := fnExactIsFortUptoRow.holds Try.pinned (OpenSpec.upto fnExactIsFortSpec)

/-- 'laws.FnExactFortOutside', WHERE WHAT IT READS IS OF BULK AT MOST 1048576: true; the input reads as it did. -/
def fnExactFortOutsideUptoRow : OpenClaim := { program := "ytfphpilabfpmjaa", sum := "cb0b3c22973d408c592808d3fb1c0013488a1c5ed722de7443a55c6e9638a305", func := "loop.example/g01109/laws.FnExactFortOutside", spec := "fnExactFortOutside", unfollowed := true, recurses := true, apart := false, narrowed := true }
def FnExactFortOutsideUptoSaid : Prop := fnExactFortOutsideUptoRow.holds Try.pinned (OpenSpec.upto fnExactFortOutsideSpec)

/-- 'laws.FnExactFortsOf', WHERE WHAT IT READS IS OF BULK AT MOST 1048576: true; the input reads as it did. -/
def fnExactFortsOfUptoRow : OpenClaim := { program := "ytfphpilabfpmjaa", sum := "cb0b3c22973d408c592808d3fb1c0013488a1c5ed722de7443a55c6e9638a305", func := "loop.example/g01109/laws.FnExactFortsOf", spec := "fnExactFortsOf", unfollowed := true, recurses := true, apart := false, narrowed := true }
def FnExactFortsOfUptoSaid : Prop := fnExactFortsOfUptoRow.holds Try.pinned (OpenSpec.upto fnExactFortsOfSpec)

/-- 'laws.FnExactPowerAll', WHERE WHAT IT READS IS OF BULK AT MOST 1048576: true; the input reads as it did. -/
def fnExactPowerAllUptoRow : OpenClaim := { program := "ytfphpilabfpmjaa", sum := "cb0b3c22973d408c592808d3fb1c0013488a1c5ed722de7443a55c6e9638a305", func := "loop.example/g01109/laws.FnExactPowerAll", spec := "fnExactPowerAll", unfollowed := true, recurses := true, apart := false, narrowed := true }
def FnExactPowerAllUptoSaid : Prop := fnExactPowerAllUptoRow.holds Try.pinned (OpenSpec.upto fnExactPowerAllSpec)

/-- 'laws.FnExactLeastPower', WHERE WHAT IT READS IS OF BULK AT MOST 1048576: true; the input reads as it did. -/
def fnExactLeastPowerUptoRow : OpenClaim := { program := "ytfphpilabfpmjaa", sum := "cb0b3c22973d408c592808d3fb1c0013488a1c5ed722de7443a55c6e9638a305", func := "loop.example/g01109/laws.FnExactLeastPower", spec := "fnExactLeastPower", unfollowed := true, recurses := true, apart := false, narrowed := true }
def FnExactLeastPowerUptoSaid : Prop := fnExactLeastPowerUptoRow.holds Try.pinned (OpenSpec.upto fnExactLeastPowerSpec)

/-- 'laws.FnExactSkewAll', WHERE WHAT IT READS IS OF BULK AT MOST 1048576: true; the input reads as it did. -/
def fnExactSkewAllUptoRow : OpenClaim := { program := "ytfphpilabfpmjaa", sum := "cb0b3c22973d408c592808d3fb1c0013488a1c5ed722de7443a55c6e9638a305", func := "loop.example/g01109/laws.FnExactSkewAll", spec := "fnExactSkewAll", unfollowed := true, recurses := true, apart := false, narrowed := true }
def FnExactSkewAllUptoSaid : Prop := fnExactSkewAllUptoRow.holds Try.pinned (OpenSpec.upto fnExactSkewAllSpec)

/-- 'laws.FnExactLeastSkew', WHERE WHAT IT READS IS OF BULK AT MOST 1048576: true; the input reads as it did. -/
def fnExactLeastSkewUptoRow : OpenClaim := { program := "ytfphpilabfpmjaa", sum := "cb0b3c22973d408c592808d3fb1c0013488a1c5ed722de7443a55c6e9638a305", func := "loop.example/g01109/laws.FnExactLeastSkew", spec := "fnExactLeastSkew", unfollowed := true, recurses := true, apart := false, narrowed := true }
def FnExactLeastSkewUptoSaid : Prop := fnExactLeastSkewUptoRow.holds Try.pinned (OpenSpec.upto fnExactLeastSkewSpec)

end Rows
end Go.Proofs.Ytfphpilabfpmjaa
