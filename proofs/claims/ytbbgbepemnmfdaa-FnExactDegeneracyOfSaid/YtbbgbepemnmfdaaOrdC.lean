/- The contract of the program's cheapestOrder. -/
import Derived.Handy
import Derived.Test.YtbbgbepemnmfdaaOrdI
import Derived.Deep.DeepCutAuto
namespace Go.Proofs.Ytbbgbepemnmfdaa.costs
open Go.RowKit P2 words edges ints good adjs fns sets rets covs reach bags bitsI fronts
set_option linter.unusedVariables false

def fitC (cost : Nat → Nat → Int) (C : Nat → Int) (g x : Nat) : Bool := decide (max (cost g x) (C (g ||| 2 ^ x)) ≤ C 0)
end Go.Proofs.Ytbbgbepemnmfdaa.costs
