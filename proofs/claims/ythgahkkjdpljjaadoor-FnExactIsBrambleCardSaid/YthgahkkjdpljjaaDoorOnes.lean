/- How many bits a number below 256 has: the contract of bits.OnesCount and of the program's count. -/
import Derived.Handy
import Derived.Test.YthgahkkjdpljjaaDoorBitsI
namespace Go.Proofs.YthgahkkjdpljjaaDoor.bitsI
open Go.RowKit P2 words edges ints good adjs fns sets rets covs
set_option linter.unusedVariables false

/-- how many bits -/
def onesN (c : Nat) : Nat := (nw (bitB c) 8).length
theorem ones_num (p : Nat → Bool) {n : Nat} (hn : n ≤ 8) : onesN (numOf p n) = (nw p n).length := by unfold onesN; rw [nodes_num hn]
/-- the steps of OnesCount64 -/
def pop1 (x : Int) : Int := IntKind.u64.wrap (bits .and .u64 (x / 2) 6148914691236517205 + bits .and .u64 x 6148914691236517205)
def pop2 (x : Int) : Int := IntKind.u64.wrap (bits .and .u64 (x / 4) 3689348814741910323 + bits .and .u64 x 3689348814741910323)
def pop3 (x : Int) : Int := bits .and .u64 (IntKind.u64.wrap (x / 16 + x)) 1085102592571150095
def pop4 (k : Int) (x : Int) : Int := IntKind.u64.wrap (x + x / k)
def pop5 (x : Int) : Int := bits .and .i64 (wrap64 x) 127
theorem pop_is : ∀ c : Fin 256, pop5 (pop4 4294967296 (pop4 65536 (pop4 256 (pop3 (pop2 (pop1 (c.1 : Int))))))) = (onesN c.1 : Int) := by decide +kernel
end Go.Proofs.YthgahkkjdpljjaaDoor.bitsI
