/- The first node of a set: the least digit of its bits. -/
import Derived.Test.YthgahkkjdpljjaaDoorCov
import Derived.Lib.TrailingZeros
namespace Go.Proofs.YthgahkkjdpljjaaDoor.strip
open Go.RowKit P2 words edges fns sets covs
set_option linter.unusedVariables false

/-- the first number of a list -/
def hd (L : List Int) : Int := L.headD 0
/-- the least digit is the first node of the set -/
theorem ctz_fin : ∀ c : Fin 256, c.val ≠ 0 → ((Lib.ctz 64 c.val : Nat) : Int) = (nw (bitB c.val) 8).headD 0 := by decide +kernel
theorem ctz_hd {c : Nat} (hc : c < 256) (h0 : c ≠ 0) : ((Lib.ctz 64 c : Nat) : Int) = hd (nw (bitB c) 8) := ctz_fin ⟨c, hc⟩ h0
theorem ctz_num {p : Nat → Bool} {n : Nat} (hn : n ≤ 8) (h0 : numOf p n ≠ 0) : ((Lib.ctz 64 (numOf p n) : Nat) : Int) = hd (nw p n) := by
  rw [ctz_hd (numOf_lt p hn) h0, nodes_num hn]
end Go.Proofs.YthgahkkjdpljjaaDoor.strip
