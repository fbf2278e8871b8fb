/- The contract of the model's FrontSizes. -/
import Derived.Handy
import Derived.Test.YteacpmdgojennaaFsI
import Derived.Test.YteacpmdgojennaaLayI
import Derived.Deep.AppendLies
import Derived.Deep.RegionHeld3
import Derived.Deep.DeepCutAuto
namespace Go.Proofs.Yteacpmdgojennaa.fronts
open Go.RowKit P2 words edges ints good adjs fns sets rets covs reach bags balls each mids
set_option linter.unusedVariables false

theorem keep_al {w : World} {p : Addr} {v : Value} {o : Obj} (h : w.cell? p = some v) : (w.alloc o).cell? p = some v :=
  ((Below.refl w.heap.size w).alloc (Nat.le_refl _) o |>.cell (p := p) (World.block_lt_of_cell? w p h)).trans h
end Go.Proofs.Yteacpmdgojennaa.fronts
