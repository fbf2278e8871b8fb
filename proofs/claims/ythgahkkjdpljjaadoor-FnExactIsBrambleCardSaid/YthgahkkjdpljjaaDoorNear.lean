/- The contract of neighborTest and of the function value that it returns: a map of the edges, asked at a pair. -/
import Derived.Test.YthgahkkjdpljjaaDoorEdges
import Derived.Maps.Views
import Derived.DeepKeys4
namespace Go.Proofs.YthgahkkjdpljjaaDoor.near
open Go.RowKit Go.Maps P2 words edges


/-- an integer of 64 bits -/
def In64 (x : Int) : Prop := -9223372036854775808 ≤ x ∧ x ≤ 9223372036854775807
theorem wf64 {x : Int} (h : In64 x) : (Lit.int .i64 x).wf = true := WalkArith.wf_i64 h
end Go.Proofs.YthgahkkjdpljjaaDoor.near
