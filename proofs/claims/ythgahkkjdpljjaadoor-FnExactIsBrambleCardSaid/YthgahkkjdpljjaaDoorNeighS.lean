/- The contracts of the model's l2Neighbors and NeighborsOf. -/
import Derived.Test.YthgahkkjdpljjaaDoorNeigh
namespace Go.Proofs.YthgahkkjdpljjaaDoor.neigh
open Go.RowKit P2 words edges ints good near adjs fns

end Go.Proofs.YthgahkkjdpljjaaDoor.neigh
