/- The contracts of the model's l2Neighbors and NeighborsOf. -/
import Derived.Test.YtbjcfjgoedpgdaaNeigh
namespace Go.Proofs.Ytbjcfjgoedpgdaa.neigh
open Go.RowKit P2 words edges ints good near adjs fns

end Go.Proofs.Ytbjcfjgoedpgdaa.neigh
