/- The contracts of the model's l2Neighbors and NeighborsOf. -/
import Derived.Test.YtkpkmfpdhanpiaaNeigh
namespace Go.Proofs.Ytkpkmfpdhanpiaa.neigh
open Go.RowKit P2 words edges ints good near adjs fns

end Go.Proofs.Ytkpkmfpdhanpiaa.neigh
