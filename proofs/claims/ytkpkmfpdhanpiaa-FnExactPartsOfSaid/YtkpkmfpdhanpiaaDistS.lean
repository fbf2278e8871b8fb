/- The contract of the model's l2Dist. -/
import Derived.Handy
import Derived.Test.YtkpkmfpdhanpiaaDist
import Derived.Test.YtkpkmfpdhanpiaaGrid
import Derived.Test.YtkpkmfpdhanpiaaRepeat
import Derived.Test.YtkpkmfpdhanpiaaNearV
import Derived.Test.YtkpkmfpdhanpiaaSets
namespace Go.Proofs.Ytkpkmfpdhanpiaa.dists
open Go.RowKit P2 words edges ints owns good near adjs fns rets nearv sets grid reps
set_option linter.unusedVariables false

def J1 (l : List Ed) (a b : Nat) : Bool := adj l a b
noncomputable def distTo (n : Nat) (l : List Ed) (k : Nat) : List (List Int) := (List.range k).map fun x => dist n (J1 l) x
noncomputable def distG (n : Nat) (l : List Ed) : List (List Int) := distTo n l n
theorem distTo_len (n : Nat) (l : List Ed) (k : Nat) : (distTo n l k).length = k := by simp [distTo]
theorem distTo_succ (n : Nat) (l : List Ed) (k : Nat) : distTo n l (k + 1) = distTo n l k ++ [dist n (J1 l) k] := by simp [distTo, List.range_succ]
theorem cells_set1 (D : List Int) (y : Nat) (u : Int) : (cellsI D).set y (.int .i64 u) = cellsI (D.set y u) := by simp [cellsI, List.map_set]
theorem rep_succ (y : Nat) (x : Int) : cellsI (List.replicate (y + 1) x) = cellsI (List.replicate y x) ++ [.int .i64 x] := by simp [cellsI, List.replicate_succ']

/-- the row in the making -/
def RowH (wr wi : World) (n gr c5 : Nat) (D : List Int) : Prop := D.length = n ∧ wi.ownsRow wr.heap.size 3 1 (.slice (some ⟨gr, 0, none⟩) n c5) n (cellsI D) ∧ Below wr.heap.size wr wi

end Go.Proofs.Ytkpkmfpdhanpiaa.dists
