/- The contract of the program's distancesFrom. -/
import Derived.Handy
import Derived.Test.YtnmidgnkjpcpgaaDist
import Derived.Test.YtnmidgnkjpcpgaaQueue
import Derived.Test.YtnmidgnkjpcpgaaRepeat
import Derived.Test.YtnmidgnkjpcpgaaNearV
import Derived.Test.YtnmidgnkjpcpgaaSets
namespace Go.Proofs.Ytnmidgnkjpcpgaa.distf
open Go.RowKit P2 words edges ints good near adjs fns rets nearv sets queue reps
set_option linter.unusedVariables false

/-- how many are not found yet -/
def und (D : List Int) : Nat := D.countP fun d => decide (d < 0)
theorem und_set {D : List Int} {y : Nat} {d u : Int} (h : D[y]? = some d) (hd : d < 0) (hu : 0 ≤ u) : und (D.set y u) + 1 = und D := by
  induction D generalizing y with
  | nil => simp at h
  | cons a D ih =>
    cases y with
    | zero =>
      simp at h
      subst h
      simp [und, hd, show ¬ u < 0 from by omega]
    | succ y =>
      have := ih (y := y) (by simpa using h)
      simp only [und, List.set_cons_succ, List.countP_cons] at this ⊢
      omega
theorem und_le (D : List Int) : und D ≤ D.length := List.countP_le_length
def nodes (Q : List Nat) : List Int := Q.map fun q : Nat => (q : Int)
theorem nodes_len (Q : List Nat) : (nodes Q).length = Q.length := by simp [nodes]
theorem cells_set (D : List Int) (y : Nat) (u : Int) : (cellsI D).set y (.int .i64 u) = cellsI (D.set y u) := by simp [cellsI, List.map_set]
def J0 (l : List Ed) (a b : Nat) : Bool := adj l a b

/-- what distancesFrom holds between its rounds -/
def Hold (w wr : World) (n gd c1 : Nat) (qv : Value) (D : List Int) (Q : List Nat) : Prop :=
  D.length = n ∧ Queue wr w.heap.size 3 qv Q.length (cellsI (nodes Q)) ∧ wr.ownsRow w.heap.size 3 1 (.slice (some ⟨gd, 0, none⟩) n c1) n (cellsI D) ∧ Below w.heap.size w wr ∧ qv.ownBlock ≠ some gd

end Go.Proofs.Ytnmidgnkjpcpgaa.distf
