/- The contracts of slices.Index, slices.Contains over integers, and of slices.IndexFunc, slices.ContainsFunc over slices of integers. -/
import Derived.Handy
import Derived.Test.YtgbdgenlmmofeaaDoorFunc
import Derived.Test.YtgbdgenlmmofeaaDoorGridR
namespace Go.Proofs.YtgbdgenlmmofeaaDoor.idx
open Go.RowKit P2 words edges ints fns func gridr
set_option linter.unusedVariables false

def idxE (tl : List Int) (x : Int) : Int := idxF (fun y => y == x) tl
theorem idx_mem (xs : List Int) (x : Int) : decide (0 ≤ idxE xs x) = decide (x ∈ xs) := by
  unfold idxE
  rw [idxF_any]
  by_cases h : x ∈ xs
  · rw [decide_eq_true h, List.any_eq_true]; exact ⟨x, h, by simp⟩
  · rw [decide_eq_false h, Bool.eq_false_iff]
    intro hh
    obtain ⟨y, hy, e⟩ := List.any_eq_true.1 hh
    have : y = x := by simpa using e
    subst this
    exact h hy
/-- a function value that answers for the rows of a slice of slices, in every world that goes on from w -/
structure FnG (w : World) (f : FuncId) (caps : Array Value) (us : List Value) (xs : List (List Int)) (p : List Int → Bool) : Prop where
  enter : ∀ (args : Array Value) (W : World), (callFunc f args).run Tryd.prog W = .ok (.enter f args) W
  call : ∀ W, Below w.heap.size w W → ∀ (k : Nat) u x, us[k]? = some u → xs[k]? = some x → Calls Tryd.prog f (#[u] ++ caps) W fun e W' => e = .returned (.bool (p x)) ∧ Below W.heap.size W W'
end Go.Proofs.YtgbdgenlmmofeaaDoor.idx
