/- The contracts of slices.IndexFunc and slices.ContainsFunc over integers and over pairs, for a function value that tests. -/
import Derived.Handy
import Derived.Test.YthgahkkjdpljjaaDoorNearV
import Derived.Test.YthgahkkjdpljjaaDoorSets
namespace Go.Proofs.YthgahkkjdpljjaaDoor.func
open Go.RowKit P2 words edges ints fns
set_option linter.unusedVariables false

/-- a function value that answers for the elements of a list, in every world that goes on from w -/
structure FnI (w : World) (f : FuncId) (caps : Array Value) (xs : List Int) (p : Int → Bool) : Prop where
  enter : ∀ (args : Array Value) (W : World), (callFunc f args).run Tryd.prog W = .ok (.enter f args) W
  call : ∀ W, Below w.heap.size w W → ∀ x ∈ xs, Calls Tryd.prog f (#[.int .i64 x] ++ caps) W fun e W' => e = .returned (.bool (p x)) ∧ Below W.heap.size W W'
structure FnP (w : World) (f : FuncId) (caps : Array Value) (xs : List Ed) (p : Ed → Bool) : Prop where
  enter : ∀ (args : Array Value) (W : World), (callFunc f args).run Tryd.prog W = .ok (.enter f args) W
  call : ∀ W, Below w.heap.size w W → ∀ x ∈ xs, Calls Tryd.prog f (#[.agg #[.int .i64 x.1, .int .i64 x.2]] ++ caps) W fun e W' => e = .returned (.bool (p x)) ∧ Below W.heap.size W W'

/-- the place of the first element for which p holds, or -1 -/
def idxF {α : Type} (p : α → Bool) (xs : List α) : Int := match xs.findIdx? p with | some k => (k : Int) | none => -1
theorem idxF_at {α : Type} {p : α → Bool} {xs : List α} {k : Nat} {y : α} (hno : ∀ j z, j < k → xs[j]? = some z → p z = false) (hy : xs[k]? = some y) (hp : p y = true) : idxF p xs = (k : Int) := by
  unfold idxF
  have hk := (List.getElem?_eq_some_iff.1 hy)
  rw [List.findIdx?_eq_some_iff_getElem.2 ⟨hk.1, by rw [hk.2]; exact hp, fun j hj => by have := hno j _ hj (List.getElem?_eq_getElem (Nat.lt_trans hj hk.1)); simp [this]⟩]
theorem idxF_none {α : Type} {p : α → Bool} {xs : List α} (hno : ∀ j z, j < xs.length → xs[j]? = some z → p z = false) : idxF p xs = -1 := by
  unfold idxF
  rw [List.findIdx?_eq_none_iff.2 (fun x hx => by
    obtain ⟨j, hj⟩ := List.getElem?_of_mem hx
    exact hno j x (List.getElem?_eq_some_iff.1 hj).1 hj)]
theorem idxF_any {α : Type} (p : α → Bool) (xs : List α) : decide (0 ≤ idxF p xs) = xs.any p := by
  unfold idxF
  cases h : xs.findIdx? p with
  | none =>
    have := List.findIdx?_eq_none_iff.1 h
    rw [List.any_eq_false.2 (fun x hx => by simp [this x hx])]
    rfl
  | some k =>
    obtain ⟨hk, hp, _⟩ := List.findIdx?_eq_some_iff_getElem.1 h
    rw [List.any_eq_true.2 ⟨_, List.getElem_mem hk, hp⟩]
    simp
theorem no_succ {α : Type} {p : α → Bool} {xs : List α} {k : Nat} {y : α} (h : ∀ j z, j < k → xs[j]? = some z → p z = false) (hy : xs[k]? = some y) (hp : p y = false) : ∀ j z, j < k + 1 → xs[j]? = some z → p z = false := fun j z hj hz => by
  by_cases e : j = k
  · subst e; rw [hy] at hz; cases hz; exact hp
  · exact h j z (by omega) hz

end Go.Proofs.YthgahkkjdpljjaaDoor.func
