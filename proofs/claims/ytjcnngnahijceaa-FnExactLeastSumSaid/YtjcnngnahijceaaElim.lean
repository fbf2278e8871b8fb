/- The contracts of EliminationWidth: of the program and of the model. -/
import Derived.Handy
import Derived.Test.YtjcnngnahijceaaElimM
import Derived.Test.YtjcnngnahijceaaAround
import Derived.Test.YtjcnngnahijceaaClosed
import Derived.Test.YtjcnngnahijceaaGridW
import Derived.Test.YtjcnngnahijceaaGridR
import Derived.Test.YtjcnngnahijceaaGridL
import Derived.Test.YtjcnngnahijceaaMinMax
import Derived.Test.YtjcnngnahijceaaGoodS
import Derived.StillTailTactics
namespace Go.Proofs.Ytjcnngnahijceaa.bags
open Go.RowKit P2 words edges ints good adjs fns sets rets covs reach each bitsI grid gridr
set_option linter.unusedVariables false

theorem ite_max (a b : Int) : (if b < a then a else b) = max b a := by split <;> omega
def RetN (w : World) (p : Prop) (x : Int) (e : Ending) (w' : World) : Prop := e = .returned (.tuple #[.int .i64 (szG p x), .bool (okG p)]) ∧ Below w.heap.size w w'
theorem RetN.yes {w w' : World} {p : Prop} {x : Int} (hp : p) (hb : Below w.heap.size w w') : RetN w p x (.returned (.tuple #[.int .i64 x, .bool true])) w' := ⟨by rw [szG_yes hp, okG_yes hp], hb⟩
theorem RetN.no {w w' : World} {p : Prop} {x : Int} (hp : ¬ p) (hb : Below w.heap.size w w') : RetN w p x (.returned (.tuple #[.int .i64 0, .bool false])) w' := ⟨by rw [szG_no hp, okG_no hp], hb⟩
theorem ints_take {w : World} {A : Option Addr} {c i : Nat} {tl : List Int} (h : Ints w (.slice A tl.length c) tl) (hi : i ≤ tl.length) (hc : i ≤ c) : Ints w (.slice A i c) (tl.take i) := by
  have h1 := apps.Reads.take (c' := c) h hi hc
  rw [apps.cellsI_take] at h1
  show Reads w 1 _ (tl.take i).length _
  rw [List.length_take, Nat.min_eq_left hi]
  exact h1
theorem ints_cap {w : World} {A : Option Addr} {c : Nat} {tl : List Int} (h : Ints w (.slice A tl.length c) tl) : tl.length ≤ c := by
  rcases Nat.eq_zero_or_pos tl.length with h0 | h0
  · omega
  · obtain ⟨A', c', e, hx⟩ := h
    cases e
    exact (hx h0).choose_spec.choose_spec.2.1
end Go.Proofs.Ytjcnngnahijceaa.bags
