/- The contracts of the model's l3Both, IsCorner, CoversOf and CornersOf. -/
import Derived.Test.YtcnfeijniidclaaDoorCovS
namespace Go.Proofs.YtcnfeijniidclaaDoor.cors
open Go.RowKit P2 words edges ints good adjs fns sets apps neigh balls rets covs
set_option linter.unusedVariables false

theorem retBB {a b c d : Bool} (h : a = c) (h2 : b = d) : Ending.returned (.tuple #[.bool a, .bool b]) = .returned (.tuple #[.bool c, .bool d]) := by rw [h, h2]
theorem coverS_int {n : Nat} {l : List Ed} {xs : List Int} {x y : Int} (hg : P2.Good n l) (hxs : ∀ z ∈ xs, 0 ≤ z ∧ z < (n : Int)) (hx : 0 ≤ x) (hy : 0 ≤ y) :
    coverS n l xs x y = coverB l (codeL xs) x.toNat y.toNat := by
  have := coverS_eq (x := x.toNat) (y := y.toNat) hg hxs
  rwa [show ((x.toNat : Nat) : Int) = x from by omega, show ((y.toNat : Nat) : Int) = y from by omega] at this
theorem leastS_int {n : Nat} {l : List Ed} {xs : List Int} {x : Int} (hg : P2.Good n l) (hxs : ∀ z ∈ xs, 0 ≤ z ∧ z < (n : Int)) (hx : 0 ≤ x) :
    decide (0 ≤ leastS n l xs x) = (coversN l n (codeL xs) x.toNat != 0) := by
  have := any_covers (x := x.toNat) hg hxs
  rw [show ((x.toNat : Nat) : Int) = x from by omega] at this
  rw [leastS_some (fun z hz => (hxs z hz).1), this]


/-- a node of a set is a corner in it -/
def CorOk (s : Int) (l : List Ed) (xs : List Int) (x : Int) : Prop := SetOk s l xs ∧ x ∈ xs
noncomputable def corV (s : Int) (l : List Ed) (xs : List Int) (x : Int) : Bool := okG (CorOk s l xs x) && (coversN l s.toNat (codeL xs) x.toNat != 0)


noncomputable def corL (s : Int) (l : List Ed) (xs : List Int) : List Int := nw (cornerB l s.toNat (codeL xs)) s.toNat
theorem corL_len (s : Int) (l : List Ed) (xs : List Int) : (inG (SetOk s l xs) (corL s l xs)).length ≤ 1048576 := inG_len fun h => by
  have := nw_len (cornerB l s.toNat (codeL xs)) s.toNat
  have := h.1.2.1
  unfold corL; omega

/-- a valid Graph and a node -/
def NodeOk (s : Int) (l : List Ed) (x : Int) : Prop := P2.Good s l ∧ 0 ≤ x ∧ x < s
noncomputable def covL (s : Int) (l : List Ed) (x : Int) : List Int := nw (coverB l (2 ^ s.toNat - 1) x.toNat) s.toNat
theorem covL_len (s x : Int) (l : List Ed) : (inG (NodeOk s l x) (covL s l x)).length ≤ 1048576 := inG_len fun h => by
  have := nw_len (coverB l (2 ^ s.toNat - 1) x.toNat) s.toNat
  have := h.1.2.1
  unfold covL; omega
end Go.Proofs.YtcnfeijniidclaaDoor.cors
