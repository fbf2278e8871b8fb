/- The contract of the model's l5Later. -/
import Derived.Handy
import Derived.Test.YtfphpilabfpmjaaBagM
import Derived.Test.YtfphpilabfpmjaaBall
import Derived.Test.YtfphpilabfpmjaaMid
import Derived.Maps.AppendAt
import Derived.StillTailTactics
namespace Go.Proofs.Ytfphpilabfpmjaa.bags
open Go.RowKit P2 words edges ints good adjs fns sets apps covs neigh balls reach
set_option linter.unusedVariables false

theorem apart_or {u v : Value} (h : ∀ k, u.ownBlock = some k → v.ownBlock ≠ some k) : v.ownBlock = none ∨ v.ownBlock ≠ u.ownBlock := by
  cases hv : v.ownBlock with
  | none => exact .inl rfl
  | some q => exact .inr fun e => h q e.symm hv
theorem apart_grow {u u' v : Value} {H : Nat} (h : ∀ k, u.ownBlock = some k → v.ownBlock ≠ some k) (hl : u'.ownBlock = u.ownBlock ∨ u'.ownBlock = some H) (hv : ∀ k, v.ownBlock = some k → k < H) : ∀ k, u'.ownBlock = some k → v.ownBlock ≠ some k := fun k hk hk' => by
  rcases hl with e | e
  · exact h k (e.symm.trans hk) hk'
  · rw [e] at hk
    cases hk
    exact Nat.lt_irrefl _ (hv _ hk')
def nodesL (S : List Nat) : List Int := S.map fun x : Nat => (x : Int)
theorem mem_nodesL {S : List Nat} {y : Nat} : (y : Int) ∈ nodesL S ↔ y ∈ S := by
  unfold nodesL
  rw [List.mem_map]
  constructor
  · rintro ⟨z, hz, e⟩
    obtain rfl : z = y := by omega
    exact hz
  · intro h; exact ⟨y, h, rfl⟩
theorem nodesL_len (S : List Nat) : (nodesL S).length = S.length := by simp [nodesL]
theorem nodesL_at {S : List Nat} {k z : Nat} (h : S[k]? = some z) : (nodesL S)[k]? = some (z : Int) := by simp [nodesL, h]
theorem nodesL_app (S : List Nat) (y : Nat) : nodesL (S ++ [y]) = nodesL S ++ [(y : Int)] := by simp [nodesL]
def goneB (gl : List Int) (z : Nat) : Bool := decide ((z : Int) ∈ gl)
theorem nw_none (n : Nat) : nw (fun _ => false) n = [] := by
  induction n with
  | zero => rfl
  | succ n ih => rw [nw_no rfl, ih]

end Go.Proofs.Ytfphpilabfpmjaa.bags
