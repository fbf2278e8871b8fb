/- The contract of the closure of the program's cheapestOrder: does a node fit. -/
import Derived.Handy
import Derived.Test.YtbbgbepemnmfdaaTreeI
import Derived.Test.YtbbgbepemnmfdaaLater
import Derived.Deep.QuietTactic
import Derived.Deep.RegionHeld3
import Derived.Deep.DeepCutAuto
namespace Go.Proofs.Ytbbgbepemnmfdaa.costs
open Go.RowKit P2 words edges ints good adjs fns sets rets covs reach bags bitsI fronts
set_option linter.unusedVariables false
set_option linter.unusedSimpArgs false

theorem max_if (a b : Int) : (if a < b then b else a) = max a b := by split <;> omega
theorem row0 {w : World} {B c : Nat} {g o : Nat} {F : List Int} {z : Int} (h : w.ownsRow B 3 1 (.slice (some ⟨g, o, none⟩) F.length c) F.length (cellsI F)) (hx : F[0]? = some z) : w.cell? ⟨g, o, none⟩ = some (.int .i64 z) := by
  obtain ⟨_, _, hf, hcc⟩ := (show Ints w (.slice (some ⟨g, o, none⟩) F.length c) F from Reads.of_own h).form
  cases hf
  obtain ⟨_, _, e, q⟩ := hcc 0 _ hx
  cases e
  exact q
def Apart' (u v : Value) : Prop := ∀ k, u.ownBlock = some k → v.ownBlock ≠ some k
def fitB (fit : Nat → Nat → Bool) (g : Nat) : Nat → Bool := fun x => !g.testBit x && fit g x
/-- the first order, k nodes long: the set of its nodes, and they -/
def ordN (n : Nat) (fit : Nat → Nat → Bool) : Nat → Option (Nat × List Int)
  | 0 => some (0, [])
  | k + 1 => (ordN n fit k).bind fun s => ((nw (fitB fit s.1) n)[0]?).map fun x => (s.1 ||| 2 ^ x.toNat, s.2 ++ [x])
theorem ordN_none {n : Nat} {fit : Nat → Nat → Bool} {k : Nat} (h : ordN n fit k = none) : ∀ j, ordN n fit (k + j) = none
  | 0 => h
  | j + 1 => by
    have := ordN_none h j
    show ordN n fit (k + j + 1) = none
    rw [ordN, this]; rfl
theorem ordN_ok {n : Nat} {fit : Nat → Nat → Bool} : ∀ {k : Nat} {g : Nat} {L : List Int}, ordN n fit k = some (g, L) → g < 2 ^ n ∧ L.length = k
  | 0, g, L, h => by
    cases h
    exact ⟨Nat.two_pow_pos n, rfl⟩
  | k + 1, g, L, h => by
    rw [ordN] at h
    cases hk : ordN n fit k with
    | none => rw [hk] at h; cases h
    | some s =>
      obtain ⟨g0, L0⟩ := s
      rw [hk] at h
      simp only [Option.bind_some] at h
      cases hx : (nw (fitB fit g0) n)[0]? with
      | none => rw [hx] at h; cases h
      | some x =>
        rw [hx] at h
        cases h
        obtain ⟨z, hz, h2⟩ := mem_nw.1 (List.mem_of_getElem? hx)
        have h3 := ordN_ok hk
        refine ⟨?_, by simp [h3.2]⟩
        obtain ⟨_, rfl⟩ := h2
        exact or_lt h3.1 (by simpa using hz)
noncomputable def ordL (n : Nat) (fit : Nat → Nat → Bool) : List Int := ((ordN n fit n).map (·.2)).getD []
end Go.Proofs.Ytbbgbepemnmfdaa.costs
