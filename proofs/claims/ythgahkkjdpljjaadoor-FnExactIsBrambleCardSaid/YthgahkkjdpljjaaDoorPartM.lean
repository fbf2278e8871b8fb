/- The parts of a set of nodes, as the model collects them. -/
import Derived.Test.YthgahkkjdpljjaaDoorReachM
namespace Go.Proofs.YthgahkkjdpljjaaDoor.reach
open Go.RowKit P2 words edges ints fns sets covs
set_option linter.unusedVariables false

theorem Rch.trans {n : Nat} {J : Nat → Nat → Bool} {q : Nat → Bool} {x y z : Nat} (h : Rch n J q x y) (k : Rch n J q y z) : Rch n J q x z := by
  induction k with
  | base => exact h
  | step _ h1 h2 h3 ih => exact .step ih h1 h2 h3
noncomputable def leastB (n : Nat) (J : Nat → Nat → Bool) (q : Nat → Bool) (y : Nat) : Bool := @decide (∀ z, z < y → q z = true → ¬ Rch n J q z y) (Classical.propDecidable _)
theorem leastB_iff {n : Nat} {J : Nat → Nat → Bool} {q : Nat → Bool} {y : Nat} : leastB n J q y = true ↔ ∀ z, z < y → q z = true → ¬ Rch n J q z y := by
  unfold leastB; exact @decide_eq_true_iff _ (Classical.propDecidable _)
noncomputable def partsT (n : Nat) (J : Nat → Nat → Bool) (q : Nat → Bool) (i : Nat) : List (List Int) := (((nw q n).take i).filter fun y => leastB n J q y.toNat).map fun y => nw (reachB n J q y.toNat) n
noncomputable def partsL (n : Nat) (J : Nat → Nat → Bool) (q : Nat → Bool) : List (List Int) := partsT n J q (nw q n).length
section
variable {n : Nat} {J : Nat → Nat → Bool} {q : Nat → Bool} {i y : Nat} {p : Nat → Bool}
theorem partsT_zero : partsT n J q 0 = [] := rfl
theorem partsT_yes (hy : (nw q n)[i]? = some (y : Int)) (h : leastB n J q y = true) : partsT n J q (i + 1) = partsT n J q i ++ [nw (reachB n J q y) n] := by
  unfold partsT
  rw [List.take_add_one, hy, List.filter_append, List.map_append]
  simp [h]
theorem partsT_no (hy : (nw q n)[i]? = some (y : Int)) (h : leastB n J q y = false) : partsT n J q (i + 1) = partsT n J q i := by
  unfold partsT
  rw [List.take_add_one, hy, List.filter_append, List.map_append]
  simp [h]
theorem partsT_len (i : Nat) : (partsT n J q i).length ≤ n := by
  unfold partsT
  rw [List.length_map]
  have h1 := List.length_filter_le (fun y : Int => leastB n J q y.toNat) ((nw q n).take i)
  have h2 := nw_len q n
  rw [List.length_take] at h1
  omega
theorem partsT_row {r : List Int} (h : r ∈ partsT n J q i) : r.length ≤ n := by
  unfold partsT at h
  obtain ⟨y, _, rfl⟩ := List.mem_map.1 h
  exact nw_len _ _
/-- what has been seen -/
def SeenIs (n : Nat) (J : Nat → Nat → Bool) (q : Nat → Bool) (i : Nat) (p : Nat → Bool) : Prop := ∀ z, z < n → (p z = true ↔ ∃ j y : Nat, j < i ∧ (nw q n)[j]? = some (y : Int) ∧ Rch n J q y z)
theorem SeenIs.zero : SeenIs n J q 0 (fun _ => false) := fun z _ => ⟨fun h => by simp at h, fun ⟨j, y, hj, _⟩ => by omega⟩
theorem SeenIs.least (h : SeenIs n J q i p) (hy : (nw q n)[i]? = some (y : Int)) (hyn : y < n) : leastB n J q y = !p y := by
  cases hp : p y with
  | true =>
    obtain ⟨j, z, hj, hz, hr⟩ := (h y hyn).1 hp
    have hlt := (nw_asc q n).at_ hj hz hy
    obtain ⟨z', hz', hzn, hqz⟩ := nw_at hz
    have h9 : z = z' := by omega
    subst h9
    cases hl : leastB n J q y with
    | false => rfl
    | true => exact absurd hr (leastB_iff.1 hl z (by omega) hqz)
  | false =>
    refine leastB_iff.2 fun z hz hqz hr => ?_
    obtain ⟨j, hj, hjz⟩ := at_nw hqz (by omega : z < n)
    have hji : j < i := by
      apply Classical.byContradiction
      intro hh
      rcases Nat.lt_or_ge i j with h1 | h1
      · have := (nw_asc q n).at_ h1 hy hjz; omega
      · have h2 : j = i := by omega
        subst h2
        rw [hy] at hjz
        have h9 : (y : Int) = (z : Int) := by simpa using hjz
        omega
    have := (h y hyn).2 ⟨j, z, hji, hjz, hr⟩
    rw [hp] at this; cases this
theorem SeenIs.skip (h : SeenIs n J q i p) (hy : (nw q n)[i]? = some (y : Int)) (hyn : y < n) (hp : p y = true) : SeenIs n J q (i + 1) p := fun z hz => by
  rw [h z hz]
  constructor
  · rintro ⟨j, a, hj, ha, hr⟩; exact ⟨j, a, by omega, ha, hr⟩
  · rintro ⟨j, a, hj, ha, hr⟩
    by_cases e : j = i
    · subst e
      rw [hy] at ha
      have h9 : (y : Int) = (a : Int) := by simpa using ha
      have h8 : y = a := by omega
      subst h8
      obtain ⟨j', b, hj', hb, hr'⟩ := (h y hyn).1 hp
      exact ⟨j', b, hj', hb, hr'.trans hr⟩
    · exact ⟨j, a, by omega, ha, hr⟩
theorem SeenIs.take {p' : Nat → Bool} (h : SeenIs n J q i p) (hy : (nw q n)[i]? = some (y : Int)) (hp : ∀ z, z < n → (p' z = true ↔ p z = true ∨ reachB n J q y z = true)) : SeenIs n J q (i + 1) p' := fun z hz => by
  rw [hp z hz, h z hz, reachB_iff]
  constructor
  · rintro (⟨j, a, hj, ha, hr⟩ | hr)
    · exact ⟨j, a, by omega, ha, hr⟩
    · exact ⟨i, y, by omega, hy, hr⟩
  · rintro ⟨j, a, hj, ha, hr⟩
    by_cases e : j = i
    · subst e
      rw [hy] at ha
      have h9 : (y : Int) = (a : Int) := by simpa using ha
      have h8 : y = a := by omega
      subst h8
      exact .inr hr
    · exact .inl ⟨j, a, by omega, ha, hr⟩
/-- so many nodes of a part are seen, too -/
def Got (n : Nat) (p r : Nat → Bool) (k : Nat) (p' : Nat → Bool) : Prop := ∀ z, z < n → (p' z = true ↔ p z = true ∨ ∃ j, j < k ∧ (nw r n)[j]? = some (z : Int))
theorem Got.zero (p r : Nat → Bool) : Got n p r 0 p := fun z _ => ⟨.inl, fun h => h.elim id (fun ⟨j, hj, _⟩ => by omega)⟩
theorem Got.succ {r p' : Nat → Bool} {k a : Nat} (h : Got n p r k p') (ha : (nw r n)[k]? = some (a : Int)) : Got n p r (k + 1) (pput p' a) := fun z hz => by
  unfold pput
  rw [Bool.or_eq_true, h z hz, decide_eq_true_iff]
  constructor
  · rintro ((h1 | ⟨j, hj, hjz⟩) | rfl)
    · exact .inl h1
    · exact .inr ⟨j, by omega, hjz⟩
    · exact .inr ⟨k, by omega, ha⟩
  · rintro (h1 | ⟨j, hj, hjz⟩)
    · exact .inl (.inl h1)
    · by_cases e : j = k
      · subst e
        rw [ha] at hjz
        have h9 : (a : Int) = (z : Int) := by simpa using hjz
        exact .inr (by omega)
      · exact .inl (.inr ⟨j, by omega, hjz⟩)
theorem Got.all {r p' : Nat → Bool} (h : Got n p r (nw r n).length p') : ∀ z, z < n → (p' z = true ↔ p z = true ∨ r z = true) := fun z hz => by
  rw [h z hz]
  constructor
  · rintro (h1 | ⟨j, _, hj⟩)
    · exact .inl h1
    · obtain ⟨z', e, _, hr⟩ := nw_at hj
      have : z = z' := by omega
      subst this
      exact .inr hr
  · rintro (h1 | h1)
    · exact .inl h1
    · obtain ⟨j, hj, hjz⟩ := at_nw h1 hz
      exact .inr ⟨j, hj, hjz⟩
end
end Go.Proofs.YthgahkkjdpljjaaDoor.reach
