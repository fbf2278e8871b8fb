/- Fronts of sets: plain mathematics. -/
import Derived.Test.YtbbgbepemnmfdaaBagM
import Derived.Test.YtbbgbepemnmfdaaLater
namespace Go.Proofs.Ytbbgbepemnmfdaa.fronts
open Go.RowKit P2 words edges ints fns sets covs reach bags
set_option linter.unusedVariables false

/-- a node of the front of a set -/
def frontB (l : List Ed) (n : Nat) (S : Nat → Bool) (x : Nat) : Bool := S x && (List.range n).any fun y => !S y && adj l x y
theorem frontB_iff {l : List Ed} {n : Nat} {S : Nat → Bool} {x : Nat} : frontB l n S x = true ↔ S x = true ∧ ∃ y, y < n ∧ S y = false ∧ adj l x y = true := by
  unfold frontB
  rw [Bool.and_eq_true, List.any_eq_true]
  simp only [List.mem_range, Bool.and_eq_true, Bool.not_eq_true']
theorem frontB_congr {l : List Ed} {n : Nat} {S T : Nat → Bool} (h : ∀ z, z < n → S z = T z) {x : Nat} (hx : x < n) : frontB l n S x = frontB l n T x := by
  rw [Bool.eq_iff_iff, frontB_iff, frontB_iff, h x hx]
  constructor
  · rintro ⟨h1, y, hy, h2, h3⟩; exact ⟨h1, y, hy, by rw [← h y hy]; exact h2, h3⟩
  · rintro ⟨h1, y, hy, h2, h3⟩; exact ⟨h1, y, hy, by rw [h y hy]; exact h2, h3⟩
/-- as the program reckons it -/
theorem front_bits {l : List Ed} {n : Nat} {S : Nat → Bool} {z : Nat} (hz : z < n) : (arB l n (numOf (fun y => !S y) n) z && S z) = frontB l n S z := by
  rw [Bool.eq_iff_iff, Bool.and_eq_true, arB_iff, frontB_iff]
  constructor
  · rintro ⟨⟨x, hx, hb, he⟩, hs⟩
    rw [numOf_bit, Bool.and_eq_true] at hb
    have hb2 : S x = false := by have := hb.2; simpa using this
    refine ⟨hs, x, hx, hb2, ?_⟩
    rcases he with rfl | he
    · rw [hs] at hb2; cases hb2
    · rw [adj_comm]; exact he
  · rintro ⟨hs, y, hy, hb, he⟩
    refine ⟨⟨y, hy, ?_, .inr (by rw [adj_comm]; exact he)⟩, hs⟩
    rw [numOf_bit]; simp [hy, hb]
/-- the front of a list, found by the first i of its nodes and k nodes for the next one -/
def FrK (n : Nat) (l : List Ed) (xs : List Int) (i k : Nat) (p : Nat → Bool) : Prop :=
  ∀ z, z < n → (p z = true ↔ (∃ j, j < i ∧ xs[j]? = some (z : Int) ∧ ∃ y : Nat, y < n ∧ goneB xs y = false ∧ adj l z y = true) ∨ (xs[i]? = some (z : Int) ∧ ∃ y : Nat, y < k ∧ goneB xs y = false ∧ adj l z y = true))
section
variable {n : Nat} {l : List Ed} {xs : List Int} {i k : Nat} {p : Nat → Bool}
theorem FrK.start (n : Nat) (l : List Ed) (xs : List Int) : FrK n l xs 0 0 (fun _ => false) := fun z _ => by
  constructor
  · intro h; cases h
  · rintro (⟨j, hj, _⟩ | ⟨_, y, hy, _⟩) <;> omega
theorem FrK.next (h : FrK n l xs i n p) : FrK n l xs (i + 1) 0 p := fun z hz => by
  rw [h z hz]
  constructor
  · rintro (⟨j, hj, h1, h2⟩ | ⟨h1, h2⟩)
    · exact .inl ⟨j, by omega, h1, h2⟩
    · exact .inl ⟨i, by omega, h1, h2⟩
  · rintro (⟨j, hj, h1, h2⟩ | ⟨_, y, hy, _⟩)
    · by_cases e : j = i
      · subst e; exact .inr ⟨h1, h2⟩
      · exact .inl ⟨j, by omega, h1, h2⟩
    · omega
theorem FrK.put {x : Nat} (h : FrK n l xs i k p) (hx : xs[i]? = some (x : Int)) (hg : goneB xs k = false) (ha : adj l x k = true) (hk : k < n) : FrK n l xs i (k + 1) (pput p x) := fun z hz => by
  unfold pput
  rw [Bool.or_eq_true, decide_eq_true_iff, h z hz]
  constructor
  · rintro ((h1 | ⟨h1, y, hy, h2⟩) | rfl)
    · exact .inl h1
    · exact .inr ⟨h1, y, by omega, h2⟩
    · exact .inr ⟨hx, k, by omega, hg, ha⟩
  · rintro (h1 | ⟨h1, y, hy, h2⟩)
    · exact .inl (.inl h1)
    · rw [hx] at h1
      have : (x : Int) = (z : Int) := by simpa using h1
      exact .inr (by omega)
theorem FrK.skip {x : Nat} (h : FrK n l xs i k p) (hx : xs[i]? = some (x : Int)) (hn : goneB xs k = true ∨ adj l x k = false) : FrK n l xs i (k + 1) p := fun z hz => by
  rw [h z hz]
  constructor
  · rintro (h1 | ⟨h1, y, hy, h2⟩)
    · exact .inl h1
    · exact .inr ⟨h1, y, by omega, h2⟩
  · rintro (h1 | ⟨h1, y, hy, h2, h3⟩)
    · exact .inl h1
    · refine .inr ⟨h1, y, ?_, h2, h3⟩
      by_cases e : y = k
      · subst e
        rw [hx] at h1
        have e2 : (x : Int) = (z : Int) := by simpa using h1
        rcases hn with hn | hn
        · rw [hn] at h2; cases h2
        · rw [e2, h3] at hn; cases hn
      · omega
theorem FrK.all (h : FrK n l xs xs.length 0 p) : nw p n = nw (frontB l n (goneB xs)) n := reach.nw_congr fun z hz => by
  rw [Bool.eq_iff_iff, h z hz, frontB_iff]
  constructor
  · rintro (⟨j, _, h1, h2⟩ | ⟨_, y, hy, _⟩)
    · exact ⟨decide_eq_true (List.mem_of_getElem? h1), h2⟩
    · omega
  · rintro ⟨h1, h2⟩
    obtain ⟨j, hj⟩ := List.getElem?_of_mem (of_decide_eq_true h1)
    exact .inl ⟨j, (List.getElem?_eq_some_iff.1 hj).1, hj, h2⟩
end
/-- a list as a number -/
theorem code_gone {xs : List Int} {n : Nat} (h : ∀ x ∈ xs, 0 ≤ x ∧ x < (n : Int)) : codeL xs = numOf (goneB xs) n := by
  apply Nat.eq_of_testBit_eq
  intro i
  rw [code_bit (fun x hx => (h x hx).1), numOf_bit]
  unfold goneB
  by_cases hi : i < n
  · simp [hi]
  · have : ¬ (i : Int) ∈ xs := fun hm => by have := h _ hm; omega
    simp [hi, this]
end Go.Proofs.Ytbbgbepemnmfdaa.fronts
