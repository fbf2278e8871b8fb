/- Plain mathematics of products: the tests of pairs. It imports nothing of the program. -/
import Derived.Test.YtbdappkhkngdlaaGraphs
namespace Go.Proofs.Ytbdappkhkngdlaa.P2
open Go

/-- the test of the model: pairs of the numbers a and b, k numbers in each row -/
def prodJ (both : Bool) (l m : List Ed) (k a b : Nat) : Bool :=
  (((a / k == b / k) && adj m (a % k : Nat) (b % k : Nat)) || (adj l (a / k : Nat) (b / k : Nat) && (a % k == b % k))) || ((both && adj l (a / k : Nat) (b / k : Nat)) && adj m (a % k : Nat) (b % k : Nat))
def cartJ (l m : List Ed) (v w x y : Nat) : Bool := ((v == x) && adj m w y) || (adj l v x && (w == y))
def strJ (l m : List Ed) (v w x y : Nat) : Bool := ((v == x) || adj l v x) && ((w == y) || adj m w y)
theorem cart_prod (l m : List Ed) (k a b : Nat) : cartJ l m (a / k) (a % k) (b / k) (b % k) = prodJ false l m k a b := by
  unfold cartJ prodJ
  simp
theorem str_prod (l m : List Ed) {k a b : Nat} (hab : a < b) : strJ l m (a / k) (a % k) (b / k) (b % k) = prodJ true l m k a b := by
  have key : ¬ (a / k = b / k ∧ a % k = b % k) := fun ⟨h1, h2⟩ => by
    have e1 := Nat.div_add_mod a k
    have e2 := Nat.div_add_mod b k
    rw [h1, h2] at e1
    omega
  unfold strJ prodJ
  by_cases h1 : a / k = b / k <;> by_cases h2 : a % k = b % k
  · exact absurd ⟨h1, h2⟩ key
  all_goals
    have d1 : (a / k == b / k) = decide (a / k = b / k) := rfl
    have d2 : (a % k == b % k) = decide (a % k = b % k) := rfl
    rw [d1, d2]
    simp only [h1, h2, decide_true, decide_false]
    cases adj l (a / k : Nat) (b / k : Nat) <;> cases adj m (a % k : Nat) (b % k : Nat) <;> simp_all
/-- both Graphs are valid, and so is the product -/
def ProdOk (s t : Int) (l m : List Ed) : Prop := Good s l ∧ Good t m ∧ s * t ≤ 8
noncomputable def prodL (both : Bool) (s t : Int) (l m : List Ed) : List Ed := gw (s * t).toNat (prodJ both l m t.toNat)
theorem prod_nat {s t : Int} {l m : List Ed} (h : ProdOk s t l m) : ∃ n k : Nat, s = (n : Int) ∧ t = (k : Int) ∧ n ≤ 8 ∧ k ≤ 8 ∧ n * k ≤ 8 := by
  obtain ⟨h1, h2, h3⟩ := h
  obtain ⟨n, rfl⟩ : ∃ n : Nat, s = (n : Int) := ⟨s.toNat, by have := h1.1; omega⟩
  obtain ⟨k, rfl⟩ : ∃ k : Nat, t = (k : Int) := ⟨t.toNat, by have := h2.1; omega⟩
  refine ⟨n, k, rfl, rfl, by have := h1.2.1; omega, by have := h2.2.1; omega, ?_⟩
  exact_mod_cast h3
theorem pair_lt {n k a : Nat} (h : a < n * k) : a / k < n ∧ a % k < k ∧ 0 < k := by
  have hk : 0 < k := by
    rcases Nat.eq_zero_or_pos k with rfl | h'
    · simp at h
    · exact h'
  exact ⟨(Nat.div_lt_iff_lt_mul hk).2 h, Nat.mod_lt _ hk, hk⟩
end Go.Proofs.Ytbdappkhkngdlaa.P2
