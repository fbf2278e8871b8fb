/- All sets in their order, made by insertion: mathematics. -/
import Derived.Test.YtfphpilabfpmjaaForcN
namespace Go.Proofs.Ytfphpilabfpmjaa.forc
open Go.RowKit P2 words edges ints good adjs fns sets rets covs bags bitsI ups func
set_option linter.unusedVariables false

/-- the sets that are put in: fewer nodes than many, or as many and a code below code -/
def setP (many code c : Nat) : Bool := decide (onesN c < many) || (decide (onesN c = many) && decide (c < code))
theorem setP_iff {many code c : Nat} : setP many code c = true ↔ onesN c < many ∨ (onesN c = many ∧ c < code) := by
  unfold setP
  rw [Bool.or_eq_true, Bool.and_eq_true, decide_eq_true_eq, decide_eq_true_eq, decide_eq_true_eq]
def setT (n many code : Nat) : List Nat := (setsN n n).filter (setP many code)
theorem setT_congr {n m c m' c' : Nat} (hn : n ≤ 8) (h : ∀ x, x < 2 ^ n → (setP m c x = true ↔ setP m' c' x = true)) : setT n m c = setT n m' c' :=
  List.filter_congr fun x hx => by rw [Bool.eq_iff_iff]; exact h x ((mem_sets hn hn).1 hx).1
theorem setT_start (n : Nat) : setT n 0 0 = [] := by
  unfold setT
  rw [List.filter_eq_nil_iff]
  intro x _ h
  rcases setP_iff.1 h with h | ⟨_, h⟩ <;> omega
theorem setT_skip {n many code : Nat} (hn : n ≤ 8) (h : onesN code ≠ many) : setT n many (code + 1) = setT n many code :=
  setT_congr hn fun x _ => by
    rw [setP_iff, setP_iff]
    constructor
    · rintro (h1 | ⟨h1, h2⟩)
      · exact .inl h1
      · by_cases e : x = code
        · subst e; exact absurd h1 h
        · exact .inr ⟨h1, by omega⟩
    · rintro (h1 | ⟨h1, h2⟩)
      · exact .inl h1
      · exact .inr ⟨h1, by omega⟩
theorem setT_wrap {n many : Nat} (hn : n ≤ 8) : setT n many (2 ^ n) = setT n (many + 1) 0 :=
  setT_congr hn fun x hx => by
    rw [setP_iff, setP_iff]
    constructor
    · rintro (h1 | ⟨h1, h2⟩) <;> exact .inl (by omega)
    · rintro (h1 | ⟨h1, h2⟩)
      · by_cases e : onesN x = many
        · exact .inr ⟨e, hx⟩
        · exact .inl (by omega)
      · omega
theorem setT_end {n : Nat} (hn : n ≤ 8) : setT n (n + 1) 0 = setsN n n := by
  unfold setT
  rw [List.filter_eq_self]
  intro x hx
  exact setP_iff.2 (.inl (by have := ((mem_sets hn hn).1 hx).2; omega))
theorem setT_len {n : Nat} (hn : n ≤ 8) (many code : Nat) : (setT n many code).length ≤ 256 := by
  have h1 := List.length_filter_le (setP many code) (setsN n n)
  have h2 := sets_len hn hn
  unfold setT; omega
theorem setT_mem {n many code c : Nat} (hn : n ≤ 8) (h : c ∈ setT n many code) : c < 2 ^ n ∧ onesN c ≤ many := by
  have h1 := List.mem_filter.1 h
  refine ⟨((mem_sets hn hn).1 h1.1).1, ?_⟩
  rcases setP_iff.1 h1.2 with h | ⟨h, _⟩ <;> omega
theorem setT_at {n many code : Nat} (hn : n ≤ 8) (hc : code < 2 ^ n) (ho : onesN code = many) (hm : many ≤ n) : ∃ k, k ≤ (setT n many code).length ∧ setT n many (code + 1) = (setT n many code).take k ++ code :: (setT n many code).drop k ∧
    (∀ j c, k ≤ j → (setT n many code)[j]? = some c → onesN c = many ∧ lexI (ndN code) (ndN c) = true) ∧ (∀ j c, j < k → (setT n many code)[j]? = some c → ¬ (onesN c = many ∧ lexI (ndN code) (ndN c) = true)) := by
  have hp := pow_le hn
  have hmem : code ∈ setsN n n := (mem_sets hn hn).2 ⟨hc, by omega⟩
  have hpw := down_pair (sets_parts hn hn).2.2.1
  have hlt : ∀ x ∈ setsN n n, x < 256 := fun x hx => Nat.lt_of_lt_of_le ((mem_sets hn hn).1 hx).1 hp
  obtain ⟨s, t, hL⟩ := List.append_of_mem hmem
  unfold setT
  rw [hL] at hpw hlt ⊢
  rw [List.pairwise_append, List.pairwise_cons] at hpw
  obtain ⟨-, ⟨ht, -⟩, hs⟩ := hpw
  have hsf : ∀ x ∈ s, rkMin code < rkMin x := fun x hx => hs x hx code (List.mem_cons_self ..)
  have e1 : setP many code code = false := by
    rw [Bool.eq_false_iff]; intro h
    rcases setP_iff.1 h with h | ⟨_, h⟩ <;> omega
  have e2 : setP many (code + 1) code = true := setP_iff.2 (.inr ⟨ho, by omega⟩)
  have e3 : ∀ x, rkMin x ≠ rkMin code → setP many (code + 1) x = setP many code x := fun x hx => by
    rw [Bool.eq_iff_iff, setP_iff, setP_iff]
    have : x ≠ code := fun e => hx (by rw [e])
    constructor
    · rintro (h1 | ⟨h1, h2⟩)
      · exact .inl h1
      · exact .inr ⟨h1, by omega⟩
    · rintro (h1 | ⟨h1, h2⟩)
      · exact .inl h1
      · exact .inr ⟨h1, by omega⟩
  have e4 : s.filter (setP many (code + 1)) = s.filter (setP many code) := List.filter_congr fun x hx => e3 x (by have := hsf x hx; omega)
  have e5 : t.filter (setP many (code + 1)) = t.filter (setP many code) := List.filter_congr fun x hx => e3 x (by have := ht x hx; omega)
  rw [List.filter_append, List.filter_append, List.filter_cons, List.filter_cons, e1, e2, e4, e5, if_pos rfl, if_neg (by decide)]
  refine ⟨(s.filter (setP many code)).length, by rw [List.length_append]; omega, by rw [List.take_left, List.drop_left], ?_, ?_⟩
  · intro j c hj hjc
    rw [List.getElem?_append_right hj] at hjc
    have hcm := List.mem_filter.1 (List.mem_of_getElem? hjc)
    have h1 := better_min (a := code) (b := c) (by omega) (hlt c (by rw [List.mem_append]; exact .inr (List.mem_cons_of_mem _ hcm.1)))
    rw [decide_eq_true (ht c hcm.1), Bool.or_eq_true, Bool.and_eq_true, decide_eq_true_eq, decide_eq_true_eq] at h1
    have h2 := setP_iff.1 hcm.2
    rcases h1 with h1 | ⟨h1, h3⟩
    · rcases h2 with h2 | ⟨h2, _⟩ <;> omega
    · exact ⟨by omega, h3⟩
  · rintro j c hj hjc ⟨h1, h2⟩
    rw [List.getElem?_append_left hj] at hjc
    have hcm := List.mem_filter.1 (List.mem_of_getElem? hjc)
    have h3 := better_min (a := code) (b := c) (by omega) (hlt c (by rw [List.mem_append]; exact .inl hcm.1))
    rw [h2, decide_eq_true (show onesN code = onesN c by omega), Bool.true_and, Bool.or_true] at h3
    have h4 := of_decide_eq_true h3.symm
    have := hsf c hcm.1
    omega
end Go.Proofs.Ytfphpilabfpmjaa.forc
