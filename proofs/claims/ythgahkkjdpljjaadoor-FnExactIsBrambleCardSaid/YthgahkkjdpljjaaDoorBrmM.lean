/- Brambles: mathematics. -/
import Derived.Test.YthgahkkjdpljjaaDoorJoiM
import Derived.Test.YthgahkkjdpljjaaDoorUpsB
namespace Go.Proofs.YthgahkkjdpljjaaDoor.joins
open Go.RowKit P2 words edges ints good adjs fns sets rets covs bags bitsI ups
set_option linter.unusedVariables false

/-- a list is a joined set -/
def BrS (n : Nat) (l : List Ed) (xs : List Int) : Prop := SetOk (n : Int) l xs ∧ JnP n l (codeL xs)
def BrK (n : Nat) (l : List Ed) (q : List (List Int)) (k : Nat) : Prop := ∀ i xs, i < k → q[i]? = some xs → BrS n l xs
theorem BrK.zero (n : Nat) (l : List Ed) (q : List (List Int)) : BrK n l q 0 := fun i xs h => by omega
theorem BrK.next {n : Nat} {l : List Ed} {q : List (List Int)} {k : Nat} {xs : List Int} (h : BrK n l q k) (hx : q[k]? = some xs) (hs : BrS n l xs) : BrK n l q (k + 1) := fun i ys hi hy => by
  by_cases e : i = k
  · subst e; rw [hx] at hy; cases hy; exact hs
  · exact h i ys (by omega) hy
/-- the different sets among the first k lists -/
def ddK (q : List (List Int)) : Nat → List Nat
  | 0 => []
  | k + 1 => match q[k]? with
    | some xs => if codeL xs ∈ ddK q k then ddK q k else ddK q k ++ [codeL xs]
    | none => ddK q k
def ddN (q : List (List Int)) : List Nat := ddK q q.length
theorem ddK_yes {q : List (List Int)} {k : Nat} {xs : List Int} (h : q[k]? = some xs) (hm : codeL xs ∈ ddK q k) : ddK q (k + 1) = ddK q k := by
  rw [ddK, h]; simp only; rw [if_pos hm]
theorem ddK_no {q : List (List Int)} {k : Nat} {xs : List Int} (h : q[k]? = some xs) (hm : ¬ codeL xs ∈ ddK q k) : ddK q (k + 1) = ddK q k ++ [codeL xs] := by
  rw [ddK, h]; simp only; rw [if_neg hm]
theorem ddK_len (q : List (List Int)) : ∀ k, (ddK q k).length ≤ k
  | 0 => Nat.le_refl _
  | k + 1 => by
    have ih := ddK_len q k
    cases h : q[k]? with
    | none => rw [ddK, h]; simp only; omega
    | some xs =>
      by_cases hm : codeL xs ∈ ddK q k
      · rw [ddK_yes h hm]; omega
      · rw [ddK_no h hm, List.length_append]; simp; omega
theorem ddK_mem {q : List (List Int)} {c : Nat} : ∀ {k : Nat}, k ≤ q.length → (c ∈ ddK q k ↔ ∃ i xs, i < k ∧ q[i]? = some xs ∧ c = codeL xs)
  | 0, _ => ⟨fun h => by simp [ddK] at h, fun ⟨i, xs, h, _⟩ => by omega⟩
  | k + 1, hk => by
    obtain ⟨xs, hx⟩ : ∃ xs, q[k]? = some xs := ⟨_, List.getElem?_eq_getElem (by omega)⟩
    have ih := ddK_mem (q := q) (c := c) (k := k) (by omega)
    have key : c ∈ ddK q (k + 1) ↔ c ∈ ddK q k ∨ c = codeL xs := by
      by_cases hm : codeL xs ∈ ddK q k
      · rw [ddK_yes hx hm]
        exact ⟨.inl, fun h => h.elim id (fun h => by rw [h]; exact hm)⟩
      · rw [ddK_no hx hm, List.mem_append, List.mem_singleton]
    rw [key, ih]
    constructor
    · rintro (⟨i, ys, hi, hy, e⟩ | e)
      · exact ⟨i, ys, by omega, hy, e⟩
      · exact ⟨k, xs, by omega, hx, e⟩
    · rintro ⟨i, ys, hi, hy, e⟩
      by_cases h9 : i = k
      · subst h9; rw [hx] at hy; cases hy; exact .inr e
      · exact .inl ⟨i, ys, by omega, hy, e⟩
theorem dd_mem {q : List (List Int)} {c : Nat} : c ∈ ddN q ↔ ∃ xs ∈ q, c = codeL xs := by
  unfold ddN
  rw [ddK_mem (Nat.le_refl _)]
  constructor
  · rintro ⟨i, xs, _, hx, e⟩; exact ⟨xs, List.mem_of_getElem? hx, e⟩
  · rintro ⟨xs, hx, e⟩
    obtain ⟨i, hi⟩ := List.getElem?_of_mem hx
    exact ⟨i, xs, (List.getElem?_eq_some_iff.1 hi).1, hi, e⟩
theorem BrK.code {n : Nat} {l : List Ed} {q : List (List Int)} {k : Nat} (h : BrK n l q k) (hk : k ≤ q.length) : ∀ c ∈ ddK q k, c < 2 ^ n ∧ JnP n l c := fun c hc => by
  obtain ⟨i, xs, hi, hx, rfl⟩ := (ddK_mem hk).1 hc
  have := h i xs hi hx
  exact ⟨code_lt (m := n) this.1.2.1, this.2⟩
/-- two sets touch -/
theorem meetB_iff {n a b : Nat} {l : List Ed} (hb : b < 2 ^ n) : meetB l n a b = true ↔ ∃ x z, x < n ∧ z < n ∧ a.testBit x = true ∧ b.testBit z = true ∧ (x = z ∨ adj l (x : Int) (z : Int) = true) := by
  unfold meetB
  rw [Bool.not_eq_true', beq_eq_false_iff_ne]
  constructor
  · intro h
    apply Classical.byContradiction
    intro hh
    refine h (Nat.eq_of_testBit_eq fun i => ?_)
    rw [Nat.testBit_and, Nat.zero_testBit]
    unfold arN
    rw [numOf_bit]
    cases h1 : b.testBit i with
    | false => simp
    | true =>
      have hi : i < n := by
        apply Classical.byContradiction
        intro h9
        rw [Nat.testBit_lt_two_pow (Nat.lt_of_lt_of_le hb (Nat.pow_le_pow_right (by decide) (by omega)))] at h1
        cases h1
      cases h2 : arB l n a i with
      | false => simp
      | true =>
        obtain ⟨x, hx, hbx, e⟩ := arB_iff.1 h2
        exact absurd ⟨x, i, hx, hi, hbx, h1, e⟩ hh
  · rintro ⟨x, z, hx, hz, h1, h2, e⟩ h0
    have h3 : (arN l n a &&& b).testBit z = true := by
      rw [Nat.testBit_and, h2]
      unfold arN
      rw [numOf_bit, arB_iff.2 ⟨x, hx, h1, e⟩]
      simp [hz]
    rw [h0] at h3
    simp at h3
theorem meet_symm {n a b : Nat} {l : List Ed} (ha : a < 2 ^ n) (hb : b < 2 ^ n) (h : meetB l n a b = true) : meetB l n b a = true := by
  obtain ⟨x, z, hx, hz, h1, h2, e⟩ := (meetB_iff hb).1 h
  exact (meetB_iff ha).2 ⟨z, x, hz, hx, h2, h1, e.elim (fun h => .inl h.symm) (fun h => .inr (by rw [adj_comm]; exact h))⟩
theorem bit_some {n a : Nat} (ha : a < 2 ^ n) (h0 : a ≠ 0) : ∃ x, x < n ∧ a.testBit x = true := by
  apply Classical.byContradiction
  intro hh
  refine h0 (Nat.eq_of_testBit_eq fun i => ?_)
  rw [Nat.zero_testBit]
  cases h : a.testBit i with
  | false => rfl
  | true =>
    refine absurd ⟨i, ?_, h⟩ hh
    apply Classical.byContradiction
    intro h9
    rw [Nat.testBit_lt_two_pow (Nat.lt_of_lt_of_le ha (Nat.pow_le_pow_right (by decide) (by omega)))] at h
    cases h
theorem meet_self {n a : Nat} {l : List Ed} (ha : a < 2 ^ n) (h0 : a ≠ 0) : meetB l n a a = true := by
  obtain ⟨x, hx, hb⟩ := bit_some ha h0
  exact (meetB_iff ha).2 ⟨x, x, hx, hx, hb, hb, .inl rfl⟩
theorem tchB_iff {n : Nat} {l : List Ed} {cs : List Nat} (hc : ∀ c ∈ cs, c < 2 ^ n ∧ c ≠ 0) : tchB l n cs = true ↔ ∀ a ∈ cs, ∀ b ∈ cs, meetB l n a b = true := by
  unfold tchB tchK
  rw [List.all_eq_true]
  constructor
  · intro h a ha b hb
    obtain ⟨i, hi⟩ := List.getElem?_of_mem ha
    obtain ⟨j, hj⟩ := List.getElem?_of_mem hb
    have hil := (List.getElem?_eq_some_iff.1 hi).1
    have hjl := (List.getElem?_eq_some_iff.1 hj).1
    have look : ∀ i j a b, cs[i]? = some a → cs[j]? = some b → i < cs.length → j < i → meetB l n a b = true := fun i j a b hi hj hil hji => by
      have h1 := h i (List.mem_range.2 hil)
      simp only [hi] at h1
      rw [List.all_eq_true] at h1
      exact h1 b (List.mem_of_getElem? (by rw [List.getElem?_take_of_lt hji]; exact hj))
    rcases Nat.lt_trichotomy i j with h1 | h1 | h1
    · exact meet_symm (hc b hb).1 (hc a ha).1 (look j i b a hj hi hjl h1)
    · subst h1
      rw [hi] at hj; cases hj
      exact meet_self (hc a ha).1 (hc a ha).2
    · exact look i j a b hi hj hil h1
  · intro h i hi
    obtain ⟨a, ha⟩ : ∃ a, cs[i]? = some a := ⟨_, List.getElem?_eq_getElem (List.mem_range.1 hi)⟩
    simp only [ha]
    rw [List.all_eq_true]
    exact fun b hb => h a (List.mem_of_getElem? ha) b (List.mem_of_mem_take hb)
/-- lists are a bramble -/
def BrP (n : Nat) (l : List Ed) (q : List (List Int)) : Prop := (q ≠ [] ∧ BrK n l q q.length) ∧ tchB l n (ddN q) = true
def BramP (s : Int) (l : List Ed) (q : List (List Int)) : Prop := P2.Good s l ∧ BrP s.toNat l q
theorem bramP_is {n : Nat} {l : List Ed} {q : List (List Int)} (hg : P2.Good (n : Int) l) : BramP (n : Int) l q ↔ BrP n l q := by
  unfold BramP
  rw [Int.toNat_natCast]
  exact ⟨fun h => h.2, fun h => ⟨hg, h⟩⟩
theorem brP_no {n k : Nat} {l : List Ed} {q : List (List Int)} {xs : List Int} (hx : q[k]? = some xs) (h : ¬ BrS n l xs) : ¬ BrP n l q := fun hp =>
  h (hp.1.2 k xs (List.getElem?_eq_some_iff.1 hx).1 hx)
/-- the lists up to the k-th one touch each other -/
def TcK (n : Nat) (l : List Ed) (q : List (List Int)) (k : Nat) : Prop := ∀ i j xs ys, i < k → j < i → q[i]? = some xs → q[j]? = some ys → meetB l n (codeL ys) (codeL xs) = true
theorem brP_iff {n : Nat} {l : List Ed} {q : List (List Int)} : BrP n l q ↔ (q ≠ [] ∧ BrK n l q q.length) ∧ TcK n l q q.length := by
  unfold BrP
  constructor
  · rintro ⟨h, ht⟩
    refine ⟨h, fun i j xs ys hi hj hx hy => ?_⟩
    have hc := h.2.code (Nat.le_refl _)
    refine (tchB_iff (fun c hm => ⟨(hc c hm).1, (hc c hm).2.1⟩)).1 ht _ (dd_mem.2 ⟨ys, List.mem_of_getElem? hy, rfl⟩) _ (dd_mem.2 ⟨xs, List.mem_of_getElem? hx, rfl⟩)
  · rintro ⟨h, ht⟩
    have hc := h.2.code (Nat.le_refl _)
    refine ⟨h, (tchB_iff (fun c hm => ⟨(hc c hm).1, (hc c hm).2.1⟩)).2 fun a ha b hb => ?_⟩
    have hab := (hc a ha)
    have hbb := (hc b hb)
    obtain ⟨xs, hx, rfl⟩ := dd_mem.1 ha
    obtain ⟨ys, hy, rfl⟩ := dd_mem.1 hb
    obtain ⟨i, hi⟩ := List.getElem?_of_mem hx
    obtain ⟨j, hj⟩ := List.getElem?_of_mem hy
    have hil := (List.getElem?_eq_some_iff.1 hi).1
    have hjl := (List.getElem?_eq_some_iff.1 hj).1
    rcases Nat.lt_trichotomy i j with h1 | h1 | h1
    · exact ht j i ys xs hjl h1 hj hi
    · subst h1
      rw [hi] at hj; cases hj
      exact meet_self hab.1 hab.2.1
    · exact meet_symm hbb.1 hab.1 (ht i j xs ys hil h1 hi hj)
/-- a set has a node of each list -/
def covB (q : List (List Int)) (c : Nat) : Bool := (ddN q).all fun d => !(d &&& c == 0)
theorem covB_any (q : List (List Int)) (c : Nat) : (!((ddN q).any (fun d => d &&& c == 0))) = covB q c := by
  unfold covB
  rw [← List.not_any_eq_all_not]
theorem cov_full {n : Nat} {l : List Ed} {q : List (List Int)} (h : BrP n l q) : covB q (2 ^ n - 1) = true := by
  unfold covB
  rw [List.all_eq_true]
  intro d hd
  have h1 := h.1.2.code (Nat.le_refl _) d hd
  rw [Bool.not_eq_true', beq_eq_false_iff_ne, Nat.and_two_pow_sub_one_eq_mod, Nat.mod_eq_of_lt h1.1]
  exact h1.2.1
noncomputable def bcN (n : Nat) (q : List (List Int)) : Nat := bestC (covB q) rkMin n
theorem covB_iff {q : List (List Int)} {c : Nat} : covB q c = true ↔ ∀ xs ∈ q, codeL xs &&& c ≠ 0 := by
  unfold covB
  rw [List.all_eq_true]
  constructor
  · intro h xs hx
    have := h _ (dd_mem.2 ⟨xs, hx, rfl⟩)
    rw [Bool.not_eq_true', beq_eq_false_iff_ne] at this
    exact this
  · intro h d hd
    obtain ⟨xs, hx, rfl⟩ := dd_mem.1 hd
    rw [Bool.not_eq_true', beq_eq_false_iff_ne]
    exact h xs hx
end Go.Proofs.YthgahkkjdpljjaaDoor.joins
