/- Joined sets and sets that touch, as bits: mathematics. -/
import Derived.Test.YtdhbaegkogklgaaDoorK07
import Derived.Test.YtdhbaegkogklgaaDoorK03
import Derived.Test.YtdhbaegkogklgaaDoorK08
import Derived.Test.YtdhbaegkogklgaaDoorK14
import Derived.Test.YtdhbaegkogklgaaDoorK23
import Derived.Test.YtdhbaegkogklgaaDoorK04
import Derived.Handy
import Derived.Deep.DeepCutAuto
import Derived.Deep.RegionHeld3
import Derived.Deep.QuietTactic
import Derived.Test.YtdhbaegkogklgaaDoorK11
import Derived.Test.YtdhbaegkogklgaaDoorK10
import Derived.Test.YtdhbaegkogklgaaDoorK16
import Derived.Maps.AppendAt
import Derived.Test.YtdhbaegkogklgaaDoorK13
import Derived.Test.YtdhbaegkogklgaaDoorK02
import Derived.StillTailTactics
import Derived.Test.YtdhbaegkogklgaaDoorK01
import Derived.Test.YtdhbaegkogklgaaDoorK06
import Derived.Test.YtdhbaegkogklgaaDoorK26
namespace Go.Proofs.YtdhbaegkogklgaaDoor.joins
open Go.RowKit P2 words edges ints good adjs fns sets rets covs bags bitsI ups
set_option linter.unusedVariables false

theorem nbits {n g : Nat} (hg : g < 2 ^ n) : numOf (bitB g) n = g := by
  apply Nat.eq_of_testBit_eq
  intro i
  rw [numOf_bit]
  unfold bitB
  by_cases hi : i < n
  · simp [hi]
  · rw [decide_eq_false hi, Bool.false_and, Nat.testBit_lt_two_pow (Nat.lt_of_lt_of_le hg (Nat.pow_le_pow_right (by decide) (by omega)))]
theorem low_fin : ∀ c : Fin 256, c.val ≠ 0 → c.val.testBit (Lib.ctz 64 c.val) = true := by decide +kernel
theorem low_bit {n c : Nat} (hn : n ≤ 8) (hc : c < 2 ^ n) (h0 : c ≠ 0) : Lib.ctz 64 c < n ∧ c.testBit (Lib.ctz 64 c) = true := by
  have h256 : c < 256 := Nat.lt_of_lt_of_le hc (pow_le hn)
  have hb := low_fin ⟨c, h256⟩ h0
  refine ⟨?_, hb⟩
  apply Classical.byContradiction
  intro hh
  have := Nat.testBit_lt_two_pow (i := Lib.ctz 64 c) (Nat.lt_of_lt_of_le hc (Nat.pow_le_pow_right (by omega) (by omega)))
  exact absurd hb (by rw [this]; simp)
/-- all nodes of a set that has some are connected by ways in it -/
def JnP (n : Nat) (l : List Ed) (c : Nat) : Prop := c ≠ 0 ∧ ∀ a b, a < n → b < n → c.testBit a = true → c.testBit b = true → reach.Rch n (J2 l) (bitB c) a b
noncomputable def jnB (n : Nat) (l : List Ed) (c : Nat) : Bool := @decide (JnP n l c) (Classical.propDecidable _)
theorem jnB_iff {n : Nat} {l : List Ed} {c : Nat} : jnB n l c = true ↔ JnP n l c := by
  unfold jnB; exact @decide_eq_true_iff _ (Classical.propDecidable _)
theorem jnB_zero (n : Nat) (l : List Ed) : jnB n l 0 = false := by
  cases h : jnB n l 0 with
  | false => rfl
  | true => exact absurd rfl (jnB_iff.1 h).1
theorem J2_symm (l : List Ed) (a b : Nat) : J2 l a b = J2 l b a := by unfold J2; exact adj_comm l a b
theorem jn_of {n x c : Nat} {l : List Ed} (hx : x < n) (hb : c.testBit x = true) (h : ∀ z, z < n → c.testBit z = true → reach.Rch n (J2 l) (bitB c) x z) : JnP n l c := by
  refine ⟨fun h0 => by rw [h0] at hb; simp at hb, fun a b ha hbn h1 h2 => ?_⟩
  exact Rch.trans (Rch.symm (J2_symm l) hx hb (h a ha h1)) (h b hbn h2)
theorem jnB_num {n c : Nat} {l : List Ed} (hn : n ≤ 8) (hc : c < 2 ^ n) (h0 : c ≠ 0) : (numOf (connB n (J2 l) (bitB c) (fun y => decide (y = Lib.ctz 64 c))) n == c) = jnB n l c := by
  obtain ⟨hx, hb⟩ := low_bit hn hc h0
  rw [Bool.eq_iff_iff, jnB_iff, beq_iff_eq]
  constructor
  · intro h
    refine jn_of hx hb fun z hz h1 => ?_
    have h2 : (numOf (connB n (J2 l) (bitB c) (fun y => decide (y = Lib.ctz 64 c))) n).testBit z = true := by rw [h]; exact h1
    rw [numOf_bit, Bool.and_eq_true, connB_one hx, reach.reachB_iff] at h2
    exact h2.2
  · intro h
    refine Eq.trans (num_ext fun z hz => ?_) (nbits hc)
    rw [connB_one hx, Bool.eq_iff_iff, reach.reachB_iff]
    constructor
    · intro hr; exact hr.inq hb
    · intro h1; exact h.2 _ z hx hz hb h1
/-- two sets touch -/
def meetB (l : List Ed) (n a b : Nat) : Bool := !(arN l n a &&& b == 0)
/-- each of the first k sets touches those ahead of it -/
def tchK (l : List Ed) (n : Nat) (cs : List Nat) (k : Nat) : Bool := (List.range k).all fun i => match cs[i]? with
  | some a => (cs.take i).all fun b => meetB l n a b
  | none => true
theorem tchK_zero (l : List Ed) (n : Nat) (cs : List Nat) : tchK l n cs 0 = true := rfl
theorem tchK_succ {l : List Ed} {n : Nat} {cs : List Nat} {k a : Nat} (h : cs[k]? = some a) : tchK l n cs (k + 1) = (tchK l n cs k && (cs.take k).all fun b => meetB l n a b) := by
  unfold tchK
  rw [List.range_succ, List.all_append]
  simp [h]
theorem tchK_no {l : List Ed} {n : Nat} {cs : List Nat} {k : Nat} (h : tchK l n cs k = false) : ∀ m, k ≤ m → tchK l n cs m = false := fun m hm => by
  unfold tchK at h ⊢
  rw [List.all_eq_false] at h ⊢
  obtain ⟨i, hi, h1⟩ := h
  rw [List.mem_range] at hi
  exact ⟨i, List.mem_range.2 (by omega), h1⟩
def tchB (l : List Ed) (n : Nat) (cs : List Nat) : Bool := tchK l n cs cs.length
theorem meet_any (l : List Ed) (n a : Nat) (cs : List Nat) (k : Nat) : (cs.take k).any (fun b => arN l n a &&& b == 0) = !(cs.take k).all (fun b => meetB l n a b) := by
  unfold meetB
  rw [List.not_all_eq_any_not]
  congr 1; funext b; rw [Bool.not_not]
end Go.Proofs.YtdhbaegkogklgaaDoor.joins

/- Brambles: mathematics. -/
namespace Go.Proofs.YtdhbaegkogklgaaDoor.joins
open Go.RowKit P2 words edges ints good adjs fns sets rets covs bags bitsI ups
set_option linter.unusedVariables false

/-- a list is a joined set -/
def BrS (n : Nat) (l : List Ed) (xs : List Int) : Prop := SetOk (n : Int) l xs ∧ JnP n l (codeL xs)
def BrK (n : Nat) (l : List Ed) (q : List (List Int)) (k : Nat) : Prop := ∀ i xs, i < k → q[i]? = some xs → BrS n l xs
theorem BrK.zero (n : Nat) (l : List Ed) (q : List (List Int)) : BrK n l q 0 := fun i xs h => by omega
theorem BrK.next {n : Nat} {l : List Ed} {q : List (List Int)} {k : Nat} {xs : List Int} (h : BrK n l q k) (hx : q[k]? = some xs) (hs : BrS n l xs) : BrK n l q (k + 1) := fun i ys hi hy => by
  by_cases e : i = k
  · subst e; rw [hx] at hy; cases hy; exact hs
  · exact h i ys (by omega) hy
/-- the different sets among the first k lists -/
def ddK (q : List (List Int)) : Nat → List Nat
  | 0 => []
  | k + 1 => match q[k]? with
    | some xs => if codeL xs ∈ ddK q k then ddK q k else ddK q k ++ [codeL xs]
    | none => ddK q k
def ddN (q : List (List Int)) : List Nat := ddK q q.length
theorem ddK_yes {q : List (List Int)} {k : Nat} {xs : List Int} (h : q[k]? = some xs) (hm : codeL xs ∈ ddK q k) : ddK q (k + 1) = ddK q k := by
  rw [ddK, h]; simp only; rw [if_pos hm]
theorem ddK_no {q : List (List Int)} {k : Nat} {xs : List Int} (h : q[k]? = some xs) (hm : ¬ codeL xs ∈ ddK q k) : ddK q (k + 1) = ddK q k ++ [codeL xs] := by
  rw [ddK, h]; simp only; rw [if_neg hm]
theorem ddK_len (q : List (List Int)) : ∀ k, (ddK q k).length ≤ k
  | 0 => Nat.le_refl _
  | k + 1 => by
    have ih := ddK_len q k
    cases h : q[k]? with
    | none => rw [ddK, h]; simp only; omega
    | some xs =>
      by_cases hm : codeL xs ∈ ddK q k
      · rw [ddK_yes h hm]; omega
      · rw [ddK_no h hm, List.length_append]; simp; omega
theorem ddK_mem {q : List (List Int)} {c : Nat} : ∀ {k : Nat}, k ≤ q.length → (c ∈ ddK q k ↔ ∃ i xs, i < k ∧ q[i]? = some xs ∧ c = codeL xs)
  | 0, _ => ⟨fun h => by simp [ddK] at h, fun ⟨i, xs, h, _⟩ => by omega⟩
  | k + 1, hk => by
    obtain ⟨xs, hx⟩ : ∃ xs, q[k]? = some xs := ⟨_, List.getElem?_eq_getElem (by omega)⟩
    have ih := ddK_mem (q := q) (c := c) (k := k) (by omega)
    have key : c ∈ ddK q (k + 1) ↔ c ∈ ddK q k ∨ c = codeL xs := by
      by_cases hm : codeL xs ∈ ddK q k
      · rw [ddK_yes hx hm]
        exact ⟨.inl, fun h => h.elim id (fun h => by rw [h]; exact hm)⟩
      · rw [ddK_no hx hm, List.mem_append, List.mem_singleton]
    rw [key, ih]
    constructor
    · rintro (⟨i, ys, hi, hy, e⟩ | e)
      · exact ⟨i, ys, by omega, hy, e⟩
      · exact ⟨k, xs, by omega, hx, e⟩
    · rintro ⟨i, ys, hi, hy, e⟩
      by_cases h9 : i = k
      · subst h9; rw [hx] at hy; cases hy; exact .inr e
      · exact .inl ⟨i, ys, by omega, hy, e⟩
theorem dd_mem {q : List (List Int)} {c : Nat} : c ∈ ddN q ↔ ∃ xs ∈ q, c = codeL xs := by
  unfold ddN
  rw [ddK_mem (Nat.le_refl _)]
  constructor
  · rintro ⟨i, xs, _, hx, e⟩; exact ⟨xs, List.mem_of_getElem? hx, e⟩
  · rintro ⟨xs, hx, e⟩
    obtain ⟨i, hi⟩ := List.getElem?_of_mem hx
    exact ⟨i, xs, (List.getElem?_eq_some_iff.1 hi).1, hi, e⟩
theorem BrK.code {n : Nat} {l : List Ed} {q : List (List Int)} {k : Nat} (h : BrK n l q k) (hk : k ≤ q.length) : ∀ c ∈ ddK q k, c < 2 ^ n ∧ JnP n l c := fun c hc => by
  obtain ⟨i, xs, hi, hx, rfl⟩ := (ddK_mem hk).1 hc
  have := h i xs hi hx
  exact ⟨code_lt (m := n) this.1.2.1, this.2⟩
/-- two sets touch -/
theorem meetB_iff {n a b : Nat} {l : List Ed} (hb : b < 2 ^ n) : meetB l n a b = true ↔ ∃ x z, x < n ∧ z < n ∧ a.testBit x = true ∧ b.testBit z = true ∧ (x = z ∨ adj l (x : Int) (z : Int) = true) := by
  unfold meetB
  rw [Bool.not_eq_true', beq_eq_false_iff_ne]
  constructor
  · intro h
    apply Classical.byContradiction
    intro hh
    refine h (Nat.eq_of_testBit_eq fun i => ?_)
    rw [Nat.testBit_and, Nat.zero_testBit]
    unfold arN
    rw [numOf_bit]
    cases h1 : b.testBit i with
    | false => simp
    | true =>
      have hi : i < n := by
        apply Classical.byContradiction
        intro h9
        rw [Nat.testBit_lt_two_pow (Nat.lt_of_lt_of_le hb (Nat.pow_le_pow_right (by decide) (by omega)))] at h1
        cases h1
      cases h2 : arB l n a i with
      | false => simp
      | true =>
        obtain ⟨x, hx, hbx, e⟩ := arB_iff.1 h2
        exact absurd ⟨x, i, hx, hi, hbx, h1, e⟩ hh
  · rintro ⟨x, z, hx, hz, h1, h2, e⟩ h0
    have h3 : (arN l n a &&& b).testBit z = true := by
      rw [Nat.testBit_and, h2]
      unfold arN
      rw [numOf_bit, arB_iff.2 ⟨x, hx, h1, e⟩]
      simp [hz]
    rw [h0] at h3
    simp at h3
theorem meet_symm {n a b : Nat} {l : List Ed} (ha : a < 2 ^ n) (hb : b < 2 ^ n) (h : meetB l n a b = true) : meetB l n b a = true := by
  obtain ⟨x, z, hx, hz, h1, h2, e⟩ := (meetB_iff hb).1 h
  exact (meetB_iff ha).2 ⟨z, x, hz, hx, h2, h1, e.elim (fun h => .inl h.symm) (fun h => .inr (by rw [adj_comm]; exact h))⟩
theorem bit_some {n a : Nat} (ha : a < 2 ^ n) (h0 : a ≠ 0) : ∃ x, x < n ∧ a.testBit x = true := by
  apply Classical.byContradiction
  intro hh
  refine h0 (Nat.eq_of_testBit_eq fun i => ?_)
  rw [Nat.zero_testBit]
  cases h : a.testBit i with
  | false => rfl
  | true =>
    refine absurd ⟨i, ?_, h⟩ hh
    apply Classical.byContradiction
    intro h9
    rw [Nat.testBit_lt_two_pow (Nat.lt_of_lt_of_le ha (Nat.pow_le_pow_right (by decide) (by omega)))] at h
    cases h
theorem meet_self {n a : Nat} {l : List Ed} (ha : a < 2 ^ n) (h0 : a ≠ 0) : meetB l n a a = true := by
  obtain ⟨x, hx, hb⟩ := bit_some ha h0
  exact (meetB_iff ha).2 ⟨x, x, hx, hx, hb, hb, .inl rfl⟩
theorem tchB_iff {n : Nat} {l : List Ed} {cs : List Nat} (hc : ∀ c ∈ cs, c < 2 ^ n ∧ c ≠ 0) : tchB l n cs = true ↔ ∀ a ∈ cs, ∀ b ∈ cs, meetB l n a b = true := by
  unfold tchB tchK
  rw [List.all_eq_true]
  constructor
  · intro h a ha b hb
    obtain ⟨i, hi⟩ := List.getElem?_of_mem ha
    obtain ⟨j, hj⟩ := List.getElem?_of_mem hb
    have hil := (List.getElem?_eq_some_iff.1 hi).1
    have hjl := (List.getElem?_eq_some_iff.1 hj).1
    have look : ∀ i j a b, cs[i]? = some a → cs[j]? = some b → i < cs.length → j < i → meetB l n a b = true := fun i j a b hi hj hil hji => by
      have h1 := h i (List.mem_range.2 hil)
      simp only [hi] at h1
      rw [List.all_eq_true] at h1
      exact h1 b (List.mem_of_getElem? (by rw [List.getElem?_take_of_lt hji]; exact hj))
    rcases Nat.lt_trichotomy i j with h1 | h1 | h1
    · exact meet_symm (hc b hb).1 (hc a ha).1 (look j i b a hj hi hjl h1)
    · subst h1
      rw [hi] at hj; cases hj
      exact meet_self (hc a ha).1 (hc a ha).2
    · exact look i j a b hi hj hil h1
  · intro h i hi
    obtain ⟨a, ha⟩ : ∃ a, cs[i]? = some a := ⟨_, List.getElem?_eq_getElem (List.mem_range.1 hi)⟩
    simp only [ha]
    rw [List.all_eq_true]
    exact fun b hb => h a (List.mem_of_getElem? ha) b (List.mem_of_mem_take hb)
/-- lists are a bramble -/
def BrP (n : Nat) (l : List Ed) (q : List (List Int)) : Prop := (q ≠ [] ∧ BrK n l q q.length) ∧ tchB l n (ddN q) = true
def BramP (s : Int) (l : List Ed) (q : List (List Int)) : Prop := P2.Good s l ∧ BrP s.toNat l q
theorem bramP_is {n : Nat} {l : List Ed} {q : List (List Int)} (hg : P2.Good (n : Int) l) : BramP (n : Int) l q ↔ BrP n l q := by
  unfold BramP
  rw [Int.toNat_natCast]
  exact ⟨fun h => h.2, fun h => ⟨hg, h⟩⟩
theorem brP_no {n k : Nat} {l : List Ed} {q : List (List Int)} {xs : List Int} (hx : q[k]? = some xs) (h : ¬ BrS n l xs) : ¬ BrP n l q := fun hp =>
  h (hp.1.2 k xs (List.getElem?_eq_some_iff.1 hx).1 hx)
/-- the lists up to the k-th one touch each other -/
def TcK (n : Nat) (l : List Ed) (q : List (List Int)) (k : Nat) : Prop := ∀ i j xs ys, i < k → j < i → q[i]? = some xs → q[j]? = some ys → meetB l n (codeL ys) (codeL xs) = true
theorem brP_iff {n : Nat} {l : List Ed} {q : List (List Int)} : BrP n l q ↔ (q ≠ [] ∧ BrK n l q q.length) ∧ TcK n l q q.length := by
  unfold BrP
  constructor
  · rintro ⟨h, ht⟩
    refine ⟨h, fun i j xs ys hi hj hx hy => ?_⟩
    have hc := h.2.code (Nat.le_refl _)
    refine (tchB_iff (fun c hm => ⟨(hc c hm).1, (hc c hm).2.1⟩)).1 ht _ (dd_mem.2 ⟨ys, List.mem_of_getElem? hy, rfl⟩) _ (dd_mem.2 ⟨xs, List.mem_of_getElem? hx, rfl⟩)
  · rintro ⟨h, ht⟩
    have hc := h.2.code (Nat.le_refl _)
    refine ⟨h, (tchB_iff (fun c hm => ⟨(hc c hm).1, (hc c hm).2.1⟩)).2 fun a ha b hb => ?_⟩
    have hab := (hc a ha)
    have hbb := (hc b hb)
    obtain ⟨xs, hx, rfl⟩ := dd_mem.1 ha
    obtain ⟨ys, hy, rfl⟩ := dd_mem.1 hb
    obtain ⟨i, hi⟩ := List.getElem?_of_mem hx
    obtain ⟨j, hj⟩ := List.getElem?_of_mem hy
    have hil := (List.getElem?_eq_some_iff.1 hi).1
    have hjl := (List.getElem?_eq_some_iff.1 hj).1
    rcases Nat.lt_trichotomy i j with h1 | h1 | h1
    · exact ht j i ys xs hjl h1 hj hi
    · subst h1
      rw [hi] at hj; cases hj
      exact meet_self hab.1 hab.2.1
    · exact meet_symm hbb.1 hab.1 (ht i j xs ys hil h1 hi hj)
/-- a set has a node of each list -/
def covB (q : List (List Int)) (c : Nat) : Bool := (ddN q).all fun d => !(d &&& c == 0)
theorem covB_any (q : List (List Int)) (c : Nat) : (!((ddN q).any (fun d => d &&& c == 0))) = covB q c := by
  unfold covB
  rw [← List.not_any_eq_all_not]
theorem cov_full {n : Nat} {l : List Ed} {q : List (List Int)} (h : BrP n l q) : covB q (2 ^ n - 1) = true := by
  unfold covB
  rw [List.all_eq_true]
  intro d hd
  have h1 := h.1.2.code (Nat.le_refl _) d hd
  rw [Bool.not_eq_true', beq_eq_false_iff_ne, Nat.and_two_pow_sub_one_eq_mod, Nat.mod_eq_of_lt h1.1]
  exact h1.2.1
noncomputable def bcN (n : Nat) (q : List (List Int)) : Nat := bestC (covB q) rkMin n
theorem covB_iff {q : List (List Int)} {c : Nat} : covB q c = true ↔ ∀ xs ∈ q, codeL xs &&& c ≠ 0 := by
  unfold covB
  rw [List.all_eq_true]
  constructor
  · intro h xs hx
    have := h _ (dd_mem.2 ⟨xs, hx, rfl⟩)
    rw [Bool.not_eq_true', beq_eq_false_iff_ne] at this
    exact this
  · intro h d hd
    obtain ⟨xs, hx, rfl⟩ := dd_mem.1 hd
    rw [Bool.not_eq_true', beq_eq_false_iff_ne]
    exact h xs hx
end Go.Proofs.YtdhbaegkogklgaaDoor.joins

/- Forcing: which nodes are coloured round by round: mathematics. -/
namespace Go.Proofs.YtdhbaegkogklgaaDoor.forc
open Go.RowKit P2 words edges ints good adjs fns sets rets covs bags bitsI ups
set_option linter.unusedVariables false

/-- a part of a set that has as many elements is the set -/
theorem sub_more {a b : Nat} (ha : a < 256) (hb : b < 256) (hs : ∀ k, a.testBit k = true → b.testBit k = true) (hne : a ≠ b) : onesN a < onesN b := by
  have hex : ∃ k, a.testBit k = false ∧ b.testBit k = true := by
    refine Classical.byContradiction fun hno => hne (Nat.eq_of_testBit_eq fun k => ?_)
    cases h1 : a.testBit k with
    | true => exact (hs k h1).symm
    | false =>
      cases h2 : b.testBit k with
      | false => rfl
      | true => exact absurd ⟨k, h1, h2⟩ hno
  obtain ⟨k, h1, h2⟩ := hex
  have hk : k < 8 := by
    by_cases e : k < 8
    · exact e
    · rw [Nat.testBit_lt_two_pow (Nat.lt_of_lt_of_le hb (by have h9 := Nat.pow_le_pow_right (show 0 < 2 by decide) (show 8 ≤ k by omega); simpa using h9))] at h2; cases h2
  have h3 := ones_put ha hk h1
  have h4 : onesN (a ||| 2 ^ k) ≤ onesN b := ones_mono fun j _ hj => by
    unfold bitB at hj ⊢
    rw [put_bit, Bool.or_eq_true, decide_eq_true_iff] at hj
    rcases hj with hj | rfl
    · exact hs j hj
    · exact h2
  omega
theorem num_ltN (p : Nat → Bool) (n : Nat) : numOf p n < 2 ^ n := Nat.lt_pow_two_of_testBit _ fun i hi => by rw [numOf_bit, decide_eq_false (by omega), Bool.false_and]
/-- the neighbors of a node that are not coloured -/
def lefB (l : List Ed) (c x z : Nat) : Bool := adj l (x : Int) (z : Int) && !c.testBit z
def lefN (n : Nat) (l : List Ed) (c x : Nat) : Nat := numOf (lefB l c x) n
def frcT (n : Nat) (l : List Ed) (sk : Bool) (c x : Nat) : Bool := (onesN (lefN n l c x) == 1) && (sk || c.testBit x)
def frcN (n : Nat) (l : List Ed) (sk : Bool) (c x : Nat) : Nat := if frcT n l sk c x = true then lefN n l c x else 0
theorem frc_yes {n : Nat} {l : List Ed} {sk : Bool} {c x : Nat} (h : frcT n l sk c x = true) : frcN n l sk c x = lefN n l c x := by unfold frcN; rw [if_pos h]
theorem frc_no {n : Nat} {l : List Ed} {sk : Bool} {c x : Nat} (h : frcT n l sk c x = false) : frcN n l sk c x = 0 := by unfold frcN; rw [if_neg (by simp [h])]
theorem lef_lt (n : Nat) (l : List Ed) (c x : Nat) : lefN n l c x < 2 ^ n := num_ltN _ _
theorem frc_lt (n : Nat) (l : List Ed) (sk : Bool) (c x : Nat) : frcN n l sk c x < 2 ^ n := by
  unfold frcN
  split
  · exact lef_lt n l c x
  · exact Nat.pow_pos (by decide)
/-- behind the first k nodes of a round -/
def onK (n : Nat) (l : List Ed) (sk : Bool) (c : Nat) : Nat → Nat
  | 0 => c
  | k + 1 => onK n l sk c k ||| frcN n l sk c k
/-- behind a round -/
def onN (n : Nat) (l : List Ed) (sk : Bool) (c : Nat) : Nat := onK n l sk c n
theorem onK_lt {n : Nat} {l : List Ed} {sk : Bool} {c : Nat} (hc : c < 2 ^ n) : ∀ k, onK n l sk c k < 2 ^ n
  | 0 => hc
  | k + 1 => Nat.or_lt_two_pow (onK_lt hc k) (frc_lt n l sk c k)
theorem onK_sub {n : Nat} {l : List Ed} {sk : Bool} {c j : Nat} (h : c.testBit j = true) : ∀ k, (onK n l sk c k).testBit j = true
  | 0 => h
  | k + 1 => by rw [onK, Nat.testBit_or, onK_sub h k]; rfl
theorem on_lt {n : Nat} {l : List Ed} {sk : Bool} {c : Nat} (hc : c < 2 ^ n) : onN n l sk c < 2 ^ n := onK_lt hc n
theorem on_more {n : Nat} {l : List Ed} {sk : Bool} {c : Nat} (hn : n ≤ 8) (hc : c < 2 ^ n) (h : onN n l sk c ≠ c) : onesN c < onesN (onN n l sk c) :=
  sub_more (Nat.lt_of_lt_of_le hc (pow_le hn)) (Nat.lt_of_lt_of_le (on_lt hc) (pow_le hn)) (fun k hk => onK_sub hk n) (Ne.symm h)
theorem on_same {n : Nat} {l : List Ed} {sk : Bool} {c : Nat} (hn : n ≤ 8) (hc : c < 2 ^ n) : onesN (onN n l sk c) = onesN c ↔ onN n l sk c = c :=
  ⟨fun h => Classical.byContradiction fun hne => by have := on_more hn hc hne; omega, fun h => by rw [h]⟩
/-- ahead of all rounds and behind each one that colours more -/
def rndL (n : Nat) (l : List Ed) (sk : Bool) : Nat → Nat → List Nat
  | 0, c => [c]
  | f + 1, c => if onN n l sk c = c then [c] else c :: rndL n l sk f (onN n l sk c)
/-- when no round colours more -/
def lastF (n : Nat) (l : List Ed) (sk : Bool) : Nat → Nat → Nat
  | 0, c => c
  | f + 1, c => if onN n l sk c = c then c else lastF n l sk f (onN n l sk c)
def rnds (n : Nat) (l : List Ed) (sk : Bool) (c : Nat) : List Nat := rndL n l sk 8 c
def lastN (n : Nat) (l : List Ed) (sk : Bool) (c : Nat) : Nat := lastF n l sk 8 c
theorem rnd_len (n : Nat) (l : List Ed) (sk : Bool) : ∀ f c, 1 ≤ (rndL n l sk f c).length ∧ (rndL n l sk f c).length ≤ f + 1
  | 0, c => ⟨Nat.le_refl _, Nat.le_refl _⟩
  | f + 1, c => by
    unfold rndL
    split
    · simp
    · have := rnd_len n l sk f (onN n l sk c)
      rw [List.length_cons]; omega
theorem rnd_last (n : Nat) (l : List Ed) (sk : Bool) : ∀ f c, (rndL n l sk f c)[(rndL n l sk f c).length - 1]? = some (lastF n l sk f c)
  | 0, c => rfl
  | f + 1, c => by
    unfold rndL lastF
    split
    · rfl
    · have h := rnd_last n l sk f (onN n l sk c)
      have h1 := (rnd_len n l sk f (onN n l sk c)).1
      rw [List.length_cons, Nat.add_sub_cancel]
      obtain ⟨m, hm⟩ : ∃ m, (rndL n l sk f (onN n l sk c)).length = m + 1 := ⟨(rndL n l sk f (onN n l sk c)).length - 1, by omega⟩
      rw [hm] at h ⊢
      simpa using h
theorem last_lt {n : Nat} {l : List Ed} {sk : Bool} : ∀ f {c : Nat}, c < 2 ^ n → lastF n l sk f c < 2 ^ n
  | 0, c, h => h
  | f + 1, c, h => by
    unfold lastF
    split
    · exact h
    · exact last_lt f (on_lt h)
theorem rnd_mem {n : Nat} {l : List Ed} {sk : Bool} : ∀ f {c : Nat}, c < 2 ^ n → ∀ d ∈ rndL n l sk f c, d < 2 ^ n
  | 0, c, h, d, hd => by simp [rndL] at hd; rw [hd]; exact h
  | f + 1, c, h, d, hd => by
    unfold rndL at hd
    split at hd
    · simp at hd; rw [hd]; exact h
    · rcases List.mem_cons.1 hd with e | hd
      · rw [e]; exact h
      · exact rnd_mem f (on_lt h) d hd
theorem last_ltN {n : Nat} {l : List Ed} {sk : Bool} {c : Nat} (hc : c < 2 ^ n) : lastN n l sk c < 2 ^ n := last_lt 8 hc
/-- what a loop over the rounds keeps -/
theorem rnd_stop {n : Nat} {l : List Ed} {sk : Bool} {f c : Nat} (h : onN n l sk c = c) : rndL n l sk f c = [c] ∧ lastF n l sk f c = c := by
  cases f with
  | zero => exact ⟨rfl, rfl⟩
  | succ f => unfold rndL lastF; rw [if_pos h, if_pos h]; exact ⟨rfl, rfl⟩
theorem rnd_go {n : Nat} {l : List Ed} {sk : Bool} {f c : Nat} (h : onN n l sk c ≠ c) : rndL n l sk (f + 1) c = c :: rndL n l sk f (onN n l sk c) ∧ lastF n l sk (f + 1) c = lastF n l sk f (onN n l sk c) := by
  constructor
  · rw [rndL, if_neg h]
  · rw [lastF, if_neg h]
/-- a fuel that lasts -/
theorem rnd_fuel {n : Nat} {l : List Ed} {sk : Bool} {f c : Nat} (hn : n ≤ 8) (hc : c < 2 ^ n) (hf : 8 ≤ onesN c + f) (h : onN n l sk c ≠ c) : ∃ g, f = g + 1 ∧ 8 ≤ onesN (onN n l sk c) + g := by
  have h1 := on_more hn hc h
  have h2 := ones_le (onN n l sk c)
  exact ⟨f - 1, by omega, by omega⟩
theorem full_on {n : Nat} {l : List Ed} {sk : Bool} : onN n l sk (2 ^ n - 1) = 2 ^ n - 1 := by
  apply Nat.eq_of_testBit_eq
  intro k
  have h1 : (2 ^ n - 1) < 2 ^ n := by have := Nat.pow_pos (n := n) (show 0 < 2 by decide); omega
  by_cases hk : k < n
  · have h2 : (2 ^ n - 1).testBit k = true := by rw [Nat.testBit_two_pow_sub_one]; simp [hk]
    rw [h2]; exact onK_sub h2 n
  · have h2 : ∀ z, z < 2 ^ n → z.testBit k = false := fun z hz => Nat.testBit_lt_two_pow (Nat.lt_of_lt_of_le hz (Nat.pow_le_pow_right (by decide) (by omega)))
    rw [h2 _ h1, h2 _ (on_lt h1)]
theorem full_last (n : Nat) (l : List Ed) (sk : Bool) : lastN n l sk (2 ^ n - 1) = 2 ^ n - 1 := (rnd_stop full_on).2
/-- the one node that is left -/
theorem one_bit {c : Nat} (h8 : c < 256) (h : onesN c = 1) : ∃ y, y < 8 ∧ c = 2 ^ y :=
  have : ∀ c : Fin 256, onesN c.1 = 1 → ∃ y : Fin 8, c.1 = 2 ^ y.1 := by decide +kernel
  let ⟨y, hy⟩ := this ⟨c, h8⟩ h
  ⟨y.1, y.2, hy⟩
end Go.Proofs.YtdhbaegkogklgaaDoor.forc

/- Forcing: the number of the round in which a node is coloured, and forts: mathematics. -/
namespace Go.Proofs.YtdhbaegkogklgaaDoor.forc
open Go.RowKit P2 words edges ints good adjs fns sets rets covs bags bitsI ups func
set_option linter.unusedVariables false

/-- behind k rounds -/
def orb (n : Nat) (l : List Ed) (sk : Bool) (c : Nat) : Nat → Nat
  | 0 => c
  | k + 1 => onN n l sk (orb n l sk c k)
theorem orb_lt {n : Nat} {l : List Ed} {sk : Bool} {c : Nat} (hc : c < 2 ^ n) : ∀ k, orb n l sk c k < 2 ^ n
  | 0 => hc
  | k + 1 => on_lt (orb_lt hc k)
theorem orb_from {n : Nat} {l : List Ed} {sk : Bool} (c : Nat) : ∀ k, orb n l sk (onN n l sk c) k = orb n l sk c (k + 1)
  | 0 => rfl
  | k + 1 => by show onN n l sk _ = onN n l sk _; rw [orb_from c k]
theorem orb_stop {n : Nat} {l : List Ed} {sk : Bool} {c : Nat} (h : onN n l sk c = c) : ∀ k, orb n l sk c k = c
  | 0 => rfl
  | k + 1 => by show onN n l sk _ = c; rw [orb_stop h k, h]
theorem rnd_orb {n : Nat} {l : List Ed} {sk : Bool} : ∀ (f c j : Nat), j < (rndL n l sk f c).length → (rndL n l sk f c)[j]? = some (orb n l sk c j)
  | 0, c, j, h => by
    have : j = 0 := by simp [rndL] at h; exact h
    subst this; rfl
  | f + 1, c, j, h => by
    unfold rndL at h ⊢
    split at h
    · rename_i e
      rw [if_pos e]
      have : j = 0 := by simpa using h
      subst this; rfl
    · rename_i e
      rw [if_neg e]
      cases j with
      | zero => rfl
      | succ j =>
        rw [List.getElem?_cons_succ, rnd_orb f _ j (by rw [List.length_cons] at h; omega), orb_from]
theorem rnd_len8 {n : Nat} {l : List Ed} {sk : Bool} (hn : n ≤ 8) : ∀ (f : Nat) {c : Nat}, c < 2 ^ n → (rndL n l sk f c).length + onesN c ≤ n + 1
  | 0, c, hc => by have := ones_topN hn hc; show 1 + _ ≤ _; omega
  | f + 1, c, hc => by
    unfold rndL
    split
    · have := ones_topN hn hc; rw [List.length_cons, List.length_nil]; omega
    · rename_i e
      have h1 := rnd_len8 (l := l) (sk := sk) hn f (c := onN n l sk c) (on_lt hc)
      have h2 := on_more hn hc e
      rw [List.length_cons]; omega
theorem rnd_tail {n : Nat} {l : List Ed} {sk : Bool} (hn : n ≤ 8) : ∀ (f : Nat) {c : Nat}, c < 2 ^ n → 8 ≤ onesN c + f → ∀ j, (rndL n l sk f c).length ≤ j + 1 → orb n l sk c j = lastF n l sk f c
  | 0, c, hc, hf, j, hj => by
    have h8 := ones_le (onN n l sk c)
    have : onN n l sk c = c := Classical.byContradiction fun e => by have := on_more hn hc e; omega
    exact orb_stop this j
  | f + 1, c, hc, hf, j, hj => by
    unfold rndL at hj
    unfold lastF
    split at hj
    · rename_i e
      rw [if_pos e]; exact orb_stop e j
    · rename_i e
      rw [if_neg e]
      have h2 := on_more hn hc e
      have h1 := (rnd_len n l sk f (onN n l sk c)).1
      rw [List.length_cons] at hj
      obtain ⟨i, rfl⟩ : ∃ i, j = i + 1 := ⟨j - 1, by omega⟩
      rw [← orb_from]
      exact rnd_tail hn f (on_lt hc) (by omega) i (by omega)
theorem last_orb {n : Nat} {l : List Ed} {sk : Bool} (hn : n ≤ 8) {c : Nat} (hc : c < 2 ^ n) : ∀ j, n ≤ j → orb n l sk c j = lastN n l sk c := fun j hj =>
  rnd_tail hn 8 hc (by omega) j (by have := rnd_len8 (l := l) (sk := sk) hn 8 hc; omega)
theorem last_fix {n : Nat} {l : List Ed} {sk : Bool} (hn : n ≤ 8) {c : Nat} (hc : c < 2 ^ n) : onN n l sk (lastN n l sk c) = lastN n l sk c := by
  rw [← last_orb hn hc n (Nat.le_refl _)]
  show orb n l sk c (n + 1) = _
  rw [last_orb hn hc n (Nat.le_refl _), last_orb hn hc (n + 1) (by omega)]
/-- the round in which a node is coloured, of the first r -/
def fstR (n : Nat) (l : List Ed) (c x : Nat) : Nat → Int
  | 0 => if c.testBit x = true then 0 else -1
  | r + 1 => if fstR n l c x r < 0 ∧ (orb n l false c (r + 1)).testBit x = true then ((r + 1 : Nat) : Int) else fstR n l c x r
theorem fst_is (n : Nat) (l : List Ed) (c x : Nat) : ∀ r, (fstR n l c x r = -1 ∧ ∀ j, j ≤ r → (orb n l false c j).testBit x = false) ∨ ∃ j : Nat, fstR n l c x r = (j : Int) ∧ j ≤ r ∧ (orb n l false c j).testBit x = true ∧ ∀ i, i < j → (orb n l false c i).testBit x = false
  | 0 => by
    unfold fstR
    by_cases h : c.testBit x = true
    · rw [if_pos h]; exact .inr ⟨0, rfl, Nat.le_refl _, h, fun i hi => by omega⟩
    · rw [if_neg h]
      refine .inl ⟨rfl, fun j hj => ?_⟩
      have : j = 0 := by omega
      subst this; rw [orb]; simpa using h
  | r + 1 => by
    rcases fst_is n l c x r with ⟨h1, h2⟩ | ⟨j, h1, h2, h3, h4⟩
    · unfold fstR
      by_cases h : (orb n l false c (r + 1)).testBit x = true
      · rw [if_pos ⟨by omega, h⟩]
        exact .inr ⟨r + 1, rfl, Nat.le_refl _, h, fun i hi => h2 i (by omega)⟩
      · rw [if_neg (fun hh => h hh.2)]
        refine .inl ⟨h1, fun j hj => ?_⟩
        by_cases e : j = r + 1
        · subst e; simpa using h
        · exact h2 j (by omega)
    · unfold fstR
      rw [if_neg (fun hh => by omega)]
      exact .inr ⟨j, h1, by omega, h3, h4⟩
theorem fst_idx {n : Nat} {l : List Ed} {c x : Nat} (hn : n ≤ 8) (hc : c < 2 ^ n) : idxF (fun d => Nat.testBit d x) (rnds n l false c) = fstR n l c x n := by
  have hl := rnd_len8 (l := l) (sk := false) hn 8 hc
  rcases fst_is n l c x n with ⟨h1, h2⟩ | ⟨j, h1, h2, h3, h4⟩
  · rw [h1]
    refine idxF_none fun i z hi hz => ?_
    have := rnd_orb (n := n) (l := l) (sk := false) 8 c i hi
    rw [show rndL n l false 8 c = rnds n l false c from rfl, hz] at this
    cases this
    exact h2 i (by change i < (rndL n l false 8 c).length at hi; omega)
  · rw [h1]
    have hj : j < (rnds n l false c).length := by
      refine Classical.byContradiction fun hno => ?_
      have hno' : (rndL n l false 8 c).length ≤ j := by change ¬ j < (rndL n l false 8 c).length at hno; omega
      have hl1 := (rnd_len n l false 8 c).1
      have e1 := rnd_tail hn 8 hc (by omega) j (by omega) (l := l) (sk := false)
      have e2 := rnd_tail hn 8 hc (by omega) ((rndL n l false 8 c).length - 1) (by omega) (l := l) (sk := false)
      have := h4 ((rndL n l false 8 c).length - 1) (by omega)
      rw [e2, ← e1, h3] at this; cases this
    refine idxF_at (y := orb n l false c j) (fun i z hi hz => ?_) (rnd_orb 8 c j hj) h3
    have := rnd_orb (n := n) (l := l) (sk := false) 8 c i (by change j < (rndL n l false 8 c).length at hj; omega)
    rw [show rndL n l false 8 c = rnds n l false c from rfl, hz] at this
    cases this
    exact h4 i hi
theorem fst_same {n : Nat} {l : List Ed} {c x r : Nat} (h : (orb n l false c (r + 1)).testBit x = false) : fstR n l c x (r + 1) = fstR n l c x r := by
  rw [fstR, if_neg (fun hh => by rw [h] at hh; exact absurd hh.2 (by decide))]
theorem fst_keep {n : Nat} {l : List Ed} {c x r : Nat} (h : ¬ fstR n l c x r < 0) : fstR n l c x (r + 1) = fstR n l c x r := by
  rw [fstR, if_neg (fun hh => h hh.1)]
theorem fst_new {n : Nat} {l : List Ed} {c x r : Nat} (h : fstR n l c x r < 0) (h2 : (orb n l false c (r + 1)).testBit x = true) : fstR n l c x (r + 1) = ((r + 1 : Nat) : Int) := by
  rw [fstR, if_pos ⟨h, h2⟩]
theorem fst_range (n : Nat) (l : List Ed) (c x r : Nat) : -1 ≤ fstR n l c x r ∧ fstR n l c x r ≤ (r : Int) := by
  rcases fst_is n l c x r with ⟨h1, h2⟩ | ⟨j, h1, h2, h3, h4⟩ <;> omega
def fstL (n : Nat) (l : List Ed) (c r : Nat) : List Int := (List.range n).map fun x => fstR n l c x r
theorem fstL_len (n : Nat) (l : List Ed) (c r : Nat) : (fstL n l c r).length = n := by simp [fstL]

/-- forts -/
def frtB (n : Nat) (l : List Ed) (c : Nat) : Bool := (List.range n).all (fun x => c.testBit x || !(insN l c x == 1)) && !(c == 0)
theorem frt_iff {n : Nat} {l : List Ed} {c : Nat} : frtB n l c = true ↔ (∀ x, x < n → c.testBit x = false → insN l c x ≠ 1) ∧ c ≠ 0 := by
  unfold frtB
  rw [Bool.and_eq_true, List.all_eq_true]
  constructor
  · rintro ⟨h1, h2⟩
    refine ⟨fun x hx hb => ?_, by simpa using h2⟩
    have := h1 x (List.mem_range.2 hx)
    rw [hb, Bool.false_or] at this
    simpa using this
  · rintro ⟨h1, h2⟩
    refine ⟨fun x hx => ?_, by simpa using h2⟩
    cases hb : c.testBit x with
    | true => rfl
    | false => simpa using h1 x (List.mem_range.1 hx) hb
theorem frt_stop {n : Nat} {l : List Ed} {c x : Nat} (hx : x < n) (hb : c.testBit x = false) (h : insN l c x = 1) : frtB n l c = false := by
  cases hf : frtB n l c with
  | false => rfl
  | true => exact absurd h ((frt_iff.1 hf).1 x hx hb)
theorem frt_end {n : Nat} {l : List Ed} {c : Nat} (h : ∀ x, x < n → ¬ (c.testBit x = false ∧ insN l c x = 1)) : frtB n l c = !(c == 0) := by
  cases hc : c == 0 with
  | true =>
    cases hf : frtB n l c with
    | false => rfl
    | true => exact absurd (by simpa using hc) (frt_iff.1 hf).2
  | false => exact frt_iff.2 ⟨fun x hx hb e => h x hx ⟨hb, e⟩, by simpa using hc⟩
end Go.Proofs.YtdhbaegkogklgaaDoor.forc

/- The least forts, in order: mathematics. -/
namespace Go.Proofs.YtdhbaegkogklgaaDoor.forc
open Go.RowKit P2 words edges ints good adjs fns sets rets covs bags bitsI ups func
set_option linter.unusedVariables false

/-- a set is part of another one -/
def subB (f c : Nat) : Bool := f &&& c == f
theorem subB_iff {f c : Nat} : subB f c = true ↔ ∀ z, f.testBit z = true → c.testBit z = true := by
  unfold subB
  rw [beq_iff_eq]
  constructor
  · intro h z hz
    have : (f &&& c).testBit z = true := by rw [h]; exact hz
    rw [Nat.testBit_and, Bool.and_eq_true] at this
    exact this.2
  · intro h
    apply Nat.eq_of_testBit_eq
    intro z
    rw [Nat.testBit_and]
    cases hf : f.testBit z with
    | false => rfl
    | true => rw [h z hf]; rfl
def ftsF (n : Nat) (l : List Ed) (acc : List Nat) (c : Nat) : List Nat := if (frtB n l c && !(acc.any fun f => subB f c)) = true then acc ++ [c] else acc
def ftsT (n : Nat) (l : List Ed) (S : List Nat) : List Nat := S.foldl (ftsF n l) []
theorem fts_succ {n : Nat} {l : List Ed} {S : List Nat} {i c : Nat} (h : S[i]? = some c) : ftsT n l (S.take (i + 1)) = ftsF n l (ftsT n l (S.take i)) c := by
  unfold ftsT
  rw [List.take_add_one, h, List.foldl_append]
  rfl
theorem fts_sub {n : Nat} {l : List Ed} (S : List Nat) : ∀ acc, (∀ f ∈ S.foldl (ftsF n l) acc, f ∈ acc ∨ f ∈ S) ∧ (S.foldl (ftsF n l) acc).length ≤ acc.length + S.length := by
  induction S with
  | nil => intro acc; exact ⟨fun f hf => .inl hf, Nat.le_refl _⟩
  | cons c S ih =>
    intro acc
    obtain ⟨h1, h2⟩ := ih (ftsF n l acc c)
    constructor
    · intro f hf
      rcases h1 f hf with h | h
      · unfold ftsF at h
        split at h
        · rw [List.mem_append, List.mem_singleton] at h
          rcases h with h | rfl
          · exact .inl h
          · exact .inr (List.mem_cons_self ..)
        · exact .inl h
      · exact .inr (List.mem_cons_of_mem _ h)
    · rw [List.foldl_cons]
      have h3 : (ftsF n l acc c).length ≤ acc.length + 1 := by
        unfold ftsF
        split
        · rw [List.length_append]; exact Nat.le_refl _
        · omega
      rw [List.length_cons]; omega
theorem fts_mem {n : Nat} {l : List Ed} {S : List Nat} {f : Nat} (h : f ∈ ftsT n l S) : f ∈ S := by
  rcases (fts_sub S []).1 f h with h | h
  · cases h
  · exact h
theorem fts_len (n : Nat) (l : List Ed) (S : List Nat) : (ftsT n l S).length ≤ S.length := by
  have h := (fts_sub (n := n) (l := l) S []).2
  show (S.foldl (ftsF n l) []).length ≤ _
  simpa using h
theorem fts_yes {n : Nat} {l : List Ed} {acc : List Nat} {c : Nat} (h1 : frtB n l c = true) (h2 : (acc.any fun f => subB f c) = false) : ftsF n l acc c = acc ++ [c] := by
  unfold ftsF; rw [h1, h2]; rfl
theorem fts_no {n : Nat} {l : List Ed} {acc : List Nat} {c : Nat} (h : frtB n l c = false ∨ (acc.any fun f => subB f c) = true) : ftsF n l acc c = acc := by
  unfold ftsF
  rcases h with h | h
  · rw [h]; rfl
  · rw [h, Bool.not_true, Bool.and_false]; rfl
theorem sub_walk {n f c : Nat} (hn : n ≤ 8) (hf : f < 2 ^ n) (hc : c < 2 ^ n) : (bits .andNot .u64 (f : Int) (c : Int) == 0) = subB f c := by
  have hp := pow_le hn
  have hcn : numOf (bitB c) n = c := by
    apply Nat.eq_of_testBit_eq
    intro i
    rw [numOf_bit]
    unfold bitB
    by_cases hi : i < n
    · simp [hi]
    · rw [decide_eq_false hi, Bool.false_and, Nat.testBit_lt_two_pow (Nat.lt_of_lt_of_le hc (Nat.pow_le_pow_right (by decide) (by omega)))]
  have h2 := andNot_num f (bitB c) n (by omega) hn (fun z => f.testBit z && !c.testBit z) (fun z _ => by
    unfold bitB
    by_cases hz : z < n
    · simp [hz]
    · have : f.testBit z = false := Nat.testBit_lt_two_pow (Nat.lt_of_lt_of_le hf (Nat.pow_le_pow_right (by decide) (by omega)))
      simp [this])
  rw [hcn] at h2
  rw [h2, Bool.eq_iff_iff, beq_iff_eq, subB_iff, show ((numOf (fun z => f.testBit z && !c.testBit z) n : Nat) : Int) = 0 ↔ numOf (fun z => f.testBit z && !c.testBit z) n = 0 from by omega, numOf_zero]
  constructor
  · intro h z hz
    have hzn : z < n := by
      by_cases e : z < n
      · exact e
      · rw [Nat.testBit_lt_two_pow (Nat.lt_of_lt_of_le hf (Nat.pow_le_pow_right (by decide) (by omega)))] at hz; cases hz
    have := h z hzn
    rw [hz] at this
    simpa using this
  · intro h z _
    cases hz : f.testBit z with
    | false => rfl
    | true => rw [h z hz]; rfl
/-- the least forts as lists -/
def ftsL (s : Int) (l : List Ed) : List (List Int) := (ftsT s.toNat l (setsN s.toNat s.toNat)).map ndN
end Go.Proofs.YtdhbaegkogklgaaDoor.forc

/- Forts: the contracts of the program's isFort and IsFort. -/
namespace Go.Proofs.YtdhbaegkogklgaaDoor.forc
open Go.RowKit P2 words edges ints good adjs fns sets rets covs bags bitsI ups func
set_option linter.unusedVariables false

def FrtP (s : Int) (l : List Ed) (xs : List Int) : Prop := SetOk s l xs ∧ frtB s.toNat l (codeL xs) = true
theorem frtP_is {n : Nat} {l : List Ed} {xs : List Int} (h : SetOk (n : Int) l xs) : okG (FrtP (n : Int) l xs) = frtB n l (codeL xs) := by
  rw [Bool.eq_iff_iff, okG_iff]
  unfold FrtP
  rw [Int.toNat_natCast]
  exact ⟨fun h => h.2, fun h2 => ⟨h, h2⟩⟩
end Go.Proofs.YtdhbaegkogklgaaDoor.forc

/- The least forts, in order: the contract of the program's FortsOf. -/
namespace Go.Proofs.YtdhbaegkogklgaaDoor.forc
open Go.RowKit P2 words edges ints good adjs fns sets rets covs bags bitsI ups func grid gridr
set_option linter.unusedVariables false

theorem containsFuncU_any (u : Value) (xs : List Nat) (f : FuncId) (caps : Array Value) (p : Nat → Bool) (w : World) (hu : Nums w u xs) (hxl : xs.length ≤ 1048576) (h : FnU w f caps xs p) :
    Calls Tryd.prog 73 #[u, .func (.func f) #[] caps] w fun e w' => e = .returned (.bool (xs.any p)) ∧ Below w.heap.size w w' := by
  have HI := Lib.hid (indexFuncU_any u xs f caps p w hu hxl h)
  have HD := Lib.hid (idxF_any p xs)
  obtain ⟨A2, c2, rfl, -⟩ := hu.form
  clear hu h
  go_enter Tryd.func73, Tryd.ntmps73
  go_wp2_with fail
  refine HI.out.mono ?_
  rintro e w1 ⟨rfl, b1⟩
  go_wp2_with fail
  go_ret
  exact ⟨ret_bool HD.out, b1⟩
end Go.Proofs.YtdhbaegkogklgaaDoor.forc

/- Joined sets and sets that touch: the contracts of the program's isJoined and allTouch, and of slices.Contains over sets. -/
namespace Go.Proofs.YtdhbaegkogklgaaDoor.joins
open Go.RowKit P2 words edges ints good adjs fns sets rets covs bags bitsI ups func least
set_option linter.unusedVariables false

set_option maxHeartbeats 2000000 in
set_option maxRecDepth 100000 in
theorem isJoined_any (n c : Nat) (v : Value) (l : List Ed) (w : World) (h : Nums w v (clos l n)) (hg : P2.Good (n : Int) l) (hn : n ≤ 8) (hc : c < 2 ^ n) (hE : Env w) :
    Calls Tryd.prog 113 #[v, .int .u64 (c : Int)] w fun e w' => e = .returned (.bool (jnB n l c)) ∧ w = w' := by
  by_cases h0 : c = 0
  · subst h0
    have HV : Hid (jnB n l 0 = false) := jnB_zero n l
    clear h hg
    go_enter Tryd.func113, Tryd.ntmps113
    go_wp2_with fail
    go_ret
    rw [HV.out]
    exact ⟨rfl, rfl⟩
  · have hlt : c < 256 := Nat.lt_of_lt_of_le hc (pow_le hn)
    obtain ⟨hx, hb⟩ := low_bit hn hc h0
    have HL := Lib.hid (least_any c hlt h0 w hE)
    have HC := Lib.hid (connectedIn_any n (bitB c) (fun y => decide (y = Lib.ctz 64 c)) v l w h hg hn (fun z _ hz => by rw [of_decide_eq_true hz]; exact hb))
    rw [nbits hc] at HC
    have HV := Lib.hid (jnB_num (l := l) hn hc h0)
    have hpw : IntKind.u64.wrap ((2 : Int) ^ (Lib.ctz 64 c)) = ((numOf (fun y => decide (y = Lib.ctz 64 c)) n : Nat) : Int) := by rw [num_one hx]; exact wrap_pow (by omega)
    have hq0 : ((c : Int) != 0) = true := by rw [bne_iff_ne]; omega
    have hx9 : ((Lib.ctz 64 c : Nat) : Int) < 64 := by omega
    clear h hg hb
    generalize Lib.ctz 64 c = x at *
    generalize numOf (fun y => decide (y = x)) n = d at *
    generalize numOf (connB n (J2 l) (bitB c) (fun y => decide (y = x))) n = f at *
    generalize jnB n l c = r at *
    go_enter Tryd.func113, Tryd.ntmps113
    go_wp2_with fail
    refine HL.out.mono ?_
    rintro e w' ⟨rfl, rfl⟩
    go_wp2_with fail
    refine HC.out.mono ?_
    rintro e w' ⟨rfl, rfl⟩
    go_wp2_with fail
    go_ret
    exact ⟨ret_bool (by rw [← HV.out, Bool.eq_iff_iff, beq_iff_eq, beq_iff_eq]; omega), rfl⟩
set_option maxHeartbeats 2000000 in
set_option maxRecDepth 100000 in
theorem touchClo_any (b c b1 : Nat) (w : World) (h : w.cell? ⟨b1, 0, none⟩ = some (.int .u64 (c : Int))) (hb : b < 256) (hc : c < 256) :
    Calls Tryd.prog 138 #[.int .u64 (b : Int), .pointer (some ⟨b1, 0, none⟩)] w fun e w' => e = .returned (.bool (c &&& b == 0)) ∧ Below w.heap.size w w' := by
  have hyc : bits .and .u64 (c : Int) (b : Int) = ((c &&& b : Nat) : Int) := bits_and_u64_nat _ _ (by omega) (by omega)
  have hq : (((c &&& b : Nat) : Int) == 0) = (c &&& b == 0) := by rw [Bool.eq_iff_iff, beq_iff_eq, beq_iff_eq]; omega
  generalize c &&& b = y at *
  generalize (y == 0) = r at *
  have HB := Lib.hid (Below.refl w.heap.size w)
  go_enter Tryd.func138, Tryd.ntmps138
  go_wp2_with fail
  go_ret
  exact ⟨rfl, HB.out⟩
theorem nums_take {w : World} {A : Option Addr} {c i : Nat} {xs : List Nat} (h : Nums w (.slice A xs.length c) xs) (hi : i ≤ xs.length) (hc : i ≤ c) : Nums w (.slice A i c) (xs.take i) := by
  have h1 := apps.Reads.take (c' := c) h hi hc
  show Reads w 1 (.slice A i c) (xs.take i).length (cellsU (xs.take i))
  rw [List.length_take, Nat.min_eq_left hi]
  unfold cellsU at h1 ⊢
  rw [Nat.mul_one] at h1
  rw [List.map_take]
  exact h1
theorem nums_cap {w : World} {A : Option Addr} {c n : Nat} {xs : List Nat} (h : Nums w (.slice A n c) xs) (h0 : 0 < xs.length) : xs.length ≤ c := by
  obtain ⟨A', c', e, hh⟩ := h
  cases e
  obtain ⟨g, o, -, h1, -⟩ := hh h0
  exact h1
set_option maxHeartbeats 4000000 in
set_option maxRecDepth 100000 in
theorem allTouch_any (n : Nat) (v u : Value) (l : List Ed) (cs : List Nat) (w : World) (h : Nums w v (clos l n)) (hg : P2.Good (n : Int) l) (hn : n ≤ 8) (hu : Nums w u cs) (hcl : cs.length ≤ 1048576) (hc8 : ∀ c ∈ cs, c < 256) :
    Calls Tryd.prog 114 #[v, u] w fun e w' => e = .returned (.bool (tchB l n cs)) ∧ Below w.heap.size w w' := by
  have hmf : ∀ (fn : Fn) (first cap : Array Value) (w : World), (Instr.makeFunc fn first cap).run Tryd.prog w = .ok (.func fn first cap) w := fun _ _ _ _ => rfl
  obtain ⟨A, c, rfl, -⟩ := h.form
  obtain ⟨A2, c2, rfl, hcc⟩ := hu.form
  have HU := Lib.hid hu
  have HCC := Lib.hid hcc
  have H := Lib.hid h
  have HGD := Lib.hid hg
  clear h hu hcc hg
  go_enter Tryd.func114, Tryd.ntmps114
  go_wp2_with fail
  go_loopg [10] cs.length (fun g i wr => ∃ k : Nat, k + g = cs.length ∧ i = .int .i64 (k : Int) ∧ Hid (tchK l n cs k = true) ∧ Below w.heap.size w wr)
  case atStart => exact ⟨0, by omega, rfl, tchK_zero l n cs, Below.refl _ _⟩
  case round =>
    obtain ⟨k, hkg, rfl, hT, hB⟩ := hrel
    cases gk with
    | zero =>
      obtain rfl : k = cs.length := by omega
      have HV : Hid (tchB l n cs = true) := hT.out
      go_wp2_with fail
      go_ret
      exact ⟨ret_bool HV.out.symm, hB⟩
    | succ g2 =>
      have hlt : k < cs.length := by omega
      have hlt' : (k : Int) < (cs.length : Int) := by omega
      obtain ⟨a, ha⟩ : ∃ a, cs[k]? = some a := ⟨_, List.getElem?_eq_getElem hlt⟩
      obtain ⟨ga, oa, rfl, c0⟩ := HCC.out k _ ha
      have q0 := nearv.cell_keep c0 hB
      have ha8 := hc8 a (List.mem_of_getElem? ha)
      have HCA := Lib.hid (closedAround_any n a (.slice A (clos l n).length c) l wr (H.out.below hB) HGD.out hn ha8)
      have hcap := nums_cap HU.out (by omega)
      have ha9 : arN l n a < 256 := numOf_lt _ hn
      have HS := Lib.hid (tchK_succ (l := l) (n := n) ha)
      rw [hT.out, Bool.true_and] at HS
      have HME := Lib.hid (meet_any l n a cs k)
      have HB := Lib.hid hB
      have HNO := Lib.hid (fun h9 : tchK l n cs (k + 1) = false => tchK_no h9 cs.length (by omega))
      generalize arN l n a = d at *
      have b0 : Below wr.heap.size wr (wr.alloc (.cells #[.int .u64 (d : Int)] 70)) := (Below.refl _ _).alloc (Nat.le_refl _) _
      have g0 := Blk.new wr 70 #[.int .u64 (d : Int)]
      have HCF := Lib.hid (forc.containsFuncU_any (.slice (some ⟨ga, oa, none⟩) k c2) (cs.take k) 138 #[.pointer (some ⟨wr.heap.size, 0, none⟩)] (fun b => d &&& b == 0) _ ((nums_take HU.out (by omega) (by omega)).below (btrans hB b0)) (by rw [List.length_take]; omega)
        { enter := fun _ _ => by kernel_rfl
          call := fun W hW b hb => touchClo_any b d wr.heap.size W ((g0.below hW g0.lt).cell 0) (hc8 b (List.mem_of_mem_take hb)) ha9 })
      have HB0 := Lib.hid b0
      rw [HME.out] at HCF
      clear b0 g0
      cases hall : (cs.take k).all fun b => meetB l n a b with
      | true =>
        rw [hall] at HCF HS
        clear hall
        go_wp2_with fail
        refine HCA.out.mono ?_
        rintro e w' ⟨rfl, rfl⟩
        go_wp2_with fail
        refine HCF.out.mono ?_
        rintro e w1 ⟨rfl, b1⟩
        have HE1 := Lib.hid (btrans HB.out (btrans HB0.out b1))
        clear b1
        go_wp2_with fail
        go_roundg g2
        case measure => omega
        case rel => exact ⟨k + 1, by omega, by go_num, HS, HE1.out⟩
      | false =>
        rw [hall] at HCF HS
        clear hall
        have HV : Hid (tchB l n cs = false) := HNO.out HS.out
        go_wp2_with fail
        refine HCA.out.mono ?_
        rintro e w' ⟨rfl, rfl⟩
        go_wp2_with fail
        refine HCF.out.mono ?_
        rintro e w1 ⟨rfl, b1⟩
        have HE1 := Lib.hid (btrans HB.out (btrans HB0.out b1))
        clear b1
        go_wp2_with fail
        go_ret
        exact ⟨ret_bool HV.out.symm, HE1.out⟩
set_option maxHeartbeats 1000000 in
theorem indexU_any (u : Value) (xs : List Nat) (x : Nat) (w : World) (hu : Nums w u xs) (hxl : xs.length ≤ 1048576) :
    Calls Tryd.prog 135 #[u, .int .u64 (x : Int)] w fun e w' => (∃ i : Int, e = .returned (.int .i64 i) ∧ -1 ≤ i ∧ decide (0 ≤ i) = decide (x ∈ xs)) ∧ w = w' := by
  obtain ⟨A2, c2, rfl, hc⟩ := hu.form
  have HC := Lib.hid hc
  clear hu hc
  go_enter Tryd.func135, Tryd.ntmps135
  go_wp2_with fail
  go_loop [8] (fun i => ∃ k : Nat, k ≤ xs.length ∧ i = .int .i64 (k : Int) ∧ Hid (∀ j y, j < k → xs[j]? = some y → y ≠ x)) (fun i => xs.length - (intOf i).toNat)
  case atStart => exact ⟨0, Nat.zero_le _, rfl, fun j e h => by omega⟩
  case round =>
    obtain ⟨k, hk, rfl, hno⟩ := hrel
    by_cases hlt : k < xs.length
    · obtain ⟨y, hy⟩ : ∃ y, xs[k]? = some y := ⟨_, List.getElem?_eq_getElem hlt⟩
      obtain ⟨g, o, rfl, c0⟩ := HC.out k y hy
      have hlt' : (k : Int) < (xs.length : Int) := by omega
      by_cases hyx : y = x
      · have HN : Hid (x ∈ xs) := by show _ ∈ _; rw [← hyx]; exact List.mem_of_getElem? hy
        have d0 : ((x : Int) == (y : Int)) = true := by simp [hyx]
        clear hy hyx
        go_wp2_with fail
        go_ret
        exact ⟨⟨(k : Int), rfl, by omega, ⟨fun _ => HN.out, fun _ => by omega⟩⟩, rfl⟩
      · have HK : Hid (∀ j y, j < k + 1 → xs[j]? = some y → y ≠ x) := fun j z hj hz => by
          by_cases e : j = k
          · subst e; rw [hy] at hz; cases hz; exact hyx
          · exact hno.out j z (by omega) hz
        have d0 : ((x : Int) == (y : Int)) = false := by simp; omega
        clear hy hyx
        go_wp2_with fail
        go_round
        case rel => exact ⟨k + 1, by omega, by go_num, HK⟩
        case measure => simp [intOf]; omega
    · have HN : Hid (¬ x ∈ xs) := fun hx => by
        obtain ⟨j, hj⟩ := List.getElem?_of_mem hx
        exact hno.out j x (by have := (List.getElem?_eq_some_iff.1 hj).1; omega) hj rfl
      go_wp2_with fail
      go_ret
      exact ⟨⟨-1, rfl, by omega, ⟨fun h => by omega, fun h => absurd h HN.out⟩⟩, rfl⟩
theorem containsU_any (u : Value) (xs : List Nat) (x : Nat) (w : World) (hu : Nums w u xs) (hxl : xs.length ≤ 1048576) :
    Calls Tryd.prog 112 #[u, .int .u64 (x : Int)] w fun e w' => e = .returned (.bool (decide (x ∈ xs))) ∧ w = w' := by
  have HI := Lib.hid (indexU_any u xs x w hu hxl)
  obtain ⟨A2, c2, rfl, -⟩ := hu.form
  clear hu
  go_enter Tryd.func112, Tryd.ntmps112
  go_wp2_with fail
  refine HI.out.mono ?_
  rintro e w1 ⟨⟨i, rfl, hi, hd⟩, rfl⟩
  have HD := Lib.hid hd
  clear hd
  go_wp2_with fail
  go_ret
  exact ⟨ret_bool HD.out, rfl⟩
end Go.Proofs.YtdhbaegkogklgaaDoor.joins

/- Brambles: the contract of the program's brambleOf. -/
namespace Go.Proofs.YtdhbaegkogklgaaDoor.joins
open Go.RowKit P2 words edges ints owns good adjs fns sets rets covs bags bitsI ups func gridr least
set_option linter.unusedVariables false

/-- what brambleOf returns: the different sets and true, or false -/
def RetBr (w : World) (s : Int) (l : List Ed) (q : List (List Int)) (e : Ending) (w' : World) : Prop :=
  ∃ A N c, e = .returned (.tuple #[.slice A N c, .bool (okG (BramP s l q))]) ∧ (BramP s l q → N = (ddN q).length ∧ w'.ownsRow w.heap.size 70 1 (.slice A N c) N (cellsU (ddN q))) ∧ Below w.heap.size w w'
theorem RetBr.no {w w' : World} {s : Int} {l : List Ed} {q : List (List Int)} (h : ¬ BramP s l q) (hb : Below w.heap.size w w') : RetBr w s l q (.returned (.tuple #[.slice none 0 0, .bool false])) w' :=
  ⟨none, 0, 0, by rw [okG_no h], fun h2 => absurd h2 h, hb⟩
theorem cellsU_appJ (l m : List Nat) : cellsU (l ++ m) = cellsU l ++ cellsU m := by simp [cellsU]
set_option maxHeartbeats 8000000 in
set_option maxRecDepth 100000 in
theorem brambleOf_any (s : Int) (v : Value) (A2 : Option Addr) (c2 : Nat) (us : List Value) (q : List (List Int)) (l : List Ed) (w : World) (h : Edges w v l) (hl : l.length ≤ 1048576) (ht : ReadsG w (.slice A2 q.length c2) us q) (hql : q.length ≤ 1048576) (hqr : ∀ r ∈ q, r.length ≤ 1048576) (hE : Env w) :
    Calls Tryd.prog 70 #[.agg #[.int .i64 s, v], .slice A2 q.length c2] w (RetBr w s l q) := by
  obtain ⟨A, c, rfl, -⟩ := h.form
  obtain ⟨i0, hi, hz0, hz1, hz2⟩ := info_parts infoU
  have H := Lib.hid h
  have HT := Lib.hid ht
  have HENV := Lib.hid hE
  have b0 : Below w.heap.size w (w.alloc (.cells #[.int .i64 s, .slice A l.length c] 29)) := (Below.refl _ _).alloc (Nat.le_refl _) _
  have g0 := Blk.new w 29 #[.int .i64 s, .slice A l.length c]
  obtain ⟨p0, p1, -, -⟩ := g0.two
  have HN := Lib.hid (implIsGraph_any s _ l _ (h.below b0) hl)
  have HB0 := Lib.hid b0
  have HG0 := Lib.hid g0
  clear h b0 g0 ht hE
  by_cases hgd : P2.Good s l
  · rw [goodB_yes hgd] at HN
    have HOK := Lib.hid hgd
    have h0 := hgd.1
    have h8 := hgd.2.1
    obtain ⟨n, rfl⟩ : ∃ n : Nat, s = (n : Int) := ⟨s.toNat, by omega⟩
    have hn : n ≤ 8 := by omega
    have HIF := Lib.hid (bramP_is (q := q) hgd)
    by_cases hq0 : q = []
    · subst hq0
      have HF : Hid (¬ BramP (n : Int) l []) := fun h => (HIF.out.1 h).1.1 rfl
      clear hgd
      go_enter Tryd.func70, Tryd.ntmps70
      go_wp2_with fail
      refine HN.out.mono ?_
      rintro e w1 ⟨rfl, b1⟩
      have HE1 := Lib.hid (btrans HB0.out b1)
      clear p0 p1 b1
      go_wp2_with fail
      go_ret2
      exact RetBr.no HF.out HE1.out
    have hqp : 0 < q.length := List.length_pos_iff.2 hq0
    have hqe : ((q.length : Int) == 0) = false := by rw [beq_eq_false_iff_ne]; omega
    have HQ0 := Lib.hid hq0
    have HS := Lib.hid (fun (xs : List Int) (u : Value) (W : World) (hW : Below w.heap.size w W) (hu : Ints W u xs) (hx : xs.length ≤ 1048576) => hasSet_any (n : Int) (.slice A l.length c) u l xs W (H.out.below hW) hl hu hx)
    have HBO := Lib.hid (fun (xs : List Int) (u : Value) (W : World) (hu : Ints W u xs) (hx : xs.length ≤ 1048576) (hr : ∀ x ∈ xs, 0 ≤ x ∧ x < (n : Int)) => bitsOf_any u xs W hu hx (fun x hx => by have := hr x hx; omega))
    have HJN := Lib.hid (fun (d : Nat) (hd : d < 2 ^ n) (W : World) (hW : Below w.heap.size w W) (u : Value) (hu : Nums W u (clos l n)) => isJoined_any n d u l W hu hgd hn hd (HENV.out.next hW))
    have HPW := Lib.hid (pow_le hn)
    clear hgd
    go_enter Tryd.func70, Tryd.ntmps70
    go_wp2_with fail
    refine HN.out.mono ?_
    rintro e w1 ⟨rfl, b1⟩
    have HE1 := Lib.hid (btrans HB0.out b1)
    have HG1 := Lib.hid (HG0.out.below b1 HG0.out.lt)
    clear p0 p1 b1 HN HB0 HG0
    obtain ⟨p0, p1, -, -⟩ := HG1.out.two
    have HCB := Lib.hid (closedBits_any n (.slice A l.length c) l w1 (H.out.below HE1.out) hl HOK.out hn)
    go_wp2_with fail
    refine HCB.out.mono ?_
    rintro e w2 ⟨A3, c3, rfl, i3, b3⟩
    have HE2 := Lib.hid (btrans HE1.out b3)
    have HG2 := Lib.hid (HG1.out.below b3 HG1.out.lt)
    have HI2 := Lib.hid i3
    clear p0 p1 b3 i3 HCB HE1 HG1
    obtain ⟨p0, p1, -, -⟩ := HG2.out.two
    go_wp2_with fail
    clear p0 p1
    go_loopg [7, 23] q.length (fun g kv iv wr => ∃ (k : Nat) (kw : Value), kw = kv ∧ k + g = q.length ∧ iv = .int .i64 (k : Int) ∧ Hid (BrK n l q k) ∧ wr.ownsRow w2.heap.size 70 1 kw (ddK q k).length (cellsU (ddK q k)) ∧ Below w2.heap.size w2 wr)
    case atStart => exact ⟨0, _, rfl, by omega, rfl, BrK.zero n l q, World.ownsRow_nil _ _ _ _, Below.refl _ _⟩
    case round =>
      obtain ⟨k, kw, rfl, hkg, rfl, hck, hrow, hB⟩ := hrel
      obtain ⟨A4, c4, rfl⟩ := own_form hrow
      have HB := Lib.hid hB
      have HE := Lib.hid (btrans HE2.out hB)
      have HG := Lib.hid (HG2.out.below hB HG2.out.lt)
      have hdl := ddK_len q k
      obtain ⟨p0, p1, -, -⟩ := HG.out.two
      cases gk with
      | zero =>
        obtain rfl : k = q.length := by omega
        have HV : Hid (okG (BramP (n : Int) l q) = tchB l n (ddN q)) := by
          show _ = _
          rw [Bool.eq_iff_iff, okG_iff, HIF.out]
          exact ⟨fun h => h.2, fun h => ⟨⟨HQ0.out, hck.out⟩, h⟩⟩
        have HR := Lib.hid hrow
        have hsz := HE2.out.size
        have HAT := Lib.hid (allTouch_any n _ _ l (ddK q q.length) wr (HI2.out.below hB) HOK.out hn (show Nums wr _ _ from Reads.of_own hrow) (by omega) (fun c hc => Nat.lt_of_lt_of_le (hck.out.code (Nat.le_refl _) c hc).1 HPW.out))
        have HDD : Hid (ddK q q.length = ddN q) := rfl
        rw [HDD.out] at HAT HR ⊢
        clear hrow hB hck hdl
        clear p0 p1
        go_wp2_with fail
        refine HAT.out.mono ?_
        rintro e w4 ⟨rfl, b4⟩
        have HO4 := Lib.hid (own_below (own_base HR.out hsz) b4)
        have HE4 := Lib.hid (btrans HE.out b4)
        clear b4
        go_wp2_with fail
        go_ret2
        exact ⟨A4, _, c4, by rw [HV.out]; rfl, fun _ => ⟨rfl, HO4.out⟩, HE4.out⟩
      | succ g2 =>
        have hlt : k < q.length := by omega
        have hlt' : (k : Int) < (q.length : Int) := by omega
        obtain ⟨xs, hxs⟩ : ∃ xs, q[k]? = some xs := ⟨_, List.getElem?_eq_getElem hlt⟩
        have hxl := hqr xs (List.mem_of_getElem? hxs)
        obtain ⟨u, g5, o5, hu5, hA5, c5, hu⟩ := (HT.out.below HE.out).row hxs
        subst hA5
        obtain ⟨Ax, cx, rfl, -⟩ := hu.form
        have HNO : Hid (¬ BrS n l xs → ¬ BramP (n : Int) l q) := fun h1 h2 => brP_no hxs h1 (HIF.out.1 h2)
        have HS1 := Lib.hid (HS.out xs _ wr HE.out hu hxl)
        have HU := Lib.hid hu
        have HE9 := HE.out
        have hsz := HE2.out.size
        have HRX := Lib.hid (hrow)
        by_cases hso : SetOk (n : Int) l xs
        · rw [okG_yes hso] at HS1
          have hcn := code_lt (m := n) hso.2.1
          have HBO1 := Lib.hid (fun (W : World) (hW : Below wr.heap.size wr W) => HBO.out xs _ W (HU.out.below hW) hxl hso.2.1)
          have HCN := Lib.hid (fun (W : World) (hW : Below wr.heap.size wr W) => containsU_any (.slice A4 (ddK q k).length c4) (ddK q k) (codeL xs) W ((show Nums wr (.slice A4 (ddK q k).length c4) (ddK q k) from Reads.of_own HRX.out).below hW) (by omega))
          have HJN1 := Lib.hid (fun (W : World) (hW : Below wr.heap.size wr W) => HJN.out (codeL xs) hcn W (btrans HE.out hW) _ ((HI2.out.below hB).below hW))
          have HCK : Hid (BrS n l xs → BrK n l q (k + 1)) := fun h => hck.out.next hxs h
          have HCV : Hid (BrS n l xs ↔ jnB n l (codeL xs) = true) := by
            show _ ↔ _
            rw [jnB_iff]
            exact ⟨fun h => h.2, fun h => ⟨hso, h⟩⟩
          by_cases hm : codeL xs ∈ ddK q k
          · have HN : Hid (BrK n l q (k + 1)) := by
              refine HCK.out ⟨hso, ?_⟩
              exact (hck.out.code (by omega) _ hm).2
            have HDD := Lib.hid (ddK_yes hxs hm)
            rw [decide_eq_true hm] at HCN
            clear hso hm hu hu5 hxs hcn hrow hB HE9 hck
            generalize codeL xs = yc at *
            go_wp2_with fail
            refine HS1.out.mono ?_
            rintro e w4 ⟨rfl, b4⟩
            have HB4 := Lib.hid b4
            have HR4 := Lib.hid (own_below HRX.out b4)
            have HE4 := Lib.hid (btrans HB.out b4)
            clear p0 p1 b4 c5
            go_wp2_with fail
            refine (HBO1.out w4 HB4.out).mono ?_
            rintro e w' ⟨rfl, rfl⟩
            go_wp2_with fail
            refine (HCN.out w4 HB4.out).mono ?_
            rintro e w' ⟨rfl, rfl⟩
            go_wp2_with fail
            go_roundg g2
            case measure => omega
            case rel => exact ⟨k + 1, _, rfl, by omega, by go_num, HN, by rw [HDD.out]; exact HR4.out, HE4.out⟩
          · have HDD := Lib.hid (ddK_no hxs hm)
            rw [decide_eq_false hm] at HCN
            clear hm
            cases hjn : jnB n l (codeL xs) with
            | true =>
              have HN := Lib.hid (HCK.out (HCV.out.2 hjn))
              rw [hjn] at HJN1
              clear hjn hso hu hu5 hxs hcn hrow hB HE9 hck
              generalize codeL xs = yc at *
              go_wp2_with fail
              refine HS1.out.mono ?_
              rintro e w4 ⟨rfl, b4⟩
              have HB4 := Lib.hid b4
              clear p0 p1 b4 c5
              go_wp2_with fail
              refine (HBO1.out w4 HB4.out).mono ?_
              rintro e w' ⟨rfl, rfl⟩
              go_wp2_with fail
              refine (HCN.out w4 HB4.out).mono ?_
              rintro e w' ⟨rfl, rfl⟩
              go_wp2_with fail
              refine (HJN1.out w4 HB4.out).mono ?_
              rintro e w' ⟨rfl, rfl⟩
              have HR5 := own_below HRX.out HB4.out
              have hs5 := HB4.out.size
              have hs6 := HB.out.size
              have hz : w2.heap.size ≤ w4.heap.size := by omega
              go_wp2_with (at_builtin; refine wpList_append_own _ rfl _ _ 63 rfl w2.heap.size 70 i0 (.int .u64 0) 1 8 Tryd.underlying63 hi hz0 hz1 hz2 rfl (by decide) _ _ _ rfl (HR5.alloc _) ⟨w4.heap.size, 0, none⟩ 1 1 [.int .u64 (yc : Int)] rfl rfl (cell_one_new _ _ _) (fun x hx => by simp at hx; subst hx; rfl) (by unfold maxLen; omega) (by omega) (by simp; omega) ?_; intro v8 w8 hown8 hgrow8 _)
              have HR8 := Lib.hid hown8
              have HB8 := Lib.hid (((btrans HB.out HB4.out).alloc hz _).grown hgrow8 (by simp; omega) (fun j e => (HR5.lt j e).1))
              clear hown8 hgrow8 HR5
              go_roundg g2
              case measure => omega
              case rel => exact ⟨k + 1, v8, rfl, by omega, by go_num, HN, by rw [HDD.out, cellsU_appJ, List.length_append]; exact HR8.out, HB8.out⟩
            | false =>
              have HF := Lib.hid (HNO.out fun h1 => by have := HCV.out.1 h1; rw [hjn] at this; cases this)
              rw [hjn] at HJN1
              clear hjn hso hu hu5 hxs hcn hrow hB HE9 hck
              generalize codeL xs = yc at *
              go_wp2_with fail
              refine HS1.out.mono ?_
              rintro e w4 ⟨rfl, b4⟩
              have HB4 := Lib.hid b4
              clear p0 p1 b4 c5
              go_wp2_with fail
              refine (HBO1.out w4 HB4.out).mono ?_
              rintro e w' ⟨rfl, rfl⟩
              go_wp2_with fail
              refine (HCN.out w4 HB4.out).mono ?_
              rintro e w' ⟨rfl, rfl⟩
              go_wp2_with fail
              refine (HJN1.out w4 HB4.out).mono ?_
              rintro e w' ⟨rfl, rfl⟩
              go_wp2_with fail
              go_ret2
              exact RetBr.no HF.out (btrans HE.out HB4.out)
        · rw [okG_no hso] at HS1
          have HF := Lib.hid (HNO.out fun h1 => hso h1.1)
          clear hso hu hu5 hxs hrow hB HE9 hck
          go_wp2_with fail
          refine HS1.out.mono ?_
          rintro e w4 ⟨rfl, b4⟩
          clear c5
          go_wp2_with fail
          go_ret2
          exact RetBr.no HF.out (btrans HE.out b4)
  · rw [goodB_no hgd] at HN
    have HNO : Hid (¬ BramP s l q) := fun h => hgd h.1
    clear hgd
    go_enter Tryd.func70, Tryd.ntmps70
    go_wp2_with fail
    refine HN.out.mono ?_
    rintro e w1 ⟨rfl, b1⟩
    have HE1 := Lib.hid (btrans HB0.out b1)
    clear p0 p1 b1
    go_wp2_with fail
    go_ret2
    exact RetBr.no HNO.out HE1.out
end Go.Proofs.YtdhbaegkogklgaaDoor.joins

/- Brambles: the contract of the program's BrambleCover. -/
namespace Go.Proofs.YtdhbaegkogklgaaDoor.joins
open Go.RowKit P2 words edges ints owns good adjs fns sets rets covs bags bitsI ups func gridr least
set_option linter.unusedVariables false

set_option maxHeartbeats 2000000 in
set_option maxRecDepth 100000 in
theorem brcIn_any (d c b2 : Nat) (w : World) (h : w.cell? ⟨b2, 0, none⟩ = some (.int .u64 (c : Int))) (hd : d < 256) (hc : c < 256) :
    Calls Tryd.prog 74 #[.int .u64 (d : Int), .pointer (some ⟨b2, 0, none⟩)] w fun e w' => e = .returned (.bool (d &&& c == 0)) ∧ Below w.heap.size w w' := by
  have hyc : bits .and .u64 (d : Int) (c : Int) = ((d &&& c : Nat) : Int) := bits_and_u64_nat _ _ (by omega) (by omega)
  have hq : (((d &&& c : Nat) : Int) == 0) = (d &&& c == 0) := by rw [Bool.eq_iff_iff, beq_iff_eq, beq_iff_eq]; omega
  generalize d &&& c = y at *
  generalize (y == 0) = r at *
  have HB := Lib.hid (Below.refl w.heap.size w)
  go_enter Tryd.func74, Tryd.ntmps74
  go_wp2_with fail
  go_ret
  exact ⟨rfl, HB.out⟩
set_option maxHeartbeats 2000000 in
set_option maxRecDepth 100000 in
theorem brcClo_any (c b1 : Nat) (vq : Value) (q : List (List Int)) (w : World) (h : w.cell? ⟨b1, 0, none⟩ = some vq) (hq : Nums w vq (ddN q)) (hql : (ddN q).length ≤ 1048576) (hq8 : ∀ d ∈ ddN q, d < 256) (hc : c < 256) :
    Calls Tryd.prog 72 #[.int .u64 (c : Int), .pointer (some ⟨b1, 0, none⟩)] w fun e w' => e = .returned (.bool (covB q c)) ∧ Below w.heap.size w w' := by
  have hmf : ∀ (fn : Fn) (first cap : Array Value) (w : World), (Instr.makeFunc fn first cap).run Tryd.prog w = .ok (.func fn first cap) w := fun _ _ _ _ => rfl
  obtain ⟨Aq, cq, rfl, -⟩ := hq.form
  have b0 : Below w.heap.size w (w.alloc (.cells #[.int .u64 (c : Int)] 70)) := (Below.refl _ _).alloc (Nat.le_refl _) _
  have g0 := Blk.new w 70 #[.int .u64 (c : Int)]
  have HCF := Lib.hid (forc.containsFuncU_any _ (ddN q) 74 #[.pointer (some ⟨w.heap.size, 0, none⟩)] (fun d => d &&& c == 0) _ (hq.below b0) hql
    { enter := fun _ _ => by kernel_rfl
      call := fun W hW d hd => brcIn_any d c w.heap.size W ((g0.below hW g0.lt).cell 0) (hq8 d hd) hc })
  have HV := Lib.hid (covB_any q c)
  have p0 := nearv.cell_keep h b0
  have HB0 := Lib.hid b0
  clear hq hq8 b0 g0
  generalize covB q c = rv at *
  generalize ddN q = Q at *
  go_enter Tryd.func72, Tryd.ntmps72
  go_wp2_with fail
  refine HCF.out.mono ?_
  rintro e w1 ⟨rfl, b1⟩
  go_wp2_with fail
  go_ret
  exact ⟨ret_bool HV.out, btrans HB0.out b1⟩
set_option maxHeartbeats 4000000 in
set_option maxRecDepth 100000 in
theorem implBrc_any (s : Int) (v : Value) (A2 : Option Addr) (c2 : Nat) (us : List Value) (q : List (List Int)) (l : List Ed) (w : World) (h : Edges w v l) (hl : l.length ≤ 1048576) (ht : ReadsG w (.slice A2 q.length c2) us q) (hql : q.length ≤ 1048576) (hqr : ∀ r ∈ q, r.length ≤ 1048576) (hE : Env w) :
    Calls Tryd.prog 29 #[.agg #[.int .i64 s, v], .slice A2 q.length c2] w (RetI w (BramP s l q) (ndN (bcN s.toNat q))) := by
  have hmf : ∀ (fn : Fn) (first cap : Array Value) (w : World), (Instr.makeFunc fn first cap).run Tryd.prog w = .ok (.func fn first cap) w := fun _ _ _ _ => rfl
  obtain ⟨A, c, rfl, -⟩ := h.form
  have H := Lib.hid h
  have b0 : Below w.heap.size w (w.alloc (.cells #[.int .i64 s, .slice A l.length c] 29)) := (Below.refl _ _).alloc (Nat.le_refl _) _
  have HG0 := Lib.hid (Blk.new w 29 #[.int .i64 s, .slice A l.length c])
  obtain ⟨p0, p1, -, -⟩ := HG0.out.two
  have HC := Lib.hid (brambleOf_any s (.slice A l.length c) A2 c2 us q l _ (h.below b0) hl (ht.below b0) hql hqr (hE.next b0))
  have HB0 := Lib.hid b0
  clear h b0 ht hE
  by_cases hok : BramP s l q
  · have HOK := Lib.hid hok
    have h0 := hok.1.1
    have h8 := hok.1.2.1
    obtain ⟨n, rfl⟩ : ∃ n : Nat, s = (n : Int) := ⟨s.toNat, by omega⟩
    have hn : n ≤ 8 := by omega
    rw [Int.toNat_natCast]
    have hbr : BrP n l q := (bramP_is hok.1).1 hok
    have hdl : (ddN q).length ≤ 1048576 := Nat.le_trans (ddK_len q q.length) hql
    have HQ8 : Hid (∀ d ∈ ddN q, d < 256) := fun d hd => Nat.lt_of_lt_of_le (hbr.1.2.code (Nat.le_refl _) d hd).1 (pow_le hn)
    have HCF := Lib.hid (cov_full hbr)
    have HPW := Lib.hid (pow_le hn)
    clear hok hbr
    go_enter Tryd.func29, Tryd.ntmps29
    go_wp2_with fail
    refine HC.out.mono ?_
    rintro e w1 ⟨A4, N, c4, rfl, ho4, b1⟩
    rw [okG_yes HOK.out]
    obtain ⟨rfl, ho4⟩ := ho4 HOK.out
    obtain ⟨W1, hW1⟩ : ∃ W1, W1 = w1.alloc (.cells #[.slice A4 (ddN q).length c4] 63) := ⟨_, rfl⟩
    have d1 : Below w1.heap.size w1 W1 := by rw [hW1]; exact (Below.refl _ _).alloc (Nat.le_refl _) _
    have HE1 := Lib.hid (btrans HB0.out (btrans b1 d1))
    have HK1 : Hid (Blk W1 w1.heap.size 63 #[.slice A4 (ddN q).length c4]) := by show Blk _ _ _ _; rw [hW1]; exact Blk.new _ _ _
    have HN1 : Hid (Nums W1 (.slice A4 (ddN q).length c4) (ddN q)) := (show Nums w1 (.slice A4 (ddN q).length c4) (ddN q) from Reads.of_own ho4).below d1
    have hg1 := HG0.out.below (btrans b1 d1) HG0.out.lt
    clear p0 p1
    obtain ⟨p0, p1, -, -⟩ := hg1.two
    have r0 := HK1.out.cell 0
    have HFS := Lib.hid (firstSet_any n 72 #[.pointer (some ⟨w1.heap.size, 0, none⟩)] (covB q) W1 hn
      { enter := fun _ _ => by kernel_rfl
        call := fun W hW x hx => brcClo_any x w1.heap.size _ q W ((HK1.out.below hW HK1.out.lt).cell 0) (HN1.out.below hW) hdl HQ8.out (Nat.lt_of_lt_of_le ((mem_all hn).1 hx) HPW.out) } HCF.out)
    rw [hW1] at r0 p0 p1
    have HW1 := Lib.hid hW1
    have HV : Hid (bcN n q = bestC (covB q) rkMin n) := rfl
    clear b1 hW1 d1 ho4 hg1
    go_wp2_with fail
    rw [← HW1.out]
    refine HFS.out.mono ?_
    rintro e w6 ⟨hyn, rfl, b6⟩
    have HE6 := Lib.hid (btrans HE1.out b6)
    have hy64 : bestC (covB q) rkMin n < 18446744073709551616 := Nat.lt_of_lt_of_le hyn (Nat.le_trans (pow_le hn) (by decide))
    clear b6 p0 p1 r0 hyn
    generalize bestC (covB q) rkMin n = y at *
    have HND := Lib.hid (nodes_any y w6 hy64)
    go_wp2_with fail
    refine HND.out.mono ?_
    rintro e w7 ⟨A8, c8, rfl, o8, b8⟩
    go_wp2_with fail
    go_ret2
    rw [HV.out]
    exact RetI.yes HOK.out (own_base o8 HE6.out.size) (btrans HE6.out b8)
  · have HNO := Lib.hid hok
    clear hok
    go_enter Tryd.func29, Tryd.ntmps29
    go_wp2_with fail
    refine HC.out.mono ?_
    rintro e w1 ⟨A4, N, c4, rfl, -, b1⟩
    rw [okG_no HNO.out]
    have HE1 := Lib.hid ((btrans HB0.out b1).alloc (btrans HB0.out b1).size (.cells #[.slice A4 N c4] 63))
    clear p0 p1 b1
    go_wp2_with fail
    go_ret2
    exact RetI.nil HNO.out HE1.out
end Go.Proofs.YtdhbaegkogklgaaDoor.joins

/- Sets that touch: the contract of the model's l5Touch. -/
namespace Go.Proofs.YtdhbaegkogklgaaDoor.joins
open Go.RowKit P2 words edges ints good adjs fns sets rets covs balls bags bitsI ups func
set_option linter.unusedVariables false

/-- two lists touch -/
def tcA (l : List Ed) (a : Int) (ys : List Int) : Bool := ys.any fun b => a == b || adj l a b
def tcL (l : List Ed) (xs ys : List Int) : Bool := xs.any fun a => tcA l a ys
theorem tcL_at {l : List Ed} {xs ys : List Int} {i k : Nat} {a b : Int} (ha : xs[i]? = some a) (hb : ys[k]? = some b) (h : (a == b || adj l a b) = true) : tcL l xs ys = true := by
  unfold tcL tcA
  rw [List.any_eq_true]
  refine ⟨a, List.mem_of_getElem? ha, ?_⟩
  rw [List.any_eq_true]
  exact ⟨b, List.mem_of_getElem? hb, h⟩
/-- the elements ahead touch none -/
def TcO (l : List Ed) (xs ys : List Int) (i : Nat) : Prop := ∀ j a, j < i → xs[j]? = some a → tcA l a ys = false
def TcI (l : List Ed) (a : Int) (ys : List Int) (k : Nat) : Prop := ∀ j b, j < k → ys[j]? = some b → (a == b || adj l a b) = false
theorem TcO.all {l : List Ed} {xs ys : List Int} (h : TcO l xs ys xs.length) : tcL l xs ys = false := by
  unfold tcL
  rw [List.any_eq_false]
  intro a ha
  obtain ⟨j, hj⟩ := List.getElem?_of_mem ha
  rw [h j a (List.getElem?_eq_some_iff.1 hj).1 hj]; simp
theorem TcI.all {l : List Ed} {xs ys : List Int} {i : Nat} {a : Int} (h : TcO l xs ys i) (ha : xs[i]? = some a) (h2 : TcI l a ys ys.length) : TcO l xs ys (i + 1) := fun j b hj hb => by
  by_cases e : j = i
  · subst e; rw [ha] at hb; cases hb
    unfold tcA
    rw [List.any_eq_false]
    intro b hb
    obtain ⟨k, hk⟩ := List.getElem?_of_mem hb
    rw [h2 k b (List.getElem?_eq_some_iff.1 hk).1 hk]; simp
  · exact h j b (by omega) hb
theorem TcI.next {l : List Ed} {ys : List Int} {k : Nat} {a b : Int} (h : TcI l a ys k) (hb : ys[k]? = some b) (hf : (a == b || adj l a b) = false) : TcI l a ys (k + 1) := fun j c hj hc => by
  by_cases e : j = k
  · subst e; rw [hb] at hc; cases hc; exact hf
  · exact h j c (by omega) hc
set_option maxHeartbeats 4000000 in
set_option maxRecDepth 100000 in
theorem l5Touch_any (s : Int) (v u u2 : Value) (l : List Ed) (xs ys : List Int) (w : World) (h : Edges w v l) (hl : l.length ≤ 1048576) (hu : Ints w u xs) (hxl : xs.length ≤ 1048576) (hu2 : Ints w u2 ys) (hyl : ys.length ≤ 1048576) :
    Calls Tryd.prog 111 #[.agg #[.int .i64 s, v], u, u2] w fun e w' => e = .returned (.bool (tcL l xs ys)) ∧ Below w.heap.size w w' := by
  obtain ⟨A, c, rfl, -⟩ := h.form
  obtain ⟨A1, c1, rfl, hc1⟩ := hu.form
  obtain ⟨A2, c2, rfl, hc2⟩ := hu2.form
  have H := Lib.hid h
  have HC1 := Lib.hid hc1
  have HC2 := Lib.hid hc2
  have HB0 : Hid (Below w.heap.size w (w.alloc (.cells #[.int .i64 s, .slice A l.length c] 29))) := (Below.refl _ _).alloc (Nat.le_refl _) _
  have HG0 := Lib.hid (Blk.new w 29 #[.int .i64 s, .slice A l.length c])
  have HK0 : Hid (TcO l xs ys 0) := fun j a hj => by omega
  have HNR := Lib.hid (fun (a b : Int) (W : World) (hW : Below w.heap.size w W) => l2Near_any s a b (.slice A l.length c) l W (H.out.below hW) hl)
  clear h hu hu2 hc1 hc2
  go_enter Tryd.func111, Tryd.ntmps111
  go_wp2_with fail
  go_loopg [7] xs.length (fun g iv wr => ∃ i : Nat, i + g = xs.length ∧ iv = .int .i64 (i : Int) ∧ Hid (TcO l xs ys i) ∧ Blk wr w.heap.size 29 #[.int .i64 s, .slice A l.length c] ∧ Below w.heap.size w wr)
  case atStart => exact ⟨0, by omega, rfl, HK0, HG0.out, HB0.out⟩
  case round =>
    clear HK0 HG0 HB0
    obtain ⟨i, hig, rfl, hno, hgb, hB⟩ := hrel
    have HG := Lib.hid hgb
    have HB := Lib.hid hB
    clear hgb hB
    cases gk with
    | zero =>
      obtain rfl : i = xs.length := by omega
      have HV : Hid (tcL l xs ys = false) := hno.out.all
      go_wp2_with fail
      go_ret
      rw [HV.out]
      exact ⟨rfl, HB.out⟩
    | succ g2 =>
      have hlt : i < xs.length := by omega
      have hlt' : (i : Int) < (xs.length : Int) := by omega
      obtain ⟨a, ha⟩ : ∃ a, xs[i]? = some a := ⟨_, List.getElem?_eq_getElem hlt⟩
      obtain ⟨g5, o5, rfl, c5⟩ := HC1.out i _ ha
      have HA := Lib.hid ha
      have HC5 := Lib.hid c5
      have HNO := Lib.hid hno.out
      have HI0 : Hid (TcI l a ys 0) := fun j b hj => by omega
      clear ha c5 hno
      go_wp2_with fail
      go_loopg [8] ys.length (fun g kv wr => ∃ k : Nat, k + g = ys.length ∧ kv = .int .i64 (k : Int) ∧ Hid (TcI l a ys k) ∧ Blk wr w.heap.size 29 #[.int .i64 s, .slice A l.length c] ∧ Below w.heap.size w wr)
      case atStart => exact ⟨0, by omega, rfl, HI0, HG.out, HB.out⟩
      case round =>
        clear HI0 HG HB
        obtain ⟨k, hkg, rfl, hni, hgb, hB⟩ := hrel
        obtain ⟨p0, p1, -, -⟩ := hgb.two
        have HG := Lib.hid hgb
        have HB := Lib.hid hB
        cases gk with
        | zero =>
          obtain rfl : k = ys.length := by omega
          have HN := Lib.hid (TcI.all HNO.out HA.out hni.out)
          clear hgb hB p0 p1
          go_wp2_with fail
          go_roundg g2
          case measure => omega
          case rel => exact ⟨i + 1, by omega, by go_num, HN, HG.out, HB.out⟩
        | succ g3 =>
          have hk : k < ys.length := by omega
          have hk' : (k : Int) < (ys.length : Int) := by omega
          obtain ⟨b, hb⟩ : ∃ b, ys[k]? = some b := ⟨_, List.getElem?_eq_getElem hk⟩
          obtain ⟨g6, o6, rfl, c6⟩ := HC2.out k _ hb
          have q5 := nearv.cell_keep HC5.out hB
          have q6 := nearv.cell_keep c6 hB
          by_cases e : a = b
          · have HV : Hid (tcL l xs ys = true) := tcL_at HA.out hb (by rw [e]; simp)
            have d0 : (a == b) = true := by rw [beq_iff_eq]; exact e
            have d4 : Below wr.heap.size wr wr.drew := (Below.refl _ _).drew
            have HE4 := Lib.hid (btrans HB.out d4)
            clear hgb hB hb c6 e
            go_wp2_with fail
            refine wp_region_held_drew (S := (fun w' : World => w'.cell? ⟨w.heap.size, 0, none⟩ = some (.int .i64 s) ∧ w'.cell? ⟨w.heap.size, 1, none⟩ = some (.slice A l.length c) ∧ w'.cell? ⟨g5, o5 + i, none⟩ = some (.int .i64 a) ∧ w'.cell? ⟨g6, o6 + k, none⟩ = some (.int .i64 b))) (by kernel_rfl) (by (try dsimp only); simp [*]) (fun hHeld => ?_)
            change wpAnyH _ _ _ _ _ _ #[false, false, false, false, false, false, false, false, false, false, false, false, false, false, false, false, false, false, false, false, false] _ _
            refine wpAnyH_take (i := 0) (oi := ⟨some 21, _, _, _, _, _⟩) (v := ?_) rfl (by kernel_rfl) (by kernel_rfl) (by kernel_rfl) (fun _ _ _ h => h) (Or.inl ⟨by rfl, ?_⟩) (by assumption) ?_
            rotate_left
            · (intro w hSw; (try dsimp only at hSw); go_simp; (try (with_reducible rfl)))
            try simp only [Act.put, List.setIfInBounds_toArray, List.set_cons_zero, List.set_cons_succ]
            refine wpAnyH_take (i := 1) (oi := ⟨some 22, _, _, _, _, _⟩) (v := ?_) rfl (by kernel_rfl) (by kernel_rfl) (by kernel_rfl) (fun _ _ _ h => h) (Or.inl ⟨by rfl, ?_⟩) (by assumption) ?_
            rotate_left
            · (intro w hSw; (try dsimp only at hSw); go_simp; (try (with_reducible rfl)))
            try simp only [Act.put, List.setIfInBounds_toArray, List.set_cons_zero, List.set_cons_succ]
            refine wpAnyH_take (i := 2) (oi := ⟨some 23, _, _, _, _, _⟩) (v := ?_) rfl (by kernel_rfl) (by kernel_rfl) (by kernel_rfl) (fun _ _ _ h => h) (Or.inl ⟨by rfl, ?_⟩) (by assumption) ?_
            rotate_left
            · (intro w hSw; (try dsimp only at hSw); go_simp; (try (with_reducible rfl)))
            try simp only [Act.put, List.setIfInBounds_toArray, List.set_cons_zero, List.set_cons_succ]
            refine wpAnyH_take (i := 3) (oi := ⟨some 24, _, _, _, _, _⟩) (v := ?_) rfl (by kernel_rfl) (by kernel_rfl) (by kernel_rfl) (fun _ _ _ h => h) (Or.inl ⟨by rfl, ?_⟩) (by assumption) ?_
            rotate_left
            · (intro w hSw; (try dsimp only at hSw); go_simp; (try (with_reducible rfl)))
            try simp only [Act.put, List.setIfInBounds_toArray, List.set_cons_zero, List.set_cons_succ]
            refine wpAnyH_take (i := 4) (oi := ⟨some 25, _, _, _, _, _⟩) (v := ?_) rfl (by kernel_rfl) (by kernel_rfl) (by kernel_rfl) (fun _ _ _ h => h) (Or.inl ⟨by rfl, ?_⟩) (by assumption) ?_
            rotate_left
            · (intro w hSw; (try dsimp only at hSw); go_simp; (try (with_reducible rfl)))
            try simp only [Act.put, List.setIfInBounds_toArray, List.set_cons_zero, List.set_cons_succ]
            refine wpAnyH_take (i := 5) (oi := ⟨some 26, _, _, _, _, _⟩) (v := ?_) rfl (by kernel_rfl) (by kernel_rfl) (by kernel_rfl) (fun _ _ _ h => h) (Or.inl ⟨by rfl, ?_⟩) (by assumption) ?_
            rotate_left
            · (intro w hSw; (try dsimp only at hSw); go_simp; (try (with_reducible rfl)))
            try simp only [Act.put, List.setIfInBounds_toArray, List.set_cons_zero, List.set_cons_succ]
            refine wpAnyH_take (i := 6) (oi := ⟨some 27, _, _, _, _, _⟩) (v := ?_) rfl (by kernel_rfl) (by kernel_rfl) (by kernel_rfl) (fun _ _ _ h => h) (Or.inl ⟨by rfl, ?_⟩) (by assumption) ?_
            rotate_left
            · (intro w hSw; (try dsimp only at hSw); go_simp; (try (with_reducible rfl)))
            try simp only [Act.put, List.setIfInBounds_toArray, List.set_cons_zero, List.set_cons_succ]
            refine wpAnyH_take (i := 7) (oi := ⟨some 28, _, _, _, _, _⟩) (v := ?_) rfl (by kernel_rfl) (by kernel_rfl) (by kernel_rfl) (fun _ _ _ h => h) (Or.inl ⟨by rfl, ?_⟩) (by assumption) ?_
            rotate_left
            · (intro w hSw; (try dsimp only at hSw); go_simp; (try (with_reducible rfl)))
            try simp only [Act.put, List.setIfInBounds_toArray, List.set_cons_zero, List.set_cons_succ]
            refine wpAnyH_take (i := 8) (oi := ⟨some 29, _, _, _, _, _⟩) (v := ?_) rfl (by kernel_rfl) (by kernel_rfl) (by kernel_rfl) (fun _ _ _ h => h) (Or.inl ⟨by rfl, ?_⟩) (by assumption) ?_
            rotate_left
            · (intro w hSw; (try dsimp only at hSw); go_simp; (try (with_reducible rfl)))
            try simp only [Act.put, List.setIfInBounds_toArray, List.set_cons_zero, List.set_cons_succ]
            refine wpAnyH_take (i := 9) (oi := ⟨some 30, _, _, _, _, _⟩) (v := ?_) rfl (by kernel_rfl) (by kernel_rfl) (by kernel_rfl) (fun _ _ _ h => h) (Or.inl ⟨by rfl, ?_⟩) (by assumption) ?_
            rotate_left
            · (intro w hSw; (try dsimp only at hSw); go_simp; (try (with_reducible rfl)))
            try simp only [Act.put, List.setIfInBounds_toArray, List.set_cons_zero, List.set_cons_succ]
            refine wpAnyH_take (i := 10) (oi := ⟨some 31, _, _, _, _, _⟩) (v := undef) rfl (by kernel_rfl) (by kernel_rfl) (by kernel_rfl) (fun _ _ _ h => h) (Or.inr ⟨by rfl, rfl⟩) (by assumption) ?_
            try simp only [Act.put, List.setIfInBounds_toArray, List.set_cons_zero, List.set_cons_succ]
            refine wpAnyH_take (i := 11) (oi := ⟨some 32, _, _, _, _, _⟩) (v := undef) rfl (by kernel_rfl) (by kernel_rfl) (by kernel_rfl) (fun _ _ _ h => h) (Or.inr ⟨by rfl, rfl⟩) (by assumption) ?_
            try simp only [Act.put, List.setIfInBounds_toArray, List.set_cons_zero, List.set_cons_succ]
            refine wpAnyH_take (i := 12) (oi := ⟨some 33, _, _, _, _, _⟩) (v := undef) rfl (by kernel_rfl) (by kernel_rfl) (by kernel_rfl) (fun _ _ _ h => h) (Or.inr ⟨by rfl, rfl⟩) (by assumption) ?_
            try simp only [Act.put, List.setIfInBounds_toArray, List.set_cons_zero, List.set_cons_succ]
            refine wpAnyH_take (i := 13) (oi := ⟨some 34, _, _, _, _, _⟩) (v := undef) rfl (by kernel_rfl) (by kernel_rfl) (by kernel_rfl) (fun _ _ _ h => h) (Or.inr ⟨by rfl, rfl⟩) (by assumption) ?_
            try simp only [Act.put, List.setIfInBounds_toArray, List.set_cons_zero, List.set_cons_succ]
            refine wpAnyH_take (i := 14) (oi := ⟨some 35, _, _, _, _, _⟩) (v := undef) rfl (by kernel_rfl) (by kernel_rfl) (by kernel_rfl) (fun _ _ _ h => h) (Or.inr ⟨by rfl, rfl⟩) (by assumption) ?_
            try simp only [Act.put, List.setIfInBounds_toArray, List.set_cons_zero, List.set_cons_succ]
            refine wpAnyH_take (i := 15) (oi := ⟨some 36, _, _, _, _, _⟩) (v := undef) rfl (by kernel_rfl) (by kernel_rfl) (by kernel_rfl) (fun _ _ _ h => h) (Or.inr ⟨by rfl, rfl⟩) (by assumption) ?_
            try simp only [Act.put, List.setIfInBounds_toArray, List.set_cons_zero, List.set_cons_succ]
            refine wpAnyH_take (i := 16) (oi := ⟨some 37, _, _, _, _, _⟩) (v := undef) rfl (by kernel_rfl) (by kernel_rfl) (by kernel_rfl) (fun _ _ _ h => h) (Or.inr ⟨by rfl, rfl⟩) (by assumption) ?_
            try simp only [Act.put, List.setIfInBounds_toArray, List.set_cons_zero, List.set_cons_succ]
            refine wpAnyH_take (i := 17) (oi := ⟨some 38, _, _, _, _, _⟩) (v := undef) rfl (by kernel_rfl) (by kernel_rfl) (by kernel_rfl) (fun _ _ _ h => h) (Or.inr ⟨by rfl, rfl⟩) (by assumption) ?_
            try simp only [Act.put, List.setIfInBounds_toArray, List.set_cons_zero, List.set_cons_succ]
            refine wpAnyH_take (i := 18) (oi := ⟨some 39, _, _, _, _, _⟩) (v := undef) rfl (by kernel_rfl) (by kernel_rfl) (by kernel_rfl) (fun _ _ _ h => h) (Or.inr ⟨by rfl, rfl⟩) (by assumption) ?_
            try simp only [Act.put, List.setIfInBounds_toArray, List.set_cons_zero, List.set_cons_succ]
            refine wpAnyH_take (i := 19) (oi := ⟨some 40, _, _, _, _, _⟩) (v := undef) rfl (by kernel_rfl) (by kernel_rfl) (by kernel_rfl) (fun _ _ _ h => h) (Or.inr ⟨by rfl, rfl⟩) (by assumption) ?_
            try simp only [Act.put, List.setIfInBounds_toArray, List.set_cons_zero, List.set_cons_succ]
            refine wpAnyH_take (i := 20) (oi := ⟨some 41, _, _, _, _, _⟩) (v := ?_) rfl (by kernel_rfl) (by kernel_rfl) (by kernel_rfl) (fun _ _ _ h => h) (Or.inl ⟨by rfl, ?_⟩) (by assumption) ?_
            rotate_left
            · (intro w hSw; (try dsimp only at hSw); go_simp; (try (with_reducible rfl)))
            try simp only [Act.put, List.setIfInBounds_toArray, List.set_cons_zero, List.set_cons_succ]
            refine wpAnyH_done (by kernel_rfl) ?_ _
            go_wp2_with fail
            go_ret
            rw [HV.out]
            exact ⟨rfl, HE4.out⟩
          · have d0 : (a == b) = false := by rw [beq_eq_false_iff_ne]; exact e
            have HNE := Lib.hid (HNR.out a b wr.drew hB.drew)
            cases hj : adj l a b with
            | true =>
              have HV : Hid (tcL l xs ys = true) := tcL_at HA.out hb (by rw [hj]; simp)
              rw [hj] at HNE
              clear hgb hB hb c6 e hj
              go_wp2_with fail
              refine wp_region_held_drew (S := (fun w' : World => w'.cell? ⟨w.heap.size, 0, none⟩ = some (.int .i64 s) ∧ w'.cell? ⟨w.heap.size, 1, none⟩ = some (.slice A l.length c) ∧ w'.cell? ⟨g5, o5 + i, none⟩ = some (.int .i64 a) ∧ w'.cell? ⟨g6, o6 + k, none⟩ = some (.int .i64 b))) (by kernel_rfl) (by (try dsimp only); simp [*]) (fun hHeld => ?_)
              change wpAnyH _ _ _ _ _ _ #[false, false, false, false, false, false, false, false, false, false, false, false, false, false, false, false, false, false, false, false, false] _ _
              refine wpAnyH_take (i := 0) (oi := ⟨some 21, _, _, _, _, _⟩) (v := ?_) rfl (by kernel_rfl) (by kernel_rfl) (by kernel_rfl) (fun _ _ _ h => h) (Or.inl ⟨by rfl, ?_⟩) (by assumption) ?_
              rotate_left
              · (intro w hSw; (try dsimp only at hSw); go_simp; (try (with_reducible rfl)))
              try simp only [Act.put, List.setIfInBounds_toArray, List.set_cons_zero, List.set_cons_succ]
              refine wpAnyH_take (i := 1) (oi := ⟨some 22, _, _, _, _, _⟩) (v := ?_) rfl (by kernel_rfl) (by kernel_rfl) (by kernel_rfl) (fun _ _ _ h => h) (Or.inl ⟨by rfl, ?_⟩) (by assumption) ?_
              rotate_left
              · (intro w hSw; (try dsimp only at hSw); go_simp; (try (with_reducible rfl)))
              try simp only [Act.put, List.setIfInBounds_toArray, List.set_cons_zero, List.set_cons_succ]
              refine wpAnyH_take (i := 2) (oi := ⟨some 23, _, _, _, _, _⟩) (v := ?_) rfl (by kernel_rfl) (by kernel_rfl) (by kernel_rfl) (fun _ _ _ h => h) (Or.inl ⟨by rfl, ?_⟩) (by assumption) ?_
              rotate_left
              · (intro w hSw; (try dsimp only at hSw); go_simp; (try (with_reducible rfl)))
              try simp only [Act.put, List.setIfInBounds_toArray, List.set_cons_zero, List.set_cons_succ]
              refine wpAnyH_take (i := 3) (oi := ⟨some 24, _, _, _, _, _⟩) (v := ?_) rfl (by kernel_rfl) (by kernel_rfl) (by kernel_rfl) (fun _ _ _ h => h) (Or.inl ⟨by rfl, ?_⟩) (by assumption) ?_
              rotate_left
              · (intro w hSw; (try dsimp only at hSw); go_simp; (try (with_reducible rfl)))
              try simp only [Act.put, List.setIfInBounds_toArray, List.set_cons_zero, List.set_cons_succ]
              refine wpAnyH_take (i := 4) (oi := ⟨some 25, _, _, _, _, _⟩) (v := ?_) rfl (by kernel_rfl) (by kernel_rfl) (by kernel_rfl) (fun _ _ _ h => h) (Or.inl ⟨by rfl, ?_⟩) (by assumption) ?_
              rotate_left
              · (intro w hSw; (try dsimp only at hSw); go_simp; (try (with_reducible rfl)))
              try simp only [Act.put, List.setIfInBounds_toArray, List.set_cons_zero, List.set_cons_succ]
              refine wpAnyH_take (i := 5) (oi := ⟨some 26, _, _, _, _, _⟩) (v := ?_) rfl (by kernel_rfl) (by kernel_rfl) (by kernel_rfl) (fun _ _ _ h => h) (Or.inl ⟨by rfl, ?_⟩) (by assumption) ?_
              rotate_left
              · (intro w hSw; (try dsimp only at hSw); go_simp; (try (with_reducible rfl)))
              try simp only [Act.put, List.setIfInBounds_toArray, List.set_cons_zero, List.set_cons_succ]
              refine wpAnyH_take (i := 6) (oi := ⟨some 27, _, _, _, _, _⟩) (v := ?_) rfl (by kernel_rfl) (by kernel_rfl) (by kernel_rfl) (fun _ _ _ h => h) (Or.inl ⟨by rfl, ?_⟩) (by assumption) ?_
              rotate_left
              · (intro w hSw; (try dsimp only at hSw); go_simp; (try (with_reducible rfl)))
              try simp only [Act.put, List.setIfInBounds_toArray, List.set_cons_zero, List.set_cons_succ]
              refine wpAnyH_take (i := 7) (oi := ⟨some 28, _, _, _, _, _⟩) (v := ?_) rfl (by kernel_rfl) (by kernel_rfl) (by kernel_rfl) (fun _ _ _ h => h) (Or.inl ⟨by rfl, ?_⟩) (by assumption) ?_
              rotate_left
              · (intro w hSw; (try dsimp only at hSw); go_simp; (try (with_reducible rfl)))
              try simp only [Act.put, List.setIfInBounds_toArray, List.set_cons_zero, List.set_cons_succ]
              refine wpAnyH_take (i := 8) (oi := ⟨some 29, _, _, _, _, _⟩) (v := ?_) rfl (by kernel_rfl) (by kernel_rfl) (by kernel_rfl) (fun _ _ _ h => h) (Or.inl ⟨by rfl, ?_⟩) (by assumption) ?_
              rotate_left
              · (intro w hSw; (try dsimp only at hSw); go_simp; (try (with_reducible rfl)))
              try simp only [Act.put, List.setIfInBounds_toArray, List.set_cons_zero, List.set_cons_succ]
              refine wpAnyH_take (i := 9) (oi := ⟨some 30, _, _, _, _, _⟩) (v := ?_) rfl (by kernel_rfl) (by kernel_rfl) (by kernel_rfl) (fun _ _ _ h => h) (Or.inl ⟨by rfl, ?_⟩) (by assumption) ?_
              rotate_left
              · (intro w hSw; (try dsimp only at hSw); go_simp; (try (with_reducible rfl)))
              try simp only [Act.put, List.setIfInBounds_toArray, List.set_cons_zero, List.set_cons_succ]
              refine wpAnyH_take (i := 10) (oi := ⟨some 31, _, _, _, _, _⟩) (v := ?_) rfl (by kernel_rfl) (by kernel_rfl) (by kernel_rfl) (fun _ _ _ h => h) (Or.inl ⟨by rfl, ?_⟩) (by assumption) ?_
              rotate_left
              · (intro w hSw; (try dsimp only at hSw); go_simp; (try (with_reducible rfl)))
              try simp only [Act.put, List.setIfInBounds_toArray, List.set_cons_zero, List.set_cons_succ]
              refine wpAnyH_take (i := 11) (oi := ⟨some 32, _, _, _, _, _⟩) (v := ?_) rfl (by kernel_rfl) (by kernel_rfl) (by kernel_rfl) (fun _ _ _ h => h) (Or.inl ⟨by rfl, ?_⟩) (by assumption) ?_
              rotate_left
              · (intro w hSw; (try dsimp only at hSw); go_simp; (try (with_reducible rfl)))
              try simp only [Act.put, List.setIfInBounds_toArray, List.set_cons_zero, List.set_cons_succ]
              refine wpAnyH_take (i := 12) (oi := ⟨some 33, _, _, _, _, _⟩) (v := ?_) rfl (by kernel_rfl) (by kernel_rfl) (by kernel_rfl) (fun _ _ _ h => h) (Or.inl ⟨by rfl, ?_⟩) (by assumption) ?_
              rotate_left
              · (intro w hSw; (try dsimp only at hSw); go_simp; (try (with_reducible rfl)))
              try simp only [Act.put, List.setIfInBounds_toArray, List.set_cons_zero, List.set_cons_succ]
              refine wpAnyH_take (i := 13) (oi := ⟨some 34, _, _, _, _, _⟩) (v := ?_) rfl (by kernel_rfl) (by kernel_rfl) (by kernel_rfl) (fun _ _ _ h => h) (Or.inl ⟨by rfl, ?_⟩) (by assumption) ?_
              rotate_left
              · (intro w hSw; (try dsimp only at hSw); go_simp; (try (with_reducible rfl)))
              try simp only [Act.put, List.setIfInBounds_toArray, List.set_cons_zero, List.set_cons_succ]
              refine wpAnyH_take (i := 14) (oi := ⟨some 35, _, _, _, _, _⟩) (v := ?_) rfl (by kernel_rfl) (by kernel_rfl) (by kernel_rfl) (fun _ _ _ h => h) (Or.inl ⟨by rfl, ?_⟩) (by assumption) ?_
              rotate_left
              · (intro w hSw; (try dsimp only at hSw); go_simp; (try (with_reducible rfl)))
              try simp only [Act.put, List.setIfInBounds_toArray, List.set_cons_zero, List.set_cons_succ]
              refine wpAnyH_take (i := 15) (oi := ⟨some 36, _, _, _, _, _⟩) (v := ?_) rfl (by kernel_rfl) (by kernel_rfl) (by kernel_rfl) (fun _ _ _ h => h) (Or.inl ⟨by rfl, ?_⟩) (by assumption) ?_
              rotate_left
              · (intro w hSw; (try dsimp only at hSw); go_simp; (try (with_reducible rfl)))
              try simp only [Act.put, List.setIfInBounds_toArray, List.set_cons_zero, List.set_cons_succ]
              refine wpAnyH_take (i := 16) (oi := ⟨some 37, _, _, _, _, _⟩) (v := ?_) rfl (by kernel_rfl) (by kernel_rfl) (by kernel_rfl) (fun _ _ _ h => h) (Or.inl ⟨by rfl, ?_⟩) (by assumption) ?_
              rotate_left
              · (intro w hSw; (try dsimp only at hSw); go_simp; (try (with_reducible rfl)))
              try simp only [Act.put, List.setIfInBounds_toArray, List.set_cons_zero, List.set_cons_succ]
              refine wpAnyH_take (i := 17) (oi := ⟨some 38, _, _, _, _, _⟩) (v := ?_) rfl (by kernel_rfl) (by kernel_rfl) (by kernel_rfl) (fun _ _ _ h => h) (Or.inl ⟨by rfl, ?_⟩) (by assumption) ?_
              rotate_left
              · (intro w hSw; (try dsimp only at hSw); go_simp; (try (with_reducible rfl)))
              try simp only [Act.put, List.setIfInBounds_toArray, List.set_cons_zero, List.set_cons_succ]
              refine wpAnyH_take (i := 18) (oi := ⟨some 39, _, _, _, _, _⟩) (v := ?_) rfl (by kernel_rfl) (by kernel_rfl) (by kernel_rfl) (fun _ _ _ h => h) (Or.inl ⟨by rfl, ?_⟩) (by assumption) ?_
              rotate_left
              · (intro w hSw; (try dsimp only at hSw); go_simp; (try (with_reducible rfl)))
              try simp only [Act.put, List.setIfInBounds_toArray, List.set_cons_zero, List.set_cons_succ]
              refine wpAnyH_ready (rs := [19]) (by kernel_rfl) (by simp) ?_
              refine AllReadyH.cons (o := ⟨some 40, _, _, _, _, _⟩) rfl (fun K hK => ?_) AllReadyH.nil
              go_simp
              refine HNE.out.mono ?_; rintro e w3 ⟨rfl, b3⟩; have d3 : Below wr.heap.size wr w3 := btrans (Below.refl _ _).drew b3; obtain ⟨k0, k1, -, -⟩ := (HG.out.below d3 HG.out.lt).two; have q7 := nearv.cell_keep q5 d3; have q8 := nearv.cell_keep q6 d3
              go_wp2_with fail
              refine hK.out _ _ (by (try dsimp only); simp [*]) (fun hHeld => ?_)
              clear hK K
              try simp only [List.setIfInBounds_toArray, List.set_cons_zero, List.set_cons_succ]
              refine wpAnyH_take (i := 20) (oi := ⟨some 41, _, _, _, _, _⟩) (v := ?_) rfl (by kernel_rfl) (by kernel_rfl) (by kernel_rfl) (fun _ _ _ h => h) (Or.inl ⟨by rfl, ?_⟩) (by assumption) ?_
              rotate_left
              · (intro w hSw; (try dsimp only at hSw); go_simp; (try (with_reducible rfl)))
              try simp only [Act.put, List.setIfInBounds_toArray, List.set_cons_zero, List.set_cons_succ]
              refine wpAnyH_done (by kernel_rfl) ?_ _
              have HB3 := Lib.hid (btrans HB.out d3)
              clear b3 d3 k0 k1 q7 q8 q5 q6 p0 p1 hHeld
              go_wp2_with fail
              go_ret
              rw [HV.out]
              exact ⟨rfl, HB3.out⟩
            | false =>
              have HN := Lib.hid (hni.out.next hb (by rw [hj, d0]; rfl))
              rw [hj] at HNE
              clear hgb hB hb c6 e hj
              go_wp2_with fail
              refine wp_region_held_drew (S := (fun w' : World => w'.cell? ⟨w.heap.size, 0, none⟩ = some (.int .i64 s) ∧ w'.cell? ⟨w.heap.size, 1, none⟩ = some (.slice A l.length c) ∧ w'.cell? ⟨g5, o5 + i, none⟩ = some (.int .i64 a) ∧ w'.cell? ⟨g6, o6 + k, none⟩ = some (.int .i64 b))) (by kernel_rfl) (by (try dsimp only); simp [*]) (fun hHeld => ?_)
              change wpAnyH _ _ _ _ _ _ #[false, false, false, false, false, false, false, false, false, false, false, false, false, false, false, false, false, false, false, false, false] _ _
              refine wpAnyH_take (i := 0) (oi := ⟨some 21, _, _, _, _, _⟩) (v := ?_) rfl (by kernel_rfl) (by kernel_rfl) (by kernel_rfl) (fun _ _ _ h => h) (Or.inl ⟨by rfl, ?_⟩) (by assumption) ?_
              rotate_left
              · (intro w hSw; (try dsimp only at hSw); go_simp; (try (with_reducible rfl)))
              try simp only [Act.put, List.setIfInBounds_toArray, List.set_cons_zero, List.set_cons_succ]
              refine wpAnyH_take (i := 1) (oi := ⟨some 22, _, _, _, _, _⟩) (v := ?_) rfl (by kernel_rfl) (by kernel_rfl) (by kernel_rfl) (fun _ _ _ h => h) (Or.inl ⟨by rfl, ?_⟩) (by assumption) ?_
              rotate_left
              · (intro w hSw; (try dsimp only at hSw); go_simp; (try (with_reducible rfl)))
              try simp only [Act.put, List.setIfInBounds_toArray, List.set_cons_zero, List.set_cons_succ]
              refine wpAnyH_take (i := 2) (oi := ⟨some 23, _, _, _, _, _⟩) (v := ?_) rfl (by kernel_rfl) (by kernel_rfl) (by kernel_rfl) (fun _ _ _ h => h) (Or.inl ⟨by rfl, ?_⟩) (by assumption) ?_
              rotate_left
              · (intro w hSw; (try dsimp only at hSw); go_simp; (try (with_reducible rfl)))
              try simp only [Act.put, List.setIfInBounds_toArray, List.set_cons_zero, List.set_cons_succ]
              refine wpAnyH_take (i := 3) (oi := ⟨some 24, _, _, _, _, _⟩) (v := ?_) rfl (by kernel_rfl) (by kernel_rfl) (by kernel_rfl) (fun _ _ _ h => h) (Or.inl ⟨by rfl, ?_⟩) (by assumption) ?_
              rotate_left
              · (intro w hSw; (try dsimp only at hSw); go_simp; (try (with_reducible rfl)))
              try simp only [Act.put, List.setIfInBounds_toArray, List.set_cons_zero, List.set_cons_succ]
              refine wpAnyH_take (i := 4) (oi := ⟨some 25, _, _, _, _, _⟩) (v := ?_) rfl (by kernel_rfl) (by kernel_rfl) (by kernel_rfl) (fun _ _ _ h => h) (Or.inl ⟨by rfl, ?_⟩) (by assumption) ?_
              rotate_left
              · (intro w hSw; (try dsimp only at hSw); go_simp; (try (with_reducible rfl)))
              try simp only [Act.put, List.setIfInBounds_toArray, List.set_cons_zero, List.set_cons_succ]
              refine wpAnyH_take (i := 5) (oi := ⟨some 26, _, _, _, _, _⟩) (v := ?_) rfl (by kernel_rfl) (by kernel_rfl) (by kernel_rfl) (fun _ _ _ h => h) (Or.inl ⟨by rfl, ?_⟩) (by assumption) ?_
              rotate_left
              · (intro w hSw; (try dsimp only at hSw); go_simp; (try (with_reducible rfl)))
              try simp only [Act.put, List.setIfInBounds_toArray, List.set_cons_zero, List.set_cons_succ]
              refine wpAnyH_take (i := 6) (oi := ⟨some 27, _, _, _, _, _⟩) (v := ?_) rfl (by kernel_rfl) (by kernel_rfl) (by kernel_rfl) (fun _ _ _ h => h) (Or.inl ⟨by rfl, ?_⟩) (by assumption) ?_
              rotate_left
              · (intro w hSw; (try dsimp only at hSw); go_simp; (try (with_reducible rfl)))
              try simp only [Act.put, List.setIfInBounds_toArray, List.set_cons_zero, List.set_cons_succ]
              refine wpAnyH_take (i := 7) (oi := ⟨some 28, _, _, _, _, _⟩) (v := ?_) rfl (by kernel_rfl) (by kernel_rfl) (by kernel_rfl) (fun _ _ _ h => h) (Or.inl ⟨by rfl, ?_⟩) (by assumption) ?_
              rotate_left
              · (intro w hSw; (try dsimp only at hSw); go_simp; (try (with_reducible rfl)))
              try simp only [Act.put, List.setIfInBounds_toArray, List.set_cons_zero, List.set_cons_succ]
              refine wpAnyH_take (i := 8) (oi := ⟨some 29, _, _, _, _, _⟩) (v := ?_) rfl (by kernel_rfl) (by kernel_rfl) (by kernel_rfl) (fun _ _ _ h => h) (Or.inl ⟨by rfl, ?_⟩) (by assumption) ?_
              rotate_left
              · (intro w hSw; (try dsimp only at hSw); go_simp; (try (with_reducible rfl)))
              try simp only [Act.put, List.setIfInBounds_toArray, List.set_cons_zero, List.set_cons_succ]
              refine wpAnyH_take (i := 9) (oi := ⟨some 30, _, _, _, _, _⟩) (v := ?_) rfl (by kernel_rfl) (by kernel_rfl) (by kernel_rfl) (fun _ _ _ h => h) (Or.inl ⟨by rfl, ?_⟩) (by assumption) ?_
              rotate_left
              · (intro w hSw; (try dsimp only at hSw); go_simp; (try (with_reducible rfl)))
              try simp only [Act.put, List.setIfInBounds_toArray, List.set_cons_zero, List.set_cons_succ]
              refine wpAnyH_take (i := 10) (oi := ⟨some 31, _, _, _, _, _⟩) (v := ?_) rfl (by kernel_rfl) (by kernel_rfl) (by kernel_rfl) (fun _ _ _ h => h) (Or.inl ⟨by rfl, ?_⟩) (by assumption) ?_
              rotate_left
              · (intro w hSw; (try dsimp only at hSw); go_simp; (try (with_reducible rfl)))
              try simp only [Act.put, List.setIfInBounds_toArray, List.set_cons_zero, List.set_cons_succ]
              refine wpAnyH_take (i := 11) (oi := ⟨some 32, _, _, _, _, _⟩) (v := ?_) rfl (by kernel_rfl) (by kernel_rfl) (by kernel_rfl) (fun _ _ _ h => h) (Or.inl ⟨by rfl, ?_⟩) (by assumption) ?_
              rotate_left
              · (intro w hSw; (try dsimp only at hSw); go_simp; (try (with_reducible rfl)))
              try simp only [Act.put, List.setIfInBounds_toArray, List.set_cons_zero, List.set_cons_succ]
              refine wpAnyH_take (i := 12) (oi := ⟨some 33, _, _, _, _, _⟩) (v := ?_) rfl (by kernel_rfl) (by kernel_rfl) (by kernel_rfl) (fun _ _ _ h => h) (Or.inl ⟨by rfl, ?_⟩) (by assumption) ?_
              rotate_left
              · (intro w hSw; (try dsimp only at hSw); go_simp; (try (with_reducible rfl)))
              try simp only [Act.put, List.setIfInBounds_toArray, List.set_cons_zero, List.set_cons_succ]
              refine wpAnyH_take (i := 13) (oi := ⟨some 34, _, _, _, _, _⟩) (v := ?_) rfl (by kernel_rfl) (by kernel_rfl) (by kernel_rfl) (fun _ _ _ h => h) (Or.inl ⟨by rfl, ?_⟩) (by assumption) ?_
              rotate_left
              · (intro w hSw; (try dsimp only at hSw); go_simp; (try (with_reducible rfl)))
              try simp only [Act.put, List.setIfInBounds_toArray, List.set_cons_zero, List.set_cons_succ]
              refine wpAnyH_take (i := 14) (oi := ⟨some 35, _, _, _, _, _⟩) (v := ?_) rfl (by kernel_rfl) (by kernel_rfl) (by kernel_rfl) (fun _ _ _ h => h) (Or.inl ⟨by rfl, ?_⟩) (by assumption) ?_
              rotate_left
              · (intro w hSw; (try dsimp only at hSw); go_simp; (try (with_reducible rfl)))
              try simp only [Act.put, List.setIfInBounds_toArray, List.set_cons_zero, List.set_cons_succ]
              refine wpAnyH_take (i := 15) (oi := ⟨some 36, _, _, _, _, _⟩) (v := ?_) rfl (by kernel_rfl) (by kernel_rfl) (by kernel_rfl) (fun _ _ _ h => h) (Or.inl ⟨by rfl, ?_⟩) (by assumption) ?_
              rotate_left
              · (intro w hSw; (try dsimp only at hSw); go_simp; (try (with_reducible rfl)))
              try simp only [Act.put, List.setIfInBounds_toArray, List.set_cons_zero, List.set_cons_succ]
              refine wpAnyH_take (i := 16) (oi := ⟨some 37, _, _, _, _, _⟩) (v := ?_) rfl (by kernel_rfl) (by kernel_rfl) (by kernel_rfl) (fun _ _ _ h => h) (Or.inl ⟨by rfl, ?_⟩) (by assumption) ?_
              rotate_left
              · (intro w hSw; (try dsimp only at hSw); go_simp; (try (with_reducible rfl)))
              try simp only [Act.put, List.setIfInBounds_toArray, List.set_cons_zero, List.set_cons_succ]
              refine wpAnyH_take (i := 17) (oi := ⟨some 38, _, _, _, _, _⟩) (v := ?_) rfl (by kernel_rfl) (by kernel_rfl) (by kernel_rfl) (fun _ _ _ h => h) (Or.inl ⟨by rfl, ?_⟩) (by assumption) ?_
              rotate_left
              · (intro w hSw; (try dsimp only at hSw); go_simp; (try (with_reducible rfl)))
              try simp only [Act.put, List.setIfInBounds_toArray, List.set_cons_zero, List.set_cons_succ]
              refine wpAnyH_take (i := 18) (oi := ⟨some 39, _, _, _, _, _⟩) (v := ?_) rfl (by kernel_rfl) (by kernel_rfl) (by kernel_rfl) (fun _ _ _ h => h) (Or.inl ⟨by rfl, ?_⟩) (by assumption) ?_
              rotate_left
              · (intro w hSw; (try dsimp only at hSw); go_simp; (try (with_reducible rfl)))
              try simp only [Act.put, List.setIfInBounds_toArray, List.set_cons_zero, List.set_cons_succ]
              refine wpAnyH_ready (rs := [19]) (by kernel_rfl) (by simp) ?_
              refine AllReadyH.cons (o := ⟨some 40, _, _, _, _, _⟩) rfl (fun K hK => ?_) AllReadyH.nil
              go_simp
              refine HNE.out.mono ?_; rintro e w3 ⟨rfl, b3⟩; have d3 : Below wr.heap.size wr w3 := btrans (Below.refl _ _).drew b3; obtain ⟨k0, k1, -, -⟩ := (HG.out.below d3 HG.out.lt).two; have q7 := nearv.cell_keep q5 d3; have q8 := nearv.cell_keep q6 d3
              go_wp2_with fail
              refine hK.out _ _ (by (try dsimp only); simp [*]) (fun hHeld => ?_)
              clear hK K
              try simp only [List.setIfInBounds_toArray, List.set_cons_zero, List.set_cons_succ]
              refine wpAnyH_take (i := 20) (oi := ⟨some 41, _, _, _, _, _⟩) (v := ?_) rfl (by kernel_rfl) (by kernel_rfl) (by kernel_rfl) (fun _ _ _ h => h) (Or.inl ⟨by rfl, ?_⟩) (by assumption) ?_
              rotate_left
              · (intro w hSw; (try dsimp only at hSw); go_simp; (try (with_reducible rfl)))
              try simp only [Act.put, List.setIfInBounds_toArray, List.set_cons_zero, List.set_cons_succ]
              refine wpAnyH_done (by kernel_rfl) ?_ _
              have HG3 := Lib.hid (HG.out.below d3 HG.out.lt)
              have HB3 := Lib.hid (btrans HB.out d3)
              clear b3 d3 k0 k1 q7 q8 q5 q6 p0 p1 hHeld
              go_wp2_with fail
              go_roundg g3
              case measure => omega
              case rel => exact ⟨k + 1, by omega, by go_num, HN, HG3.out, HB3.out⟩
end Go.Proofs.YtdhbaegkogklgaaDoor.joins

/- The parts of a set of nodes, as the model collects them. -/
namespace Go.Proofs.YtdhbaegkogklgaaDoor.reach
open Go.RowKit P2 words edges ints fns sets covs
set_option linter.unusedVariables false

theorem Rch.trans {n : Nat} {J : Nat → Nat → Bool} {q : Nat → Bool} {x y z : Nat} (h : Rch n J q x y) (k : Rch n J q y z) : Rch n J q x z := by
  induction k with
  | base => exact h
  | step _ h1 h2 h3 ih => exact .step ih h1 h2 h3
noncomputable def leastB (n : Nat) (J : Nat → Nat → Bool) (q : Nat → Bool) (y : Nat) : Bool := @decide (∀ z, z < y → q z = true → ¬ Rch n J q z y) (Classical.propDecidable _)
theorem leastB_iff {n : Nat} {J : Nat → Nat → Bool} {q : Nat → Bool} {y : Nat} : leastB n J q y = true ↔ ∀ z, z < y → q z = true → ¬ Rch n J q z y := by
  unfold leastB; exact @decide_eq_true_iff _ (Classical.propDecidable _)
noncomputable def partsT (n : Nat) (J : Nat → Nat → Bool) (q : Nat → Bool) (i : Nat) : List (List Int) := (((nw q n).take i).filter fun y => leastB n J q y.toNat).map fun y => nw (reachB n J q y.toNat) n
noncomputable def partsL (n : Nat) (J : Nat → Nat → Bool) (q : Nat → Bool) : List (List Int) := partsT n J q (nw q n).length
section
variable {n : Nat} {J : Nat → Nat → Bool} {q : Nat → Bool} {i y : Nat} {p : Nat → Bool}
theorem partsT_zero : partsT n J q 0 = [] := rfl
theorem partsT_yes (hy : (nw q n)[i]? = some (y : Int)) (h : leastB n J q y = true) : partsT n J q (i + 1) = partsT n J q i ++ [nw (reachB n J q y) n] := by
  unfold partsT
  rw [List.take_add_one, hy, List.filter_append, List.map_append]
  simp [h]
theorem partsT_no (hy : (nw q n)[i]? = some (y : Int)) (h : leastB n J q y = false) : partsT n J q (i + 1) = partsT n J q i := by
  unfold partsT
  rw [List.take_add_one, hy, List.filter_append, List.map_append]
  simp [h]
theorem partsT_len (i : Nat) : (partsT n J q i).length ≤ n := by
  unfold partsT
  rw [List.length_map]
  have h1 := List.length_filter_le (fun y : Int => leastB n J q y.toNat) ((nw q n).take i)
  have h2 := nw_len q n
  rw [List.length_take] at h1
  omega
theorem partsT_row {r : List Int} (h : r ∈ partsT n J q i) : r.length ≤ n := by
  unfold partsT at h
  obtain ⟨y, _, rfl⟩ := List.mem_map.1 h
  exact nw_len _ _
/-- what has been seen -/
def SeenIs (n : Nat) (J : Nat → Nat → Bool) (q : Nat → Bool) (i : Nat) (p : Nat → Bool) : Prop := ∀ z, z < n → (p z = true ↔ ∃ j y : Nat, j < i ∧ (nw q n)[j]? = some (y : Int) ∧ Rch n J q y z)
theorem SeenIs.zero : SeenIs n J q 0 (fun _ => false) := fun z _ => ⟨fun h => by simp at h, fun ⟨j, y, hj, _⟩ => by omega⟩
theorem SeenIs.least (h : SeenIs n J q i p) (hy : (nw q n)[i]? = some (y : Int)) (hyn : y < n) : leastB n J q y = !p y := by
  cases hp : p y with
  | true =>
    obtain ⟨j, z, hj, hz, hr⟩ := (h y hyn).1 hp
    have hlt := (nw_asc q n).at_ hj hz hy
    obtain ⟨z', hz', hzn, hqz⟩ := nw_at hz
    have h9 : z = z' := by omega
    subst h9
    cases hl : leastB n J q y with
    | false => rfl
    | true => exact absurd hr (leastB_iff.1 hl z (by omega) hqz)
  | false =>
    refine leastB_iff.2 fun z hz hqz hr => ?_
    obtain ⟨j, hj, hjz⟩ := at_nw hqz (by omega : z < n)
    have hji : j < i := by
      apply Classical.byContradiction
      intro hh
      rcases Nat.lt_or_ge i j with h1 | h1
      · have := (nw_asc q n).at_ h1 hy hjz; omega
      · have h2 : j = i := by omega
        subst h2
        rw [hy] at hjz
        have h9 : (y : Int) = (z : Int) := by simpa using hjz
        omega
    have := (h y hyn).2 ⟨j, z, hji, hjz, hr⟩
    rw [hp] at this; cases this
theorem SeenIs.skip (h : SeenIs n J q i p) (hy : (nw q n)[i]? = some (y : Int)) (hyn : y < n) (hp : p y = true) : SeenIs n J q (i + 1) p := fun z hz => by
  rw [h z hz]
  constructor
  · rintro ⟨j, a, hj, ha, hr⟩; exact ⟨j, a, by omega, ha, hr⟩
  · rintro ⟨j, a, hj, ha, hr⟩
    by_cases e : j = i
    · subst e
      rw [hy] at ha
      have h9 : (y : Int) = (a : Int) := by simpa using ha
      have h8 : y = a := by omega
      subst h8
      obtain ⟨j', b, hj', hb, hr'⟩ := (h y hyn).1 hp
      exact ⟨j', b, hj', hb, hr'.trans hr⟩
    · exact ⟨j, a, by omega, ha, hr⟩
theorem SeenIs.take {p' : Nat → Bool} (h : SeenIs n J q i p) (hy : (nw q n)[i]? = some (y : Int)) (hp : ∀ z, z < n → (p' z = true ↔ p z = true ∨ reachB n J q y z = true)) : SeenIs n J q (i + 1) p' := fun z hz => by
  rw [hp z hz, h z hz, reachB_iff]
  constructor
  · rintro (⟨j, a, hj, ha, hr⟩ | hr)
    · exact ⟨j, a, by omega, ha, hr⟩
    · exact ⟨i, y, by omega, hy, hr⟩
  · rintro ⟨j, a, hj, ha, hr⟩
    by_cases e : j = i
    · subst e
      rw [hy] at ha
      have h9 : (y : Int) = (a : Int) := by simpa using ha
      have h8 : y = a := by omega
      subst h8
      exact .inr hr
    · exact .inl ⟨j, a, by omega, ha, hr⟩
/-- so many nodes of a part are seen, too -/
def Got (n : Nat) (p r : Nat → Bool) (k : Nat) (p' : Nat → Bool) : Prop := ∀ z, z < n → (p' z = true ↔ p z = true ∨ ∃ j, j < k ∧ (nw r n)[j]? = some (z : Int))
theorem Got.zero (p r : Nat → Bool) : Got n p r 0 p := fun z _ => ⟨.inl, fun h => h.elim id (fun ⟨j, hj, _⟩ => by omega)⟩
theorem Got.succ {r p' : Nat → Bool} {k a : Nat} (h : Got n p r k p') (ha : (nw r n)[k]? = some (a : Int)) : Got n p r (k + 1) (pput p' a) := fun z hz => by
  unfold pput
  rw [Bool.or_eq_true, h z hz, decide_eq_true_iff]
  constructor
  · rintro ((h1 | ⟨j, hj, hjz⟩) | rfl)
    · exact .inl h1
    · exact .inr ⟨j, by omega, hjz⟩
    · exact .inr ⟨k, by omega, ha⟩
  · rintro (h1 | ⟨j, hj, hjz⟩)
    · exact .inl (.inl h1)
    · by_cases e : j = k
      · subst e
        rw [ha] at hjz
        have h9 : (a : Int) = (z : Int) := by simpa using hjz
        exact .inr (by omega)
      · exact .inl (.inr ⟨j, by omega, hjz⟩)
theorem Got.all {r p' : Nat → Bool} (h : Got n p r (nw r n).length p') : ∀ z, z < n → (p' z = true ↔ p z = true ∨ r z = true) := fun z hz => by
  rw [h z hz]
  constructor
  · rintro (h1 | ⟨j, _, hj⟩)
    · exact .inl h1
    · obtain ⟨z', e, _, hr⟩ := nw_at hj
      have : z = z' := by omega
      subst this
      exact .inr hr
  · rintro (h1 | h1)
    · exact .inl h1
    · obtain ⟨j, hj, hjz⟩ := at_nw h1 hz
      exact .inr ⟨j, hj, hjz⟩
end
end Go.Proofs.YtdhbaegkogklgaaDoor.reach

/- The contract of the model's l2Reach. -/
namespace Go.Proofs.YtdhbaegkogklgaaDoor.reach
open Go.RowKit P2 words edges ints good near adjs fns rets sets covs nearv balls
set_option linter.unusedVariables false

def J2 (l : List Ed) (a b : Nat) : Bool := adj l a b
set_option maxHeartbeats 8000000 in
set_option maxRecDepth 100000 in
theorem l2Reach_any (n x : Nat) (q : Nat → Bool) (v u : Value) (l : List Ed) (w : World) (h : Edges w v l) (hl : l.length ≤ 1048576) (hu : Ints w u (nw q n)) (hn8 : n ≤ 8) (hx : x < n) (hqx : q x = true) :
    Calls Tryd.prog 133 #[.agg #[.int .i64 (n : Int), v], u, .int .i64 (x : Int)] w (RowI w (nw (reachB n (J2 l) q x) n)) := by
  obtain ⟨A, c, rfl, -⟩ := h.form
  obtain ⟨A2, c2, rfl, hc2⟩ := hu.form
  have H := Lib.hid h
  have HU := Lib.hid hu
  have HC2 := Lib.hid hc2
  have HQX := Lib.hid hqx
  have hsl := nw_len q n
  have HB0 : Hid (Below w.heap.size w ((w.alloc (.cells #[.int .i64 (n : Int), .slice A l.length c] 29)).alloc (.cells #[.int .i64 (x : Int)] 3))) := ((Below.refl _ _).alloc (Nat.le_refl _) _).alloc (by simp) _
  have HG0 := Lib.hid ((Blk.new w 29 #[.int .i64 (n : Int), .slice A l.length c]).alloc (.cells #[.int .i64 (x : Int)] 3))
  have HP0 : Hid (RoundO n (J2 l) q x 0 (fun z => decide (z = x))) := RoundO.first hx
  have HE0 : Hid (nw (fun z => decide (z = x)) n = [(x : Int)]) := by
    refine (asc_ext (by unfold Asc; simp) (nw_asc _ _) fun e => ?_).symm
    rw [mem_nw]
    simp only [List.mem_singleton]
    constructor
    · rintro rfl; exact ⟨x, hx, by simp, rfl⟩
    · rintro ⟨j, hj, hp, rfl⟩
      have := of_decide_eq_true hp
      omega
  have HO0 : Hid (((w.alloc (.cells #[.int .i64 (n : Int), .slice A l.length c] 29)).alloc (.cells #[.int .i64 (x : Int)] 3)).ownsRow w.heap.size 3 1 (.slice (some ⟨w.heap.size + 1, 0, none⟩) 1 1) (nw (fun z => decide (z = x)) n).length (cellsI (nw (fun z => decide (z = x)) n))) := by
    show World.ownsRow _ _ _ _ _ _ _
    rw [HE0.out]
    have h_ := own_new1 (w.alloc (.cells #[.int .i64 (n : Int), .slice A l.length c] 29)) 3 (x : Int)
    rw [World.size_alloc] at h_
    exact own_base h_ (by omega)
  clear h hu hc2 hqx HE0
  go_enter Tryd.func133, Tryd.ntmps133
  go_wp2_with fail
  go_loopg [7, 8] (nw q n).length (fun g ov rv wr => ∃ (r : Nat) (p : Nat → Bool) (ow : Value), ow = ov ∧ r + g = (nw q n).length ∧ rv = .int .i64 (r : Int) ∧ Hid (RoundO n (J2 l) q x r p) ∧ wr.ownsRow w.heap.size 3 1 ow (nw p n).length (cellsI (nw p n)) ∧ Blk wr w.heap.size 29 #[.int .i64 (n : Int), .slice A l.length c] ∧ Below w.heap.size w wr)
  case atStart => exact ⟨0, _, _, rfl, by omega, rfl, HP0, HO0.out, HG0.out, HB0.out⟩
  case round =>
    clear HB0 HG0 HP0 HO0
    obtain ⟨r, p, ow, rfl, hrg, rfl, hro, hrow, hgb, hB⟩ := hrel
    cases gk with
    | zero =>
      obtain rfl : r = (nw q n).length := by omega
      have HALL : Hid (nw p n = nw (reachB n (J2 l) q x) n) := hro.out.all hx HQX.out
      obtain ⟨A4, c4, rfl⟩ := own_form hrow
      have HR := Lib.hid hrow
      have HB := Lib.hid hB
      clear hrow hgb hB hro
      go_wp2_with fail
      go_ret
      rw [← HALL.out]
      exact ⟨A4, c4, rfl, HR.out, HB.out⟩
    | succ g2 =>
      have hrlt : (r : Int) < ((nw q n).length : Int) := by omega
      have HI0 : Hid (RoundI n (J2 l) q x r 0 p) := hro.out.start
      have HR0 := Lib.hid hrow
      have HG0 := Lib.hid hgb
      have HB0 := Lib.hid hB
      clear hro hrow hgb hB
      go_wp2_with fail
      go_loopg [7, 9] (nw q n).length (fun g ov iv wr => ∃ (i : Nat) (p : Nat → Bool) (ow : Value), ow = ov ∧ i + g = (nw q n).length ∧ iv = .int .i64 (i : Int) ∧ Hid (RoundI n (J2 l) q x r i p) ∧ wr.ownsRow w.heap.size 3 1 ow (nw p n).length (cellsI (nw p n)) ∧ Blk wr w.heap.size 29 #[.int .i64 (n : Int), .slice A l.length c] ∧ Below w.heap.size w wr)
      case atStart => exact ⟨0, p, _, rfl, by omega, rfl, HI0, HR0.out, HG0.out, HB0.out⟩
      case round =>
        clear HI0 HR0 HG0 HB0
        obtain ⟨i, p, ow, rfl, hig, rfl, hri, hrow, hgb, hB⟩ := hrel
        cases gk with
        | zero =>
          obtain rfl : i = (nw q n).length := by omega
          have HO : Hid (RoundO n (J2 l) q x (r + 1) p) := hri.out.done
          have HR := Lib.hid hrow
          have HG := Lib.hid hgb
          have HB := Lib.hid hB
          clear hrow hgb hB hri
          go_wp2_with fail
          go_roundg g2
          case measure => omega
          case rel => exact ⟨r + 1, p, _, rfl, by omega, by go_num, HO, HR.out, HG.out, HB.out⟩
        | succ g3 =>
          have hilt : (i : Int) < ((nw q n).length : Int) := by omega
          obtain ⟨yv, hyv⟩ : ∃ yv, (nw q n)[i]? = some yv := ⟨_, List.getElem?_eq_getElem (by omega)⟩
          obtain ⟨y, rfl, hyn, hqy⟩ := nw_at hyv
          obtain ⟨g5, o5, rfl, c5⟩ := HC2.out i _ hyv
          have HY := Lib.hid hyv
          have HQY := Lib.hid hqy
          have HC5 := Lib.hid c5
          have HRI := Lib.hid hri.out
          have HR0 := Lib.hid hrow
          have HG0 := Lib.hid hgb
          have HB0 := Lib.hid hB
          clear hyv hqy c5 hri hrow hgb hB
          go_wp2_with fail
          go_loopg [7, 10] n (fun g ov kv wr => ∃ (k : Nat) (p : Nat → Bool) (ow : Value), ow = ov ∧ k + g = n ∧ kv = .int .i64 (k : Int) ∧ Hid (RoundI n (J2 l) q x r i p ∧ (p y = false → ∀ j o, j < k → (nw p n)[j]? = some o → adj l o (y : Int) = false)) ∧ wr.ownsRow w.heap.size 3 1 ow (nw p n).length (cellsI (nw p n)) ∧ Blk wr w.heap.size 29 #[.int .i64 (n : Int), .slice A l.length c] ∧ Below w.heap.size w wr)
          case atStart => exact ⟨0, p, _, rfl, by omega, rfl, ⟨HRI.out, fun _ j o hj => by omega⟩, HR0.out, HG0.out, HB0.out⟩
          case round =>
            clear HRI HR0 HG0 HB0
            obtain ⟨k, p, ow, rfl, hkg, rfl, hinv, hrow, hgb, hB⟩ := hrel
            obtain ⟨A6, c6, rfl⟩ := own_form hrow
            have hpl := nw_len p n
            have q5 := nearv.cell_keep HC5.out hB
            obtain ⟨p0, p1, -, -⟩ := hgb.two
            by_cases hk : k < (nw p n).length
            · have hk' : (k : Int) < ((nw p n).length : Int) := by omega
              have hd0 : decide ((k : Int) < ((nw p n).length : Int)) = true := decide_eq_true hk'
              have HHAS := Lib.hid (l1Has_any (.slice A6 (nw p n).length c6) (nw p n) (y : Int) wr (Reads.of_own hrow) (by omega))
              cases hpy : p y with
              | true =>
                have hm : decide ((y : Int) ∈ nw p n) = true := decide_eq_true (mem_nw.2 ⟨y, hyn, hpy, rfl⟩)
                rw [hm] at HHAS
                have HN : Hid (RoundI n (J2 l) q x r (i + 1) p) := hinv.out.1.skip HY.out (.inl hpy)
                have HR := Lib.hid hrow
                have HG := Lib.hid hgb
                have HB := Lib.hid hB
                clear hrow hgb hB hinv hm hpy
                go_wp2_with fail
                refine HHAS.out.mono ?_
                rintro e w' ⟨rfl, rfl⟩
                go_wp2_with fail
                go_roundg g3
                case measure => omega
                case rel => exact ⟨i + 1, p, _, rfl, by omega, by go_num, HN, HR.out, HG.out, HB.out⟩
              | false =>
                have hm0 : ¬ (y : Int) ∈ nw p n := by
                  intro hh
                  obtain ⟨j, _, hj, e⟩ := mem_nw.1 hh
                  have h9 : y = j := by omega
                  rw [← h9, hpy] at hj
                  cases hj
                have hm : decide ((y : Int) ∈ nw p n) = false := decide_eq_false hm0
                rw [hm] at HHAS
                cases gk with
                | zero => omega
                | succ g4 =>
                  obtain ⟨ov, hov⟩ : ∃ ov, (nw p n)[k]? = some ov := ⟨_, List.getElem?_eq_getElem hk⟩
                  obtain ⟨o, rfl, hon, hpo⟩ := nw_at hov
                  obtain ⟨_, _, hf, hcc⟩ := (show Ints wr (.slice A6 (nw p n).length c6) (nw p n) from Reads.of_own hrow).form
                  cases hf
                  obtain ⟨g6, o6, rfl, q6⟩ := hcc k _ hov
                  have HNR := Lib.hid (l2Near_any (n : Int) (o : Int) (y : Int) (.slice A l.length c) l wr.drew (H.out.below hB.drew) hl)
                  have HPUT := Lib.hid (fun (W : World) (hb : Below wr.heap.size wr W) => l1Put_own _ (nw p n) (y : Int) W w.heap.size (own_below hrow hb) (Nat.le_trans hB.size hb.size) (by omega) (nw_asc _ _))
                  have HR := Lib.hid hrow
                  have HG := Lib.hid hgb
                  have HB := Lib.hid hB
                  have HPL : Hid ((nw p n).length ≤ n) := hpl
                  cases hj : adj l (o : Int) (y : Int) with
                  | false =>
                    have HN : Hid (RoundI n (J2 l) q x r i p ∧ (p y = false → ∀ j o', j < k + 1 → (nw p n)[j]? = some o' → adj l o' (y : Int) = false)) := by
                      refine ⟨hinv.out.1, fun h9 j o' hjk ho' => ?_⟩
                      by_cases e : j = k
                      · subst e; rw [hov] at ho'; cases ho'; exact hj
                      · exact hinv.out.2 h9 j o' (by omega) ho'
                    rw [hj] at HNR
                    clear hrow hgb hB hinv hm hm0 hpy hov hpo hcc hj HPUT hpl
                    go_wp2_with fail
                    refine HHAS.out.mono ?_
                    rintro e w' ⟨rfl, rfl⟩
                    go_wp2_with fail
                    go_still_tail 9, (by kernel_rfl)
                    change wpList _ _ _ _ _ wr.drew
                    go_wp2_with fail
                    refine HNR.out.mono ?_
                    rintro e w1 ⟨rfl, b1⟩
                    have d1 : Below wr.heap.size wr w1 := (Below.refl _ _).drew.trans b1
                    have HR1 := Lib.hid (own_below HR.out d1)
                    have HG1 := Lib.hid (HG.out.below d1 HG.out.lt)
                    have HB1 := Lib.hid (btrans HB.out d1)
                    clear b1 d1
                    go_wp2_with fail
                    go_roundg g4
                    case measure => omega
                    case rel => exact ⟨k + 1, p, _, rfl, by omega, by go_num, HN, HR1.out, HG1.out, HB1.out⟩
                  | true =>
                    have HN := Lib.hid (hinv.out.1.put hyn HQY.out hpy hon hpo hj)
                    have HPT : Hid (pput p y y = true) := by show _ = _; simp [pput]
                    rw [hj] at HNR
                    clear hrow hgb hB hinv hm hm0 hpy hov hpo hcc hj hpl
                    go_wp2_with fail
                    refine HHAS.out.mono ?_
                    rintro e w' ⟨rfl, rfl⟩
                    go_wp2_with fail
                    go_still_tail 9, (by kernel_rfl)
                    change wpList _ _ _ _ _ wr.drew
                    go_wp2_with fail
                    refine HNR.out.mono ?_
                    rintro e w1 ⟨rfl, b1⟩
                    have d1 : Below wr.heap.size wr w1 := (Below.refl _ _).drew.trans b1
                    have HP1 := Lib.hid (HPUT.out w1 d1)
                    have HG1 := Lib.hid (HG.out.below d1 HG.out.lt)
                    have HB1 := Lib.hid (btrans HB.out d1)
                    have q7 := nearv.cell_keep HC5.out HB1.out
                    clear b1 d1 q5
                    go_wp2_with fail
                    refine HP1.out.mono ?_
                    rintro e w2 ⟨L, A7, c7, rfl, hp7, o7, b7⟩
                    have HL := Lib.hid (pput_is hp7 hyn)
                    have HG2 := Lib.hid (HG1.out.below b7 HG1.out.lt)
                    have HB2 := Lib.hid (btrans HB1.out b7)
                    have HO7 := Lib.hid o7
                    clear b7 hp7 o7
                    go_wp2_with fail
                    go_roundg g4
                    case measure => omega
                    case rel => exact ⟨k + 1, pput p y, _, rfl, by omega, by go_num, ⟨HN.out, fun h9 => by rw [HPT.out] at h9; cases h9⟩, by rw [← HL.out]; exact HO7.out, HG2.out, HB2.out⟩
            · have HN : Hid (RoundI n (J2 l) q x r (i + 1) p) := hinv.out.1.skip HY.out (by
                cases hpy : p y with
                | true => exact .inl hpy
                | false =>
                  refine .inr fun o ho hpo => ?_
                  obtain ⟨j, hj, hjo⟩ := at_nw hpo ho
                  exact hinv.out.2 hpy j _ (by omega) hjo)
              have hd0 : decide ((k : Int) < ((nw p n).length : Int)) = false := decide_eq_false (by omega)
              have hk' : ¬ (k : Int) < ((nw p n).length : Int) := by omega
              have HR := Lib.hid hrow
              have HG := Lib.hid hgb
              have HB := Lib.hid hB
              clear hrow hgb hB hinv
              go_wp2_with fail
              go_roundg g3
              case measure => omega
              case rel => exact ⟨i + 1, p, _, rfl, by omega, by go_num, HN, HR.out, HG.out, HB.out⟩
end Go.Proofs.YtdhbaegkogklgaaDoor.reach

/- Brambles: one part is a joined set; lists that touch: mathematics. -/
namespace Go.Proofs.YtdhbaegkogklgaaDoor.joins
open Go.RowKit P2 words edges ints good adjs fns sets rets covs bags bitsI ups
set_option linter.unusedVariables false

theorem least_of {n : Nat} {J : Nat → Nat → Bool} {q : Nat → Bool} : ∀ (m a : Nat), a ≤ m → a < n → q a = true → ∃ z, z < n ∧ q z = true ∧ reach.Rch n J q z a ∧ reach.leastB n J q z = true
  | m, a, ham, ha, hq => by
    cases hl : reach.leastB n J q a with
    | true => exact ⟨a, ha, hq, .base, hl⟩
    | false =>
      have h1 : ¬ ∀ z, z < a → q z = true → ¬ reach.Rch n J q z a := fun h => by rw [reach.leastB_iff.2 h] at hl; cases hl
      have h2 : ∃ z, z < a ∧ q z = true ∧ reach.Rch n J q z a := by
        apply Classical.byContradiction
        intro hh
        exact h1 fun z hz hqz hr => hh ⟨z, hz, hqz, hr⟩
      obtain ⟨z, hz, hqz, hr⟩ := h2
      cases m with
      | zero => omega
      | succ m =>
        obtain ⟨y, hy, hqy, hry, hly⟩ := least_of (n := n) (J := J) m z (by omega) (by omega) hqz
        exact ⟨y, hy, hqy, Rch.trans hry hr, hly⟩
theorem parts_one {n c : Nat} {l : List Ed} (hn : n ≤ 8) (hc : c < 2 ^ n) : (reach.partsL n (reach.J2 l) (bitB c)).length = 1 ↔ JnP n l c := by
  have hmem : ∀ y : Int, y ∈ (nw (bitB c) n).filter (fun y => reach.leastB n (J2 l) (bitB c) y.toNat) ↔ ∃ z : Nat, y = (z : Int) ∧ z < n ∧ c.testBit z = true ∧ reach.leastB n (J2 l) (bitB c) z = true := fun y => by
    rw [List.mem_filter, mem_nw]
    constructor
    · rintro ⟨⟨j, hj, hp, rfl⟩, h⟩
      exact ⟨j, rfl, hj, hp, h⟩
    · rintro ⟨z, rfl, hz, hb, h⟩
      exact ⟨⟨z, hz, hb, rfl⟩, h⟩
  have hlen : (reach.partsL n (reach.J2 l) (bitB c)).length = ((nw (bitB c) n).filter (fun y => reach.leastB n (J2 l) (bitB c) y.toNat)).length := by
    unfold reach.partsL reach.partsT
    rw [List.length_map, List.take_length]
    rfl
  rw [hlen]
  constructor
  · intro h
    obtain ⟨m, hm⟩ := List.length_eq_one_iff.1 h
    rw [hm] at hmem
    obtain ⟨x, rfl, hx, hb, hl⟩ := (hmem m).1 (List.mem_singleton.2 rfl)
    refine jn_of hx hb fun z hz h1 => ?_
    obtain ⟨y, hy, hqy, hr, hly⟩ := least_of (J := J2 l) (q := bitB c) z z (Nat.le_refl _) hz h1
    have h2 := (hmem (y : Int)).2 ⟨y, rfl, hy, hqy, hly⟩
    rw [List.mem_singleton] at h2
    have : y = x := by omega
    subst this
    exact hr
  · intro h
    obtain ⟨x, hx, hb⟩ := bit_some hc h.1
    obtain ⟨y, hy, hqy, -, hly⟩ := least_of (J := J2 l) (q := bitB c) x x (Nat.le_refl _) hx hb
    have key : (nw (bitB c) n).filter (fun y => reach.leastB n (J2 l) (bitB c) y.toNat) = [(y : Int)] := by
      refine asc_ext ?_ (by unfold Asc; simp) fun e => ?_
      · unfold Asc
        exact (nw_asc (bitB c) n).filter _
      · rw [hmem, List.mem_singleton]
        constructor
        · rintro ⟨z, rfl, hz, hbz, hlz⟩
          have h1 := h.2 y z hy hz hqy hbz
          have h2 := h.2 z y hz hy hbz hqy
          have h3 := reach.leastB_iff.1 hlz y
          have h4 := reach.leastB_iff.1 hly z
          rcases Nat.lt_trichotomy y z with h9 | h9 | h9
          · exact absurd h1 (h3 h9 hqy)
          · rw [h9]
          · exact absurd h2 (h4 h9 hbz)
        · rintro rfl
          exact ⟨y, rfl, hy, hqy, hly⟩
    rw [key]; rfl
theorem tc_meet {n : Nat} {l : List Ed} {xs ys : List Int} (hx : ∀ x ∈ xs, 0 ≤ x ∧ x < (n : Int)) (hy : ∀ x ∈ ys, 0 ≤ x ∧ x < (n : Int)) : tcL l xs ys = meetB l n (codeL xs) (codeL ys) := by
  rw [Bool.eq_iff_iff, meetB_iff (code_lt (m := n) hy)]
  unfold tcL tcA
  rw [List.any_eq_true]
  constructor
  · rintro ⟨a, ha, h⟩
    rw [List.any_eq_true] at h
    obtain ⟨b, hb, e⟩ := h
    have h1 := hx a ha
    have h2 := hy b hb
    refine ⟨a.toNat, b.toNat, by omega, by omega, ?_, ?_, ?_⟩
    · rw [code_bit (fun z hz => (hx z hz).1), Int.toNat_of_nonneg h1.1, decide_eq_true ha]
    · rw [code_bit (fun z hz => (hy z hz).1), Int.toNat_of_nonneg h2.1, decide_eq_true hb]
    · rw [Int.toNat_of_nonneg h1.1, Int.toNat_of_nonneg h2.1]
      rcases Bool.or_eq_true_iff.1 e with e | e
      · rw [beq_iff_eq] at e; left; omega
      · exact .inr e
  · rintro ⟨x, z, hxn, hzn, h1, h2, e⟩
    rw [code_bit (fun z hz => (hx z hz).1)] at h1
    rw [code_bit (fun z hz => (hy z hz).1)] at h2
    refine ⟨(x : Int), of_decide_eq_true h1, ?_⟩
    rw [List.any_eq_true]
    refine ⟨(z : Int), of_decide_eq_true h2, ?_⟩
    rcases e with rfl | e
    · simp
    · rw [e]; simp
/-- a set has a node of a list -/
def mtA (xs : List Int) (r : List Int) : Bool := xs.any fun x => decide (x ∈ r)
theorem mt_is {n c : Nat} {r : List Int} (hc : c < 2 ^ n) (hr : ∀ x ∈ r, 0 ≤ x ∧ x < (n : Int)) : mtA (nw (bitB c) n) r = !(codeL r &&& c == 0) := by
  rw [Bool.eq_iff_iff, Bool.not_eq_true', beq_eq_false_iff_ne]
  unfold mtA
  rw [List.any_eq_true]
  constructor
  · rintro ⟨x, hx, h⟩ h0
    obtain ⟨j, hj, hp, rfl⟩ := mem_nw.1 hx
    have h3 : (codeL r &&& c).testBit j = true := by
      rw [Nat.testBit_and, code_bit (fun z hz => (hr z hz).1), h]
      unfold bitB at hp
      rw [hp]; rfl
    rw [h0] at h3
    simp at h3
  · intro h
    obtain ⟨j, hj, hb⟩ := bit_some (n := n) (Nat.lt_of_le_of_lt Nat.and_le_right hc) h
    rw [Nat.testBit_and, code_bit (fun z hz => (hr z hz).1), Bool.and_eq_true] at hb
    exact ⟨(j : Int), mem_nw.2 ⟨j, hj, hb.2, rfl⟩, hb.1⟩
def mtL (xs : List Int) (q : List (List Int)) : Bool := q.all (mtA xs)
theorem mtL_is {n c : Nat} {l : List Ed} {q : List (List Int)} (hc : c < 2 ^ n) (hq : BrK n l q q.length) : mtL (nw (bitB c) n) q = covB q c := by
  rw [Bool.eq_iff_iff, covB_iff]
  unfold mtL
  rw [List.all_eq_true]
  have hs : ∀ r ∈ q, ∀ x ∈ r, 0 ≤ x ∧ x < (n : Int) := fun r hr => by
    obtain ⟨i, hi⟩ := List.getElem?_of_mem hr
    exact (hq i r (List.getElem?_eq_some_iff.1 hi).1 hi).1.2.1
  constructor
  · intro h r hr h0
    have := h r hr
    rw [mt_is hc (hs r hr), h0] at this
    simp at this
  · intro h r hr
    rw [mt_is hc (hs r hr), Bool.not_eq_true', beq_eq_false_iff_ne]
    exact h r hr
end Go.Proofs.YtdhbaegkogklgaaDoor.joins

/- The contract of the model's l2Parts. -/
namespace Go.Proofs.YtdhbaegkogklgaaDoor.reach
open Go.RowKit P2 words edges ints owns good near adjs fns rets sets covs nearv balls grid
set_option linter.unusedVariables false

theorem OwnG.empty {w : World} {B : Nat} {v : Value} (h : w.ownsRow B 25 1 v 0 []) : OwnG w B v [] [] :=
  ⟨h, fun i u r hu => by simp at hu, fun i j u u' k _ hu => by simp at hu⟩
set_option maxHeartbeats 8000000 in
set_option maxRecDepth 100000 in
theorem l2Parts_any (n : Nat) (q : Nat → Bool) (v u : Value) (l : List Ed) (w : World) (h : Edges w v l) (hl : l.length ≤ 1048576) (hu : Ints w u (nw q n)) (hn8 : n ≤ 8) :
    Calls Tryd.prog 110 #[.agg #[.int .i64 (n : Int), v], u] w fun e w' => ∃ A c us, e = .returned (.slice A (partsL n (J2 l) q).length c) ∧ OwnG w' w.heap.size (.slice A (partsL n (J2 l) q).length c) us (partsL n (J2 l) q) ∧ Below w.heap.size w w' := by
  obtain ⟨i1, hi1, hy0, hy1, hy2⟩ := info_parts infoRow
  obtain ⟨A, c, rfl, -⟩ := h.form
  obtain ⟨A2, c2, rfl, hc2⟩ := hu.form
  have H := Lib.hid h
  have HU := Lib.hid hu
  have HC2 := Lib.hid hc2
  have hsl := nw_len q n
  have HB0 : Hid (Below w.heap.size w (((w.alloc (.cells #[.int .i64 (n : Int), .slice A l.length c] 29)).alloc (.cells #[] 25)).alloc (.cells #[] 3))) := (((Below.refl _ _).alloc (Nat.le_refl _) _).alloc (by simp) _).alloc (by simp; omega) _
  have HG0 := Lib.hid (((Blk.new w 29 #[.int .i64 (n : Int), .slice A l.length c]).alloc (.cells #[] 25)).alloc (.cells #[] 3))
  have HO0 : Hid (OwnG (((w.alloc (.cells #[.int .i64 (n : Int), .slice A l.length c] 29)).alloc (.cells #[] 25)).alloc (.cells #[] 3)) w.heap.size (.slice (some ⟨w.heap.size + 1, 0, none⟩) 0 0) [] (partsT n (J2 l) q 0)) := by
    have h_ := (own_new0 (w.alloc (.cells #[.int .i64 (n : Int), .slice A l.length c] 29)) 25 1).alloc (.cells #[] 3)
    rw [World.size_alloc] at h_
    exact OwnG.empty (own_base h_ (by omega))
  have HS0 : Hid ((((w.alloc (.cells #[.int .i64 (n : Int), .slice A l.length c] 29)).alloc (.cells #[] 25)).alloc (.cells #[] 3)).ownsRow w.heap.size 3 1 (.slice (some ⟨w.heap.size + 1 + 1, 0, none⟩) 0 0) (nw (fun _ => false) n).length (cellsI (nw (fun _ => false) n))) := by
    show World.ownsRow _ _ _ _ _ _ _
    have e : nw (fun _ => false) n = [] := by simp [nw]
    rw [e]
    have h_ := own_new0 ((w.alloc (.cells #[.int .i64 (n : Int), .slice A l.length c] 29)).alloc (.cells #[] 25)) 3 1
    rw [World.size_alloc, World.size_alloc] at h_
    exact own_base h_ (by omega)
  have HE0 : Hid ((nw (fun _ => false) n).length = 0) := by show _ = _; simp [nw]
  rw [HE0.out] at HS0
  have HSE : Hid (SeenIs n (J2 l) q 0 (fun _ => false)) := SeenIs.zero
  clear h hu hc2
  go_enter Tryd.func110, Tryd.ntmps110
  go_wp2_with fail
  go_loopg [5, 6, 7] (nw q n).length (fun g ov sv iv wr => ∃ (i : Nat) (p : Nat → Bool) (ow sw : Value) (us : List Value), ow = ov ∧ sw = sv ∧ i + g = (nw q n).length ∧ iv = .int .i64 (i : Int) ∧ Hid (SeenIs n (J2 l) q i p) ∧
    OwnG wr w.heap.size ow us (partsT n (J2 l) q i) ∧ wr.ownsRow w.heap.size 3 1 sw (nw p n).length (cellsI (nw p n)) ∧ Blk wr w.heap.size 29 #[.int .i64 (n : Int), .slice A l.length c] ∧ Below w.heap.size w wr)
  case atStart => exact ⟨0, fun _ => false, _, _, _, rfl, rfl, by omega, rfl, HSE, HO0.out, by rw [HE0.out]; exact HS0.out, HG0.out, HB0.out⟩
  case round =>
    clear HB0 HG0 HS0 HO0 HE0 HSE
    obtain ⟨i, p, ow, sw, us, rfl, rfl, hig, rfl, hse, hG, hrow, hgb, hB⟩ := hrel
    cases gk with
    | zero =>
      obtain rfl : i = (nw q n).length := by omega
      obtain ⟨A4, c4, rfl⟩ := own_form hG.1
      have HG := Lib.hid hG
      have HB := Lib.hid hB
      clear hG hrow hgb hB hse
      go_wp2_with fail
      go_ret
      exact ⟨A4, c4, us, rfl, HG.out, HB.out⟩
    | succ g2 =>
      have hilt : (i : Int) < ((nw q n).length : Int) := by omega
      obtain ⟨yv, hyv⟩ : ∃ yv, (nw q n)[i]? = some yv := ⟨_, List.getElem?_eq_getElem (by omega)⟩
      obtain ⟨y, rfl, hyn, hqy⟩ := nw_at hyv
      obtain ⟨g5, o5, rfl, c5⟩ := HC2.out i _ hyv
      obtain ⟨A6, c6, rfl⟩ := own_form hrow
      have hpl := nw_len p n
      have q5 := nearv.cell_keep c5 hB
      have HC5 := Lib.hid c5
      have HHAS := Lib.hid (l1Has_any (.slice A6 (nw p n).length c6) (nw p n) (y : Int) wr (Reads.of_own hrow) (by omega))
      have HLE := Lib.hid (hse.out.least hyv hyn)
      have HG := Lib.hid hG
      have HR := Lib.hid hrow
      have HK := Lib.hid hgb
      have HB := Lib.hid hB
      cases hpy : p y with
      | true =>
        have hm : decide ((y : Int) ∈ nw p n) = true := decide_eq_true (mem_nw.2 ⟨y, hyn, hpy, rfl⟩)
        rw [hm] at HHAS
        have HN : Hid (SeenIs n (J2 l) q (i + 1) p) := hse.out.skip hyv hyn hpy
        have HT := Lib.hid (partsT_no hyv (by rw [HLE.out, hpy]; rfl))
        clear hG hrow hgb hB hse hm hpy hyv hqy c5
        go_wp2_with fail
        refine HHAS.out.mono ?_
        rintro e w' ⟨rfl, rfl⟩
        go_wp2_with fail
        go_roundg g2
        case measure => omega
        case rel => exact ⟨i + 1, p, _, _, us, rfl, rfl, by omega, by go_num, HN, by rw [HT.out]; exact HG.out, HR.out, HK.out, HB.out⟩
      | false =>
        have hm0 : ¬ (y : Int) ∈ nw p n := by
          intro hh
          obtain ⟨j, _, hj, e⟩ := mem_nw.1 hh
          have h9 : y = j := by omega
          rw [← h9, hpy] at hj
          cases hj
        have hm : decide ((y : Int) ∈ nw p n) = false := decide_eq_false hm0
        rw [hm] at HHAS
        obtain ⟨p0, p1, -, -⟩ := hgb.two
        have HRE := Lib.hid (l2Reach_any n y q (.slice A l.length c) (.slice (some ⟨g5, o5, none⟩) (nw q n).length c2) l wr.drew (H.out.below hB.drew) hl (HU.out.below hB.drew) hn8 hyn hqy)
        have HTK := Lib.hid (fun (p' : Nat → Bool) (hp' : ∀ z, z < n → (p' z = true ↔ p z = true ∨ reachB n (J2 l) q y z = true)) => hse.out.take hyv hp')
        have HT := Lib.hid (partsT_yes hyv (by rw [HLE.out, hpy]; rfl))
        have hrl := nw_len (reachB n (J2 l) q y) n
        have htl := partsT_len (n := n) (J := J2 l) (q := q) i
        clear hG hrow hgb hB hse hm hm0 hpy hyv hqy c5 HLE
        go_wp2_with fail
        refine HHAS.out.mono ?_
        rintro e w' ⟨rfl, rfl⟩
        go_wp2_with fail
        go_still_tail 6, (by kernel_rfl)
        change wpList _ _ _ _ _ wr.drew
        go_wp2_with fail
        refine HRE.out.mono ?_
        rintro e w1 ⟨A7, c7, rfl, o7, b7⟩
        have d1 : Below wr.heap.size wr w1 := (Below.refl _ _).drew.trans b7
        have HO7 : Hid (w1.ownsRow wr.heap.size 3 1 (.slice A7 (nw (reachB n (J2 l) q y) n).length c7) (nw (reachB n (J2 l) q y) n).length (cellsI (nw (reachB n (J2 l) q y) n))) := o7
        have HD1 := Lib.hid d1
        have HR1 := Lib.hid (own_below HR.out d1)
        have HGT : Hid (Got n p (reachB n (J2 l) q y) 0 p) := Got.zero _ _
        have HT2 := Lib.hid (fun (p' : Nat → Bool) (hp' : Got n p (reachB n (J2 l) q y) (nw (reachB n (J2 l) q y) n).length p') => HTK.out p' hp'.all)
        clear b7 d1 o7 p0 p1 q5 HTK
        generalize hrr : reachB n (J2 l) q y = rr at *
        clear hrr
        go_wp2_with fail
        go_loopg [6, 9] (nw rr n).length (fun g sv kv wi => ∃ (k : Nat) (p' : Nat → Bool) (sw : Value), sw = sv ∧ k + g = (nw rr n).length ∧ kv = .int .i64 (k : Int) ∧ Hid (Got n p rr k p') ∧ wi.ownsRow w.heap.size 3 1 sw (nw p' n).length (cellsI (nw p' n)) ∧ Below w1.heap.size w1 wi)
        case atStart => exact ⟨0, p, _, rfl, by omega, rfl, HGT, HR1.out, Below.refl _ _⟩
        case round =>
          clear HR1 HGT
          obtain ⟨k, p', sw', rfl, hkg, rfl, hgot, hrow, hB1⟩ := hrel
          obtain ⟨A8, c8, rfl⟩ := own_form hrow
          have hpl2 := nw_len p' n
          cases gk with
          | zero =>
            obtain rfl : k = (nw rr n).length := by omega
            have HSN : Hid (SeenIs n (J2 l) q (i + 1) p') := HT2.out p' hgot.out
            have HBW := Lib.hid (HD1.out.trans (hB1.mono HD1.out.size))
            have hG5 := HG.out.below HBW.out
            have hr5 := own_below HO7.out hB1
            have hul : us.length ≤ 8 := by rw [HG.out.len]; omega
            have HR5 := Lib.hid hrow
            have HG5 := Lib.hid hG5
            have HU5 := Lib.hid hr5
            have hszw := HB.out.size
            have hszw2 := HBW.out.size
            have HK5 := Lib.hid (HK.out.below HBW.out HK.out.lt)
            have HB5 := Lib.hid (btrans HB.out HBW.out)
            have hown5 := hG5.1
            clear hrow hB1 hgot hG5 hr5 HT2
            generalize partsT n (J2 l) q i = rows at *
            obtain ⟨A9, c9, rfl⟩ := own_form hown5
            go_wp2_with (at_builtin; refine wpList_append_own _ rfl _ _ 40 rfl w.heap.size 25 i1 (.slice none 0 0) 1 24 Tryd.underlying40 hi1 hy0 hy1 hy2 rfl (by decide) _ _ _ rfl (hown5.alloc _) ⟨wr.heap.size, 0, none⟩ 1 1 [.slice A7 (nw rr n).length c7] rfl rfl (cell_one_new _ _ _) (fun x hx => by simp at hx; subst hx; rfl) (by unfold maxLen; omega) (by omega) (by simp; omega) ?_; intro v6 w6 hown6 hgrow6 _)
            have HG6 := Lib.hid (OwnG.push HG.out HBW.out hszw HU5.out hown6 rfl hgrow6)
            have HR6 := Lib.hid ((HR5.out.alloc (.cells #[.slice A7 (nw rr n).length c7] 25)).kept hgrow6 (by
              cases hh : (Value.slice A8 (nw p' n).length c8).ownBlock with
              | none => exact .inl rfl
              | some b => exact .inr (fun e => own_apart HR5.out hown5 tneI b hh e.symm)))
            have HK6 := Lib.hid ((HK5.out.alloc (.cells #[.slice A7 (nw rr n).length c7] 25)).grown hgrow6 (fun e => mids.own_ne hown5 HK5.out (by decide) e.symm))
            have HB6 := Lib.hid ((HB5.out.alloc (by omega) (.cells #[.slice A7 (nw rr n).length c7] 25)).grown hgrow6 (by simp; omega) (fun j e => (hown5.lt j e).1))
            clear hown6 hgrow6 hown5
            go_roundg g2
            case measure => omega
            case rel => exact ⟨i + 1, p', _, _, _, rfl, rfl, by omega, by go_num, HSN, by rw [HT.out]; exact HG6.out, HR6.out, HK6.out, HB6.out⟩
          | succ g4 =>
            have hklt : (k : Int) < ((nw rr n).length : Int) := by omega
            obtain ⟨zv, hzv⟩ : ∃ zv, (nw rr n)[k]? = some zv := ⟨_, List.getElem?_eq_getElem (by omega)⟩
            obtain ⟨z, rfl, hzn, hrz⟩ := nw_at hzv
            obtain ⟨_, _, hf, hcc⟩ := (show Ints wr (.slice A7 (nw rr n).length c7) (nw rr n) from Reads.of_own (own_below HO7.out hB1)).form
            cases hf
            obtain ⟨g6, o6, rfl, q6⟩ := hcc k _ hzv
            have HPUT := Lib.hid (l1Put_own (.slice A8 (nw p' n).length c8) (nw p' n) (z : Int) wr w.heap.size hrow (Nat.le_trans HB.out.size (Nat.le_trans HD1.out.size hB1.size)) (by omega) (nw_asc _ _))
            have HGS := Lib.hid (hgot.out.succ hzv)
            have HB1 := Lib.hid hB1
            clear hrow hB1 hgot hzv hrz hcc
            go_wp2_with fail
            refine HPUT.out.mono ?_
            rintro e w2 ⟨L, A10, c10, rfl, hp10, o10, b10⟩
            have HL := Lib.hid (pput_is hp10 hzn)
            have HB2 := Lib.hid (btrans HB1.out b10)
            have HO10 := Lib.hid o10
            clear b10 hp10 o10
            go_wp2_with fail
            go_roundg g4
            case measure => omega
            case rel => exact ⟨k + 1, pput p' z, _, rfl, by omega, by go_num, HGS, by rw [← HL.out]; exact HO10.out, HB2.out⟩
end Go.Proofs.YtdhbaegkogklgaaDoor.reach

/- Brambles: the contract of the model's l5Bramble. -/
namespace Go.Proofs.YtdhbaegkogklgaaDoor.joins
open Go.RowKit P2 words edges ints good adjs fns sets rets covs balls bags bitsI ups func gridr
set_option linter.unusedVariables false

theorem set_nw {n : Nat} {l : List Ed} {xs : List Int} (h : SetOk (n : Int) l xs) : nw (bitB (codeL xs)) n = xs := by
  refine asc_ext (nw_asc _ _) h.2.2 fun x => ?_
  rw [mem_nw]
  constructor
  · rintro ⟨j, hj, hp, rfl⟩
    unfold bitB at hp
    rw [code_bit (fun z hz => (h.2.1 z hz).1)] at hp
    exact of_decide_eq_true hp
  · intro hx
    have := h.2.1 x hx
    refine ⟨x.toNat, by omega, ?_, by omega⟩
    unfold bitB
    rw [code_bit (fun z hz => (h.2.1 z hz).1), Int.toNat_of_nonneg this.1, decide_eq_true hx]
/-- the list at place i touches the first k -/
def TcJ (n : Nat) (l : List Ed) (q : List (List Int)) (xs : List Int) (k : Nat) : Prop := ∀ j ys, j < k → q[j]? = some ys → meetB l n (codeL ys) (codeL xs) = true
theorem TcJ.next {n : Nat} {l : List Ed} {q : List (List Int)} {xs ys : List Int} {k : Nat} (h : TcJ n l q xs k) (hy : q[k]? = some ys) (hm : meetB l n (codeL ys) (codeL xs) = true) : TcJ n l q xs (k + 1) := fun j zs hj hz => by
  by_cases e : j = k
  · subst e; rw [hy] at hz; cases hz; exact hm
  · exact h j zs (by omega) hz
theorem TcK.next {n : Nat} {l : List Ed} {q : List (List Int)} {xs : List Int} {i : Nat} (h : TcK n l q i) (hx : q[i]? = some xs) (hj : TcJ n l q xs i) : TcK n l q (i + 1) := fun i' j ys zs hi hj' hy hz => by
  by_cases e : i' = i
  · subst e; rw [hx] at hy; cases hy; exact hj j zs hj' hz
  · exact h i' j ys zs (by omega) hj' hy hz
set_option maxHeartbeats 8000000 in
set_option maxRecDepth 100000 in
theorem l5Bramble_any (n : Nat) (v : Value) (A2 : Option Addr) (c2 : Nat) (us : List Value) (q : List (List Int)) (l : List Ed) (w : World) (h : Edges w v l) (hl : l.length ≤ 1048576) (hg : P2.Good (n : Int) l) (hn : n ≤ 8) (ht : ReadsG w (.slice A2 q.length c2) us q) (hql : q.length ≤ 1048576) (hqr : ∀ r ∈ q, r.length ≤ 1048576) :
    Calls Tryd.prog 65 #[.agg #[.int .i64 (n : Int), v], .slice A2 q.length c2] w fun e w' => e = .returned (.bool (okG (BramP (n : Int) l q))) ∧ Below w.heap.size w w' := by
  obtain ⟨A, c, rfl, -⟩ := h.form
  have H := Lib.hid h
  have HT := Lib.hid ht
  have HB0 : Hid (Below w.heap.size w (w.alloc (.cells #[.int .i64 (n : Int), .slice A l.length c] 29))) := (Below.refl _ _).alloc (Nat.le_refl _) _
  have HG0 := Lib.hid (Blk.new w 29 #[.int .i64 (n : Int), .slice A l.length c])
  have HK0 : Hid (BrK n l q 0 ∧ TcK n l q 0) := ⟨BrK.zero n l q, fun i j xs ys hi => by omega⟩
  have HST := Lib.hid (fun (xs : List Int) (u : Value) (W : World) (hu : Ints W u xs) (hx : xs.length ≤ 1048576) => l2Set_any (n : Int) (.slice A l.length c) u l xs W hu hx (by omega) (by omega))
  have HRS : Hid (∀ xs : List Int, RisesIn xs 0 ((n : Int) - 1) ↔ SetOk (n : Int) l xs) := fun xs => rises_set hg
  have HPA := Lib.hid (fun (xs : List Int) (u : Value) (W : World) (hW : Below w.heap.size w W) (hu : Ints W u xs) (hx : SetOk (n : Int) l xs) => reach.l2Parts_any n (bitB (codeL xs)) (.slice A l.length c) u l W (H.out.below hW) hl (by rw [set_nw hx]; exact hu) hn)
  have HTO := Lib.hid (fun (xs ys : List Int) (u u2 : Value) (W : World) (hW : Below w.heap.size w W) (hu : Ints W u xs) (hx : xs.length ≤ 1048576) (hu2 : Ints W u2 ys) (hy : ys.length ≤ 1048576) => l5Touch_any (n : Int) (.slice A l.length c) u u2 l xs ys W (H.out.below hW) hl hu hx hu2 hy)
  have HIF := Lib.hid (bramP_is (q := q) hg)
  clear h ht hg
  go_enter Tryd.func65, Tryd.ntmps65
  go_wp2_with fail
  go_loopg [5] q.length (fun g iv wr => ∃ i : Nat, i + g = q.length ∧ iv = .int .i64 (i : Int) ∧ Hid (BrK n l q i ∧ TcK n l q i) ∧ Blk wr w.heap.size 29 #[.int .i64 (n : Int), .slice A l.length c] ∧ Below w.heap.size w wr)
  case atStart => exact ⟨0, by omega, rfl, HK0, HG0.out, HB0.out⟩
  case round =>
    clear HK0 HG0 HB0
    obtain ⟨i, hig, rfl, hck, hgb, hB⟩ := hrel
    obtain ⟨p0, p1, -, -⟩ := hgb.two
    have HG := Lib.hid hgb
    have HB := Lib.hid hB
    cases gk with
    | zero =>
      obtain rfl : i = q.length := by omega
      have HV : Hid (okG (BramP (n : Int) l q) = decide (0 < q.length)) := by
        show _ = _
        rw [Bool.eq_iff_iff, okG_iff, HIF.out, brP_iff, decide_eq_true_iff]
        constructor
        · intro h
          have := List.length_pos_iff.2 h.1.1
          omega
        · intro h
          exact ⟨⟨List.length_pos_iff.1 (by omega), hck.out.1⟩, hck.out.2⟩
      clear hgb hB p0 p1
      go_wp2_with fail
      go_ret
      exact ⟨ret_bool HV.out.symm, HB.out⟩
    | succ g2 =>
      have hlt : i < q.length := by omega
      have hlt' : (i : Int) < (q.length : Int) := by omega
      obtain ⟨xs, hxs⟩ : ∃ xs, q[i]? = some xs := ⟨_, List.getElem?_eq_getElem hlt⟩
      have hxl := hqr xs (List.mem_of_getElem? hxs)
      obtain ⟨u, g5, o5, hu5, hA5, c5w, huw⟩ := HT.out.row hxs
      subst hA5
      obtain ⟨Ax, cx, rfl, -⟩ := huw.form
      have c5 := nearv.cell_keep c5w hB
      have hu := huw.below hB
      have HC5W := Lib.hid c5w
      have HUW := Lib.hid huw
      clear c5w huw hu5
      have HNO : Hid (¬ BrS n l xs → okG (BramP (n : Int) l q) = false) := fun h1 => okG_no fun h2 => brP_no hxs h1 (HIF.out.1 h2)
      have HU := Lib.hid hu
      have HS1 := Lib.hid (HST.out xs (.slice Ax xs.length cx) wr.drew (hu.below (Below.refl _ _).drew) hxl)
      by_cases hso : SetOk (n : Int) l xs
      · rw [okG_yes ((HRS.out xs).2 hso)] at HS1
        have HPT := Lib.hid (fun (W : World) (hW : Below wr.heap.size wr W) => HPA.out xs (.slice Ax xs.length cx) W (btrans HB.out hW) (HU.out.below hW) hso)
        have HP1 : Hid ((reach.partsL n (reach.J2 l) (bitB (codeL xs))).length = 1 ↔ JnP n l (codeL xs)) := parts_one hn (code_lt (m := n) hso.2.1)
        have hpl : (reach.partsL n (reach.J2 l) (bitB (codeL xs))).length ≤ n := reach.partsT_len _
        by_cases hj : JnP n l (codeL xs)
        · have hp1 : (reach.partsL n (reach.J2 l) (bitB (codeL xs))).length = 1 := HP1.out.2 hj
          have hpe : (((reach.partsL n (reach.J2 l) (bitB (codeL xs))).length : Int) != 1) = false := by rw [hp1]; rfl
          have hpe2 : (((reach.partsL n (reach.J2 l) (bitB (codeL xs))).length : Int) == 1) = true := by rw [hp1]; rfl
          have HBN := Lib.hid (hck.out.1.next hxs ⟨hso, hj⟩)
          have HXS := Lib.hid hxs
          have HTK := Lib.hid (fun (h : TcJ n l q xs i) => hck.out.2.next hxs h)
          have HXN := Lib.hid hso.2.1
          clear hu hxs hgb hB hck hso hj hp1
          go_wp2_with fail
          refine wp_region_held_drew (S := (fun w' : World => w'.cell? ⟨w.heap.size, 0, none⟩ = some (.int .i64 (n : Int)) ∧ w'.cell? ⟨w.heap.size, 1, none⟩ = some (.slice A l.length c) ∧ w'.cell? ⟨g5, o5 + i, none⟩ = some (.slice Ax xs.length cx))) (by kernel_rfl) (by (try dsimp only); simp [*]) (fun hHeld => ?_)
          change wpAnyH _ _ _ _ _ _ #[false, false, false, false, false, false, false, false, false, false, false, false, false, false, false, false, false] _ _
          refine wpAnyH_take (i := 0) (oi := ⟨some 13, _, _, _, _, _⟩) (v := ?_) rfl (by kernel_rfl) (by kernel_rfl) (by kernel_rfl) (fun _ _ _ h => h) (Or.inl ⟨by rfl, ?_⟩) (by assumption) ?_
          rotate_left
          · (intro w hSw; (try dsimp only at hSw); go_simp; (try (with_reducible rfl)))
          try simp only [Act.put, List.setIfInBounds_toArray, List.set_cons_zero, List.set_cons_succ]
          refine wpAnyH_take (i := 1) (oi := ⟨some 14, _, _, _, _, _⟩) (v := ?_) rfl (by kernel_rfl) (by kernel_rfl) (by kernel_rfl) (fun _ _ _ h => h) (Or.inl ⟨by rfl, ?_⟩) (by assumption) ?_
          rotate_left
          · (intro w hSw; (try dsimp only at hSw); go_simp; (try (with_reducible rfl)))
          try simp only [Act.put, List.setIfInBounds_toArray, List.set_cons_zero, List.set_cons_succ]
          refine wpAnyH_take (i := 2) (oi := ⟨some 15, _, _, _, _, _⟩) (v := ?_) rfl (by kernel_rfl) (by kernel_rfl) (by kernel_rfl) (fun _ _ _ h => h) (Or.inl ⟨by rfl, ?_⟩) (by assumption) ?_
          rotate_left
          · (intro w hSw; (try dsimp only at hSw); go_simp; (try (with_reducible rfl)))
          try simp only [Act.put, List.setIfInBounds_toArray, List.set_cons_zero, List.set_cons_succ]
          refine wpAnyH_take (i := 3) (oi := ⟨some 16, _, _, _, _, _⟩) (v := ?_) rfl (by kernel_rfl) (by kernel_rfl) (by kernel_rfl) (fun _ _ _ h => h) (Or.inl ⟨by rfl, ?_⟩) (by assumption) ?_
          rotate_left
          · (intro w hSw; (try dsimp only at hSw); go_simp; (try (with_reducible rfl)))
          try simp only [Act.put, List.setIfInBounds_toArray, List.set_cons_zero, List.set_cons_succ]
          refine wpAnyH_take (i := 4) (oi := ⟨some 17, _, _, _, _, _⟩) (v := ?_) rfl (by kernel_rfl) (by kernel_rfl) (by kernel_rfl) (fun _ _ _ h => h) (Or.inl ⟨by rfl, ?_⟩) (by assumption) ?_
          rotate_left
          · (intro w hSw; (try dsimp only at hSw); go_simp; (try (with_reducible rfl)))
          try simp only [Act.put, List.setIfInBounds_toArray, List.set_cons_zero, List.set_cons_succ]
          refine wpAnyH_ready (rs := [5]) (by kernel_rfl) (by simp) ?_
          refine AllReadyH.cons (o := ⟨some 18, _, _, _, _, _⟩) rfl (fun K hK => ?_) AllReadyH.nil
          go_simp
          (with_reducible refine HS1.out.mono ?_); rintro e w4 ⟨rfl, b4⟩; have d4 : Below wr.heap.size wr w4 := btrans (Below.refl _ _).drew b4; obtain ⟨k0, k1, -, -⟩ := (HG.out.below d4 HG.out.lt).two; have k2 := nearv.cell_keep c5 d4
          go_wp2_with fail
          refine hK.out _ _ (by (try dsimp only); simp [*]) (fun hHeld => ?_)
          clear hK K
          try simp only [List.setIfInBounds_toArray, List.set_cons_zero, List.set_cons_succ]
          refine wpAnyH_take (i := 6) (oi := ⟨some 19, _, _, _, _, _⟩) (v := ?_) rfl (by kernel_rfl) (by kernel_rfl) (by kernel_rfl) (fun _ _ _ h => h) (Or.inl ⟨by rfl, ?_⟩) (by assumption) ?_
          rotate_left
          · (intro w hSw; (try dsimp only at hSw); go_simp; (try (with_reducible rfl)))
          try simp only [Act.put, List.setIfInBounds_toArray, List.set_cons_zero, List.set_cons_succ]
          refine wpAnyH_take (i := 7) (oi := ⟨some 20, _, _, _, _, _⟩) (v := ?_) rfl (by kernel_rfl) (by kernel_rfl) (by kernel_rfl) (fun _ _ _ h => h) (Or.inl ⟨by rfl, ?_⟩) (by assumption) ?_
          rotate_left
          · (intro w hSw; (try dsimp only at hSw); go_simp; (try (with_reducible rfl)))
          try simp only [Act.put, List.setIfInBounds_toArray, List.set_cons_zero, List.set_cons_succ]
          refine wpAnyH_take (i := 8) (oi := ⟨some 21, _, _, _, _, _⟩) (v := ?_) rfl (by kernel_rfl) (by kernel_rfl) (by kernel_rfl) (fun _ _ _ h => h) (Or.inl ⟨by rfl, ?_⟩) (by assumption) ?_
          rotate_left
          · (intro w hSw; (try dsimp only at hSw); go_simp; (try (with_reducible rfl)))
          try simp only [Act.put, List.setIfInBounds_toArray, List.set_cons_zero, List.set_cons_succ]
          refine wpAnyH_take (i := 9) (oi := ⟨some 22, _, _, _, _, _⟩) (v := ?_) rfl (by kernel_rfl) (by kernel_rfl) (by kernel_rfl) (fun _ _ _ h => h) (Or.inl ⟨by rfl, ?_⟩) (by assumption) ?_
          rotate_left
          · (intro w hSw; (try dsimp only at hSw); go_simp; (try (with_reducible rfl)))
          try simp only [Act.put, List.setIfInBounds_toArray, List.set_cons_zero, List.set_cons_succ]
          refine wpAnyH_take (i := 10) (oi := ⟨some 23, _, _, _, _, _⟩) (v := ?_) rfl (by kernel_rfl) (by kernel_rfl) (by kernel_rfl) (fun _ _ _ h => h) (Or.inl ⟨by rfl, ?_⟩) (by assumption) ?_
          rotate_left
          · (intro w hSw; (try dsimp only at hSw); go_simp; (try (with_reducible rfl)))
          try simp only [Act.put, List.setIfInBounds_toArray, List.set_cons_zero, List.set_cons_succ]
          refine wpAnyH_take (i := 11) (oi := ⟨some 24, _, _, _, _, _⟩) (v := ?_) rfl (by kernel_rfl) (by kernel_rfl) (by kernel_rfl) (fun _ _ _ h => h) (Or.inl ⟨by rfl, ?_⟩) (by assumption) ?_
          rotate_left
          · (intro w hSw; (try dsimp only at hSw); go_simp; (try (with_reducible rfl)))
          try simp only [Act.put, List.setIfInBounds_toArray, List.set_cons_zero, List.set_cons_succ]
          refine wpAnyH_take (i := 12) (oi := ⟨some 25, _, _, _, _, _⟩) (v := ?_) rfl (by kernel_rfl) (by kernel_rfl) (by kernel_rfl) (fun _ _ _ h => h) (Or.inl ⟨by rfl, ?_⟩) (by assumption) ?_
          rotate_left
          · (intro w hSw; (try dsimp only at hSw); go_simp; (try (with_reducible rfl)))
          try simp only [Act.put, List.setIfInBounds_toArray, List.set_cons_zero, List.set_cons_succ]
          refine wpAnyH_ready (rs := [13]) (by kernel_rfl) (by simp) ?_
          refine AllReadyH.cons (o := ⟨some 26, _, _, _, _, _⟩) rfl (fun K hK => ?_) AllReadyH.nil
          go_simp
          (with_reducible refine (HPT.out w4 d4).mono ?_); rintro e w5 ⟨A6, c6, us6, rfl, -, b5⟩; have d5 : Below wr.heap.size wr w5 := btrans d4 b5; obtain ⟨i0_, i1_, -, -⟩ := (HG.out.below d5 HG.out.lt).two; have i2_ := nearv.cell_keep c5 d5
          go_wp2_with fail
          refine hK.out _ _ (by (try dsimp only); simp [*]) (fun hHeld => ?_)
          clear hK K
          try simp only [List.setIfInBounds_toArray, List.set_cons_zero, List.set_cons_succ]
          refine wpAnyH_take (i := 14) (oi := ⟨some 27, _, _, _, _, _⟩) (v := ?_) rfl (by kernel_rfl) (by kernel_rfl) (by kernel_rfl) (fun _ _ _ h => h) (Or.inl ⟨by rfl, ?_⟩) (by assumption) ?_
          rotate_left
          · (intro w hSw; (try dsimp only at hSw); go_simp; (try (with_reducible rfl)))
          try simp only [Act.put, List.setIfInBounds_toArray, List.set_cons_zero, List.set_cons_succ]
          refine wpAnyH_take (i := 15) (oi := ⟨some 28, _, _, _, _, _⟩) (v := ?_) rfl (by kernel_rfl) (by kernel_rfl) (by kernel_rfl) (fun _ _ _ h => h) (Or.inl ⟨by rfl, ?_⟩) (by assumption) ?_
          rotate_left
          · (intro w hSw; (try dsimp only at hSw); go_simp; (try (with_reducible rfl)))
          try simp only [Act.put, List.setIfInBounds_toArray, List.set_cons_zero, List.set_cons_succ]
          refine wpAnyH_take (i := 16) (oi := ⟨some 29, _, _, _, _, _⟩) (v := ?_) rfl (by kernel_rfl) (by kernel_rfl) (by kernel_rfl) (fun _ _ _ h => h) (Or.inl ⟨by rfl, ?_⟩) (by assumption) ?_
          rotate_left
          · (intro w hSw; (try dsimp only at hSw); go_simp; (try (with_reducible rfl)))
          try simp only [Act.put, List.setIfInBounds_toArray, List.set_cons_zero, List.set_cons_succ]
          refine wpAnyH_done (by kernel_rfl) ?_ _
          have HB5 := Lib.hid (btrans HB.out d5)
          have HG5 := Lib.hid (HG.out.below d5 HG.out.lt)
          have HJ0 : Hid (TcJ n l q xs 0) := fun j ys hj => by omega
          clear d4 d5 b4 b5 k0 k1 k2 i0_ i1_ i2_ hHeld p0 p1 HS1 HPT HG HB HP1 hpl hpe hpe2 c5 HU
          go_wp2_with fail
          go_loopg [6] i (fun g kv wr => ∃ k : Nat, k + g = i ∧ kv = .int .i64 (k : Int) ∧ Hid (TcJ n l q xs k) ∧ Blk wr w.heap.size 29 #[.int .i64 (n : Int), .slice A l.length c] ∧ Below w.heap.size w wr)
          case atStart => exact ⟨0, by omega, rfl, HJ0, HG5.out, HB5.out⟩
          case round =>
            clear HJ0 HG5 HB5
            obtain ⟨k, hkg, rfl, htj, hgb, hB⟩ := hrel
            obtain ⟨p0, p1, -, -⟩ := hgb.two
            have HG := Lib.hid hgb
            have HB := Lib.hid hB
            cases gk with
            | zero =>
              obtain rfl : k = i := by omega
              have HN : Hid (BrK n l q (k + 1) ∧ TcK n l q (k + 1)) := ⟨HBN.out, HTK.out htj.out⟩
              clear hgb hB p0 p1
              go_wp2_with fail
              go_roundg g2
              case measure => omega
              case rel => exact ⟨k + 1, by omega, by go_num, HN, HG.out, HB.out⟩
            | succ g3 =>
              have hk : k < i := by omega
              have hk' : (k : Int) < (i : Int) := by omega
              have hkq : k < q.length := by omega
              have hkq' : (k : Int) < (q.length : Int) := by omega
              obtain ⟨ys, hys⟩ : ∃ ys, q[k]? = some ys := ⟨_, List.getElem?_eq_getElem hkq⟩
              have hyl := hqr ys (List.mem_of_getElem? hys)
              obtain ⟨u6, g6, o6, hu6, hA6, c6w, huy⟩ := HT.out.row hys
              cases hA6
              obtain ⟨Ay, cy, rfl, -⟩ := huy.form
              have q5 := nearv.cell_keep HC5W.out hB
              have q6 := nearv.cell_keep c6w hB
              have HUY := Lib.hid huy
              have hyr : ∀ x ∈ ys, 0 ≤ x ∧ x < (n : Int) := (HBN.out k ys (by omega) hys).1.2.1
              have HT1 := Lib.hid (HTO.out ys xs _ _ wr.drew hB.drew (HUY.out.below hB.drew) hyl (HUW.out.below hB.drew) hxl)
              rw [tc_meet hyr HXN.out] at HT1
              cases hm : meetB l n (codeL ys) (codeL xs) with
              | true =>
                have HN := Lib.hid (htj.out.next hys hm)
                rw [hm] at HT1
                clear hgb hB hys c6w huy hyr hm htj hu6
                go_wp2_with fail
                refine wp_region_held_drew (S := (fun w' : World => w'.cell? ⟨w.heap.size, 0, none⟩ = some (.int .i64 (n : Int)) ∧ w'.cell? ⟨w.heap.size, 1, none⟩ = some (.slice A l.length c) ∧ w'.cell? ⟨g5, o5 + i, none⟩ = some (.slice Ax xs.length cx) ∧ w'.cell? ⟨g5, o5 + k, none⟩ = some (.slice Ay ys.length cy))) (by kernel_rfl) (by (try dsimp only); simp [*]) (fun hHeld => ?_)
                change wpAnyH _ _ _ _ _ _ #[false, false, false, false, false, false, false, false, false, false, false] _ _
                refine wpAnyH_take (i := 0) (oi := ⟨some 35, _, _, _, _, _⟩) (v := ?_) rfl (by kernel_rfl) (by kernel_rfl) (by kernel_rfl) (fun _ _ _ h => h) (Or.inl ⟨by rfl, ?_⟩) (by assumption) ?_
                rotate_left
                · (intro w hSw; (try dsimp only at hSw); go_simp; (try (with_reducible rfl)))
                try simp only [Act.put, List.setIfInBounds_toArray, List.set_cons_zero, List.set_cons_succ]
                refine wpAnyH_take (i := 1) (oi := ⟨some 36, _, _, _, _, _⟩) (v := ?_) rfl (by kernel_rfl) (by kernel_rfl) (by kernel_rfl) (fun _ _ _ h => h) (Or.inl ⟨by rfl, ?_⟩) (by assumption) ?_
                rotate_left
                · (intro w hSw; (try dsimp only at hSw); go_simp; (try (with_reducible rfl)))
                try simp only [Act.put, List.setIfInBounds_toArray, List.set_cons_zero, List.set_cons_succ]
                refine wpAnyH_take (i := 2) (oi := ⟨some 37, _, _, _, _, _⟩) (v := ?_) rfl (by kernel_rfl) (by kernel_rfl) (by kernel_rfl) (fun _ _ _ h => h) (Or.inl ⟨by rfl, ?_⟩) (by assumption) ?_
                rotate_left
                · (intro w hSw; (try dsimp only at hSw); go_simp; (try (with_reducible rfl)))
                try simp only [Act.put, List.setIfInBounds_toArray, List.set_cons_zero, List.set_cons_succ]
                refine wpAnyH_take (i := 3) (oi := ⟨some 38, _, _, _, _, _⟩) (v := ?_) rfl (by kernel_rfl) (by kernel_rfl) (by kernel_rfl) (fun _ _ _ h => h) (Or.inl ⟨by rfl, ?_⟩) (by assumption) ?_
                rotate_left
                · (intro w hSw; (try dsimp only at hSw); go_simp; (try (with_reducible rfl)))
                try simp only [Act.put, List.setIfInBounds_toArray, List.set_cons_zero, List.set_cons_succ]
                refine wpAnyH_take (i := 4) (oi := ⟨some 39, _, _, _, _, _⟩) (v := ?_) rfl (by kernel_rfl) (by kernel_rfl) (by kernel_rfl) (fun _ _ _ h => h) (Or.inl ⟨by rfl, ?_⟩) (by assumption) ?_
                rotate_left
                · (intro w hSw; (try dsimp only at hSw); go_simp; (try (with_reducible rfl)))
                try simp only [Act.put, List.setIfInBounds_toArray, List.set_cons_zero, List.set_cons_succ]
                refine wpAnyH_take (i := 5) (oi := ⟨some 40, _, _, _, _, _⟩) (v := ?_) rfl (by kernel_rfl) (by kernel_rfl) (by kernel_rfl) (fun _ _ _ h => h) (Or.inl ⟨by rfl, ?_⟩) (by assumption) ?_
                rotate_left
                · (intro w hSw; (try dsimp only at hSw); go_simp; (try (with_reducible rfl)))
                try simp only [Act.put, List.setIfInBounds_toArray, List.set_cons_zero, List.set_cons_succ]
                refine wpAnyH_take (i := 6) (oi := ⟨some 41, _, _, _, _, _⟩) (v := ?_) rfl (by kernel_rfl) (by kernel_rfl) (by kernel_rfl) (fun _ _ _ h => h) (Or.inl ⟨by rfl, ?_⟩) (by assumption) ?_
                rotate_left
                · (intro w hSw; (try dsimp only at hSw); go_simp; (try (with_reducible rfl)))
                try simp only [Act.put, List.setIfInBounds_toArray, List.set_cons_zero, List.set_cons_succ]
                refine wpAnyH_take (i := 7) (oi := ⟨some 42, _, _, _, _, _⟩) (v := ?_) rfl (by kernel_rfl) (by kernel_rfl) (by kernel_rfl) (fun _ _ _ h => h) (Or.inl ⟨by rfl, ?_⟩) (by assumption) ?_
                rotate_left
                · (intro w hSw; (try dsimp only at hSw); go_simp; (try (with_reducible rfl)))
                try simp only [Act.put, List.setIfInBounds_toArray, List.set_cons_zero, List.set_cons_succ]
                refine wpAnyH_take (i := 8) (oi := ⟨some 43, _, _, _, _, _⟩) (v := ?_) rfl (by kernel_rfl) (by kernel_rfl) (by kernel_rfl) (fun _ _ _ h => h) (Or.inl ⟨by rfl, ?_⟩) (by assumption) ?_
                rotate_left
                · (intro w hSw; (try dsimp only at hSw); go_simp; (try (with_reducible rfl)))
                try simp only [Act.put, List.setIfInBounds_toArray, List.set_cons_zero, List.set_cons_succ]
                refine wpAnyH_ready (rs := [9]) (by kernel_rfl) (by simp) ?_
                refine AllReadyH.cons (o := ⟨some 44, _, _, _, _, _⟩) rfl (fun K hK => ?_) AllReadyH.nil
                go_simp
                (with_reducible refine HT1.out.mono ?_); rintro e w3 ⟨rfl, b3⟩; have d3 : Below wr.heap.size wr w3 := btrans (Below.refl _ _).drew b3; obtain ⟨k0, k1, -, -⟩ := (HG.out.below d3 HG.out.lt).two; have k2 := nearv.cell_keep q5 d3; have k3 := nearv.cell_keep q6 d3
                go_wp2_with fail
                refine hK.out _ _ (by (try dsimp only); simp [*]) (fun hHeld => ?_)
                clear hK K
                try simp only [List.setIfInBounds_toArray, List.set_cons_zero, List.set_cons_succ]
                refine wpAnyH_take (i := 10) (oi := ⟨some 45, _, _, _, _, _⟩) (v := ?_) rfl (by kernel_rfl) (by kernel_rfl) (by kernel_rfl) (fun _ _ _ h => h) (Or.inl ⟨by rfl, ?_⟩) (by assumption) ?_
                rotate_left
                · (intro w hSw; (try dsimp only at hSw); go_simp; (try (with_reducible rfl)))
                try simp only [Act.put, List.setIfInBounds_toArray, List.set_cons_zero, List.set_cons_succ]
                refine wpAnyH_done (by kernel_rfl) ?_ _
                have HG3 := Lib.hid (HG.out.below d3 HG.out.lt)
                have HB3 := Lib.hid (btrans HB.out d3)
                clear b3 d3 k0 k1 k2 k3 q5 q6 p0 p1 hHeld
                go_wp2_with fail
                go_roundg g3
                case measure => omega
                case rel => exact ⟨k + 1, by omega, by go_num, HN, HG3.out, HB3.out⟩
              | false =>
                have HV : Hid (okG (BramP (n : Int) l q) = false) := okG_no fun h2 => by
                  have h3 := (brP_iff.1 (HIF.out.1 h2)).2 i k xs ys hlt hk HXS.out hys
                  rw [hm] at h3; cases h3
                rw [hm] at HT1
                clear hgb hB hys c6w huy hyr hm htj hu6
                go_wp2_with fail
                refine wp_region_held_drew (S := (fun w' : World => w'.cell? ⟨w.heap.size, 0, none⟩ = some (.int .i64 (n : Int)) ∧ w'.cell? ⟨w.heap.size, 1, none⟩ = some (.slice A l.length c) ∧ w'.cell? ⟨g5, o5 + i, none⟩ = some (.slice Ax xs.length cx) ∧ w'.cell? ⟨g5, o5 + k, none⟩ = some (.slice Ay ys.length cy))) (by kernel_rfl) (by (try dsimp only); simp [*]) (fun hHeld => ?_)
                change wpAnyH _ _ _ _ _ _ #[false, false, false, false, false, false, false, false, false, false, false] _ _
                refine wpAnyH_take (i := 0) (oi := ⟨some 35, _, _, _, _, _⟩) (v := ?_) rfl (by kernel_rfl) (by kernel_rfl) (by kernel_rfl) (fun _ _ _ h => h) (Or.inl ⟨by rfl, ?_⟩) (by assumption) ?_
                rotate_left
                · (intro w hSw; (try dsimp only at hSw); go_simp; (try (with_reducible rfl)))
                try simp only [Act.put, List.setIfInBounds_toArray, List.set_cons_zero, List.set_cons_succ]
                refine wpAnyH_take (i := 1) (oi := ⟨some 36, _, _, _, _, _⟩) (v := ?_) rfl (by kernel_rfl) (by kernel_rfl) (by kernel_rfl) (fun _ _ _ h => h) (Or.inl ⟨by rfl, ?_⟩) (by assumption) ?_
                rotate_left
                · (intro w hSw; (try dsimp only at hSw); go_simp; (try (with_reducible rfl)))
                try simp only [Act.put, List.setIfInBounds_toArray, List.set_cons_zero, List.set_cons_succ]
                refine wpAnyH_take (i := 2) (oi := ⟨some 37, _, _, _, _, _⟩) (v := ?_) rfl (by kernel_rfl) (by kernel_rfl) (by kernel_rfl) (fun _ _ _ h => h) (Or.inl ⟨by rfl, ?_⟩) (by assumption) ?_
                rotate_left
                · (intro w hSw; (try dsimp only at hSw); go_simp; (try (with_reducible rfl)))
                try simp only [Act.put, List.setIfInBounds_toArray, List.set_cons_zero, List.set_cons_succ]
                refine wpAnyH_take (i := 3) (oi := ⟨some 38, _, _, _, _, _⟩) (v := ?_) rfl (by kernel_rfl) (by kernel_rfl) (by kernel_rfl) (fun _ _ _ h => h) (Or.inl ⟨by rfl, ?_⟩) (by assumption) ?_
                rotate_left
                · (intro w hSw; (try dsimp only at hSw); go_simp; (try (with_reducible rfl)))
                try simp only [Act.put, List.setIfInBounds_toArray, List.set_cons_zero, List.set_cons_succ]
                refine wpAnyH_take (i := 4) (oi := ⟨some 39, _, _, _, _, _⟩) (v := ?_) rfl (by kernel_rfl) (by kernel_rfl) (by kernel_rfl) (fun _ _ _ h => h) (Or.inl ⟨by rfl, ?_⟩) (by assumption) ?_
                rotate_left
                · (intro w hSw; (try dsimp only at hSw); go_simp; (try (with_reducible rfl)))
                try simp only [Act.put, List.setIfInBounds_toArray, List.set_cons_zero, List.set_cons_succ]
                refine wpAnyH_take (i := 5) (oi := ⟨some 40, _, _, _, _, _⟩) (v := ?_) rfl (by kernel_rfl) (by kernel_rfl) (by kernel_rfl) (fun _ _ _ h => h) (Or.inl ⟨by rfl, ?_⟩) (by assumption) ?_
                rotate_left
                · (intro w hSw; (try dsimp only at hSw); go_simp; (try (with_reducible rfl)))
                try simp only [Act.put, List.setIfInBounds_toArray, List.set_cons_zero, List.set_cons_succ]
                refine wpAnyH_take (i := 6) (oi := ⟨some 41, _, _, _, _, _⟩) (v := ?_) rfl (by kernel_rfl) (by kernel_rfl) (by kernel_rfl) (fun _ _ _ h => h) (Or.inl ⟨by rfl, ?_⟩) (by assumption) ?_
                rotate_left
                · (intro w hSw; (try dsimp only at hSw); go_simp; (try (with_reducible rfl)))
                try simp only [Act.put, List.setIfInBounds_toArray, List.set_cons_zero, List.set_cons_succ]
                refine wpAnyH_take (i := 7) (oi := ⟨some 42, _, _, _, _, _⟩) (v := ?_) rfl (by kernel_rfl) (by kernel_rfl) (by kernel_rfl) (fun _ _ _ h => h) (Or.inl ⟨by rfl, ?_⟩) (by assumption) ?_
                rotate_left
                · (intro w hSw; (try dsimp only at hSw); go_simp; (try (with_reducible rfl)))
                try simp only [Act.put, List.setIfInBounds_toArray, List.set_cons_zero, List.set_cons_succ]
                refine wpAnyH_take (i := 8) (oi := ⟨some 43, _, _, _, _, _⟩) (v := ?_) rfl (by kernel_rfl) (by kernel_rfl) (by kernel_rfl) (fun _ _ _ h => h) (Or.inl ⟨by rfl, ?_⟩) (by assumption) ?_
                rotate_left
                · (intro w hSw; (try dsimp only at hSw); go_simp; (try (with_reducible rfl)))
                try simp only [Act.put, List.setIfInBounds_toArray, List.set_cons_zero, List.set_cons_succ]
                refine wpAnyH_ready (rs := [9]) (by kernel_rfl) (by simp) ?_
                refine AllReadyH.cons (o := ⟨some 44, _, _, _, _, _⟩) rfl (fun K hK => ?_) AllReadyH.nil
                go_simp
                (with_reducible refine HT1.out.mono ?_); rintro e w3 ⟨rfl, b3⟩; have d3 : Below wr.heap.size wr w3 := btrans (Below.refl _ _).drew b3; obtain ⟨k0, k1, -, -⟩ := (HG.out.below d3 HG.out.lt).two; have k2 := nearv.cell_keep q5 d3; have k3 := nearv.cell_keep q6 d3
                go_wp2_with fail
                refine hK.out _ _ (by (try dsimp only); simp [*]) (fun hHeld => ?_)
                clear hK K
                try simp only [List.setIfInBounds_toArray, List.set_cons_zero, List.set_cons_succ]
                refine wpAnyH_take (i := 10) (oi := ⟨some 45, _, _, _, _, _⟩) (v := ?_) rfl (by kernel_rfl) (by kernel_rfl) (by kernel_rfl) (fun _ _ _ h => h) (Or.inl ⟨by rfl, ?_⟩) (by assumption) ?_
                rotate_left
                · (intro w hSw; (try dsimp only at hSw); go_simp; (try (with_reducible rfl)))
                try simp only [Act.put, List.setIfInBounds_toArray, List.set_cons_zero, List.set_cons_succ]
                refine wpAnyH_done (by kernel_rfl) ?_ _
                have HB3 := Lib.hid (btrans HB.out d3)
                clear b3 d3 k0 k1 k2 k3 q5 q6 p0 p1 hHeld
                go_wp2_with fail
                go_ret
                rw [HV.out]
                exact ⟨rfl, HB3.out⟩
        · have HF := Lib.hid (HNO.out fun h1 => hj h1.2)
          have hp1 : (reach.partsL n (reach.J2 l) (bitB (codeL xs))).length ≠ 1 := fun h1 => hj (HP1.out.1 h1)
          have hpe : (((reach.partsL n (reach.J2 l) (bitB (codeL xs))).length : Int) != 1) = true := by rw [bne_iff_ne]; omega
          have hpe2 : (((reach.partsL n (reach.J2 l) (bitB (codeL xs))).length : Int) == 1) = false := by rw [beq_eq_false_iff_ne]; omega
          have hpe3 : ((reach.partsL n (reach.J2 l) (bitB (codeL xs))).length == 1) = false := by rw [beq_eq_false_iff_ne]; omega
          clear hu hxs hgb hB hck hso hj hp1 HP1
          go_wp2_with fail
          refine wp_region_held_drew (S := (fun w' : World => w'.cell? ⟨w.heap.size, 0, none⟩ = some (.int .i64 (n : Int)) ∧ w'.cell? ⟨w.heap.size, 1, none⟩ = some (.slice A l.length c) ∧ w'.cell? ⟨g5, o5 + i, none⟩ = some (.slice Ax xs.length cx))) (by kernel_rfl) (by (try dsimp only); simp [*]) (fun hHeld => ?_)
          change wpAnyH _ _ _ _ _ _ #[false, false, false, false, false, false, false, false, false, false, false, false, false, false, false, false, false] _ _
          refine wpAnyH_take (i := 0) (oi := ⟨some 13, _, _, _, _, _⟩) (v := ?_) rfl (by kernel_rfl) (by kernel_rfl) (by kernel_rfl) (fun _ _ _ h => h) (Or.inl ⟨by rfl, ?_⟩) (by assumption) ?_
          rotate_left
          · (intro w hSw; (try dsimp only at hSw); go_simp; (try (with_reducible rfl)))
          try simp only [Act.put, List.setIfInBounds_toArray, List.set_cons_zero, List.set_cons_succ]
          refine wpAnyH_take (i := 1) (oi := ⟨some 14, _, _, _, _, _⟩) (v := ?_) rfl (by kernel_rfl) (by kernel_rfl) (by kernel_rfl) (fun _ _ _ h => h) (Or.inl ⟨by rfl, ?_⟩) (by assumption) ?_
          rotate_left
          · (intro w hSw; (try dsimp only at hSw); go_simp; (try (with_reducible rfl)))
          try simp only [Act.put, List.setIfInBounds_toArray, List.set_cons_zero, List.set_cons_succ]
          refine wpAnyH_take (i := 2) (oi := ⟨some 15, _, _, _, _, _⟩) (v := ?_) rfl (by kernel_rfl) (by kernel_rfl) (by kernel_rfl) (fun _ _ _ h => h) (Or.inl ⟨by rfl, ?_⟩) (by assumption) ?_
          rotate_left
          · (intro w hSw; (try dsimp only at hSw); go_simp; (try (with_reducible rfl)))
          try simp only [Act.put, List.setIfInBounds_toArray, List.set_cons_zero, List.set_cons_succ]
          refine wpAnyH_take (i := 3) (oi := ⟨some 16, _, _, _, _, _⟩) (v := ?_) rfl (by kernel_rfl) (by kernel_rfl) (by kernel_rfl) (fun _ _ _ h => h) (Or.inl ⟨by rfl, ?_⟩) (by assumption) ?_
          rotate_left
          · (intro w hSw; (try dsimp only at hSw); go_simp; (try (with_reducible rfl)))
          try simp only [Act.put, List.setIfInBounds_toArray, List.set_cons_zero, List.set_cons_succ]
          refine wpAnyH_take (i := 4) (oi := ⟨some 17, _, _, _, _, _⟩) (v := ?_) rfl (by kernel_rfl) (by kernel_rfl) (by kernel_rfl) (fun _ _ _ h => h) (Or.inl ⟨by rfl, ?_⟩) (by assumption) ?_
          rotate_left
          · (intro w hSw; (try dsimp only at hSw); go_simp; (try (with_reducible rfl)))
          try simp only [Act.put, List.setIfInBounds_toArray, List.set_cons_zero, List.set_cons_succ]
          refine wpAnyH_ready (rs := [5]) (by kernel_rfl) (by simp) ?_
          refine AllReadyH.cons (o := ⟨some 18, _, _, _, _, _⟩) rfl (fun K hK => ?_) AllReadyH.nil
          go_simp
          (with_reducible refine HS1.out.mono ?_); rintro e w4 ⟨rfl, b4⟩; have d4 : Below wr.heap.size wr w4 := btrans (Below.refl _ _).drew b4; obtain ⟨k0, k1, -, -⟩ := (HG.out.below d4 HG.out.lt).two; have k2 := nearv.cell_keep c5 d4
          go_wp2_with fail
          refine hK.out _ _ (by (try dsimp only); simp [*]) (fun hHeld => ?_)
          clear hK K
          try simp only [List.setIfInBounds_toArray, List.set_cons_zero, List.set_cons_succ]
          refine wpAnyH_take (i := 6) (oi := ⟨some 19, _, _, _, _, _⟩) (v := ?_) rfl (by kernel_rfl) (by kernel_rfl) (by kernel_rfl) (fun _ _ _ h => h) (Or.inl ⟨by rfl, ?_⟩) (by assumption) ?_
          rotate_left
          · (intro w hSw; (try dsimp only at hSw); go_simp; (try (with_reducible rfl)))
          try simp only [Act.put, List.setIfInBounds_toArray, List.set_cons_zero, List.set_cons_succ]
          refine wpAnyH_take (i := 7) (oi := ⟨some 20, _, _, _, _, _⟩) (v := ?_) rfl (by kernel_rfl) (by kernel_rfl) (by kernel_rfl) (fun _ _ _ h => h) (Or.inl ⟨by rfl, ?_⟩) (by assumption) ?_
          rotate_left
          · (intro w hSw; (try dsimp only at hSw); go_simp; (try (with_reducible rfl)))
          try simp only [Act.put, List.setIfInBounds_toArray, List.set_cons_zero, List.set_cons_succ]
          refine wpAnyH_take (i := 8) (oi := ⟨some 21, _, _, _, _, _⟩) (v := ?_) rfl (by kernel_rfl) (by kernel_rfl) (by kernel_rfl) (fun _ _ _ h => h) (Or.inl ⟨by rfl, ?_⟩) (by assumption) ?_
          rotate_left
          · (intro w hSw; (try dsimp only at hSw); go_simp; (try (with_reducible rfl)))
          try simp only [Act.put, List.setIfInBounds_toArray, List.set_cons_zero, List.set_cons_succ]
          refine wpAnyH_take (i := 9) (oi := ⟨some 22, _, _, _, _, _⟩) (v := ?_) rfl (by kernel_rfl) (by kernel_rfl) (by kernel_rfl) (fun _ _ _ h => h) (Or.inl ⟨by rfl, ?_⟩) (by assumption) ?_
          rotate_left
          · (intro w hSw; (try dsimp only at hSw); go_simp; (try (with_reducible rfl)))
          try simp only [Act.put, List.setIfInBounds_toArray, List.set_cons_zero, List.set_cons_succ]
          refine wpAnyH_take (i := 10) (oi := ⟨some 23, _, _, _, _, _⟩) (v := ?_) rfl (by kernel_rfl) (by kernel_rfl) (by kernel_rfl) (fun _ _ _ h => h) (Or.inl ⟨by rfl, ?_⟩) (by assumption) ?_
          rotate_left
          · (intro w hSw; (try dsimp only at hSw); go_simp; (try (with_reducible rfl)))
          try simp only [Act.put, List.setIfInBounds_toArray, List.set_cons_zero, List.set_cons_succ]
          refine wpAnyH_take (i := 11) (oi := ⟨some 24, _, _, _, _, _⟩) (v := ?_) rfl (by kernel_rfl) (by kernel_rfl) (by kernel_rfl) (fun _ _ _ h => h) (Or.inl ⟨by rfl, ?_⟩) (by assumption) ?_
          rotate_left
          · (intro w hSw; (try dsimp only at hSw); go_simp; (try (with_reducible rfl)))
          try simp only [Act.put, List.setIfInBounds_toArray, List.set_cons_zero, List.set_cons_succ]
          refine wpAnyH_take (i := 12) (oi := ⟨some 25, _, _, _, _, _⟩) (v := ?_) rfl (by kernel_rfl) (by kernel_rfl) (by kernel_rfl) (fun _ _ _ h => h) (Or.inl ⟨by rfl, ?_⟩) (by assumption) ?_
          rotate_left
          · (intro w hSw; (try dsimp only at hSw); go_simp; (try (with_reducible rfl)))
          try simp only [Act.put, List.setIfInBounds_toArray, List.set_cons_zero, List.set_cons_succ]
          refine wpAnyH_ready (rs := [13]) (by kernel_rfl) (by simp) ?_
          refine AllReadyH.cons (o := ⟨some 26, _, _, _, _, _⟩) rfl (fun K hK => ?_) AllReadyH.nil
          go_simp
          (with_reducible refine (HPT.out w4 d4).mono ?_); rintro e w5 ⟨A6, c6, us6, rfl, -, b5⟩; have d5 : Below wr.heap.size wr w5 := btrans d4 b5; obtain ⟨i0_, i1_, -, -⟩ := (HG.out.below d5 HG.out.lt).two; have i2_ := nearv.cell_keep c5 d5
          go_wp2_with fail
          refine hK.out _ _ (by (try dsimp only); simp [*]) (fun hHeld => ?_)
          clear hK K
          try simp only [List.setIfInBounds_toArray, List.set_cons_zero, List.set_cons_succ]
          refine wpAnyH_take (i := 14) (oi := ⟨some 27, _, _, _, _, _⟩) (v := ?_) rfl (by kernel_rfl) (by kernel_rfl) (by kernel_rfl) (fun _ _ _ h => h) (Or.inl ⟨by rfl, ?_⟩) (by assumption) ?_
          rotate_left
          · (intro w hSw; (try dsimp only at hSw); go_simp; (try (with_reducible rfl)))
          try simp only [Act.put, List.setIfInBounds_toArray, List.set_cons_zero, List.set_cons_succ]
          refine wpAnyH_take (i := 15) (oi := ⟨some 28, _, _, _, _, _⟩) (v := ?_) rfl (by kernel_rfl) (by kernel_rfl) (by kernel_rfl) (fun _ _ _ h => h) (Or.inl ⟨by rfl, ?_⟩) (by assumption) ?_
          rotate_left
          · (intro w hSw; (try dsimp only at hSw); go_simp; (try (with_reducible rfl)))
          try simp only [Act.put, List.setIfInBounds_toArray, List.set_cons_zero, List.set_cons_succ]
          refine wpAnyH_take (i := 16) (oi := ⟨some 29, _, _, _, _, _⟩) (v := ?_) rfl (by kernel_rfl) (by kernel_rfl) (by kernel_rfl) (fun _ _ _ h => h) (Or.inl ⟨by rfl, ?_⟩) (by assumption) ?_
          rotate_left
          · (intro w hSw; (try dsimp only at hSw); go_simp; (try (with_reducible rfl)))
          try simp only [Act.put, List.setIfInBounds_toArray, List.set_cons_zero, List.set_cons_succ]
          refine wpAnyH_done (by kernel_rfl) ?_ _
          go_wp2_with fail
          go_ret
          rw [HF.out]
          exact ⟨rfl, btrans HB.out d5⟩
      · have HF := Lib.hid (HNO.out fun h1 => hso h1.1)
        rw [okG_no (fun h1 => hso ((HRS.out xs).1 h1))] at HS1
        clear hu hxs hgb hB hck hso
        go_wp2_with fail
        refine wp_region_held_drew (S := (fun w' : World => w'.cell? ⟨w.heap.size, 0, none⟩ = some (.int .i64 (n : Int)) ∧ w'.cell? ⟨w.heap.size, 1, none⟩ = some (.slice A l.length c) ∧ w'.cell? ⟨g5, o5 + i, none⟩ = some (.slice Ax xs.length cx))) (by kernel_rfl) (by (try dsimp only); simp [*]) (fun hHeld => ?_)
        change wpAnyH _ _ _ _ _ _ #[false, false, false, false, false, false, false, false, false, false, false, false, false, false, false, false, false] _ _
        refine wpAnyH_take (i := 0) (oi := ⟨some 13, _, _, _, _, _⟩) (v := ?_) rfl (by kernel_rfl) (by kernel_rfl) (by kernel_rfl) (fun _ _ _ h => h) (Or.inl ⟨by rfl, ?_⟩) (by assumption) ?_
        rotate_left
        · (intro w hSw; (try dsimp only at hSw); go_simp; (try (with_reducible rfl)))
        try simp only [Act.put, List.setIfInBounds_toArray, List.set_cons_zero, List.set_cons_succ]
        refine wpAnyH_take (i := 1) (oi := ⟨some 14, _, _, _, _, _⟩) (v := ?_) rfl (by kernel_rfl) (by kernel_rfl) (by kernel_rfl) (fun _ _ _ h => h) (Or.inl ⟨by rfl, ?_⟩) (by assumption) ?_
        rotate_left
        · (intro w hSw; (try dsimp only at hSw); go_simp; (try (with_reducible rfl)))
        try simp only [Act.put, List.setIfInBounds_toArray, List.set_cons_zero, List.set_cons_succ]
        refine wpAnyH_take (i := 2) (oi := ⟨some 15, _, _, _, _, _⟩) (v := ?_) rfl (by kernel_rfl) (by kernel_rfl) (by kernel_rfl) (fun _ _ _ h => h) (Or.inl ⟨by rfl, ?_⟩) (by assumption) ?_
        rotate_left
        · (intro w hSw; (try dsimp only at hSw); go_simp; (try (with_reducible rfl)))
        try simp only [Act.put, List.setIfInBounds_toArray, List.set_cons_zero, List.set_cons_succ]
        refine wpAnyH_take (i := 3) (oi := ⟨some 16, _, _, _, _, _⟩) (v := ?_) rfl (by kernel_rfl) (by kernel_rfl) (by kernel_rfl) (fun _ _ _ h => h) (Or.inl ⟨by rfl, ?_⟩) (by assumption) ?_
        rotate_left
        · (intro w hSw; (try dsimp only at hSw); go_simp; (try (with_reducible rfl)))
        try simp only [Act.put, List.setIfInBounds_toArray, List.set_cons_zero, List.set_cons_succ]
        refine wpAnyH_take (i := 4) (oi := ⟨some 17, _, _, _, _, _⟩) (v := ?_) rfl (by kernel_rfl) (by kernel_rfl) (by kernel_rfl) (fun _ _ _ h => h) (Or.inl ⟨by rfl, ?_⟩) (by assumption) ?_
        rotate_left
        · (intro w hSw; (try dsimp only at hSw); go_simp; (try (with_reducible rfl)))
        try simp only [Act.put, List.setIfInBounds_toArray, List.set_cons_zero, List.set_cons_succ]
        refine wpAnyH_ready (rs := [5]) (by kernel_rfl) (by simp) ?_
        refine AllReadyH.cons (o := ⟨some 18, _, _, _, _, _⟩) rfl (fun K hK => ?_) AllReadyH.nil
        go_simp
        (with_reducible refine HS1.out.mono ?_); rintro e w4 ⟨rfl, b4⟩; have d4 : Below wr.heap.size wr w4 := btrans (Below.refl _ _).drew b4; obtain ⟨k0, k1, -, -⟩ := (HG.out.below d4 HG.out.lt).two; have k2 := nearv.cell_keep c5 d4
        go_wp2_with fail
        refine hK.out _ _ (by (try dsimp only); simp [*]) (fun hHeld => ?_)
        clear hK K
        try simp only [List.setIfInBounds_toArray, List.set_cons_zero, List.set_cons_succ]
        refine wpAnyH_take (i := 6) (oi := ⟨some 19, _, _, _, _, _⟩) (v := ?_) rfl (by kernel_rfl) (by kernel_rfl) (by kernel_rfl) (fun _ _ _ h => h) (Or.inl ⟨by rfl, ?_⟩) (by assumption) ?_
        rotate_left
        · (intro w hSw; (try dsimp only at hSw); go_simp; (try (with_reducible rfl)))
        try simp only [Act.put, List.setIfInBounds_toArray, List.set_cons_zero, List.set_cons_succ]
        refine wpAnyH_take (i := 7) (oi := ⟨some 20, _, _, _, _, _⟩) (v := ?_) rfl (by kernel_rfl) (by kernel_rfl) (by kernel_rfl) (fun _ _ _ h => h) (Or.inl ⟨by rfl, ?_⟩) (by assumption) ?_
        rotate_left
        · (intro w hSw; (try dsimp only at hSw); go_simp; (try (with_reducible rfl)))
        try simp only [Act.put, List.setIfInBounds_toArray, List.set_cons_zero, List.set_cons_succ]
        refine wpAnyH_take (i := 8) (oi := ⟨some 21, _, _, _, _, _⟩) (v := undef) rfl (by kernel_rfl) (by kernel_rfl) (by kernel_rfl) (fun _ _ _ h => h) (Or.inr ⟨by rfl, rfl⟩) (by assumption) ?_
        try simp only [Act.put, List.setIfInBounds_toArray, List.set_cons_zero, List.set_cons_succ]
        refine wpAnyH_take (i := 9) (oi := ⟨some 22, _, _, _, _, _⟩) (v := undef) rfl (by kernel_rfl) (by kernel_rfl) (by kernel_rfl) (fun _ _ _ h => h) (Or.inr ⟨by rfl, rfl⟩) (by assumption) ?_
        try simp only [Act.put, List.setIfInBounds_toArray, List.set_cons_zero, List.set_cons_succ]
        refine wpAnyH_take (i := 10) (oi := ⟨some 23, _, _, _, _, _⟩) (v := undef) rfl (by kernel_rfl) (by kernel_rfl) (by kernel_rfl) (fun _ _ _ h => h) (Or.inr ⟨by rfl, rfl⟩) (by assumption) ?_
        try simp only [Act.put, List.setIfInBounds_toArray, List.set_cons_zero, List.set_cons_succ]
        refine wpAnyH_take (i := 11) (oi := ⟨some 24, _, _, _, _, _⟩) (v := undef) rfl (by kernel_rfl) (by kernel_rfl) (by kernel_rfl) (fun _ _ _ h => h) (Or.inr ⟨by rfl, rfl⟩) (by assumption) ?_
        try simp only [Act.put, List.setIfInBounds_toArray, List.set_cons_zero, List.set_cons_succ]
        refine wpAnyH_take (i := 12) (oi := ⟨some 25, _, _, _, _, _⟩) (v := undef) rfl (by kernel_rfl) (by kernel_rfl) (by kernel_rfl) (fun _ _ _ h => h) (Or.inr ⟨by rfl, rfl⟩) (by assumption) ?_
        try simp only [Act.put, List.setIfInBounds_toArray, List.set_cons_zero, List.set_cons_succ]
        refine wpAnyH_take (i := 13) (oi := ⟨some 26, _, _, _, _, _⟩) (v := undef) rfl (by kernel_rfl) (by kernel_rfl) (by kernel_rfl) (fun _ _ _ h => h) (Or.inr ⟨by rfl, rfl⟩) (by assumption) ?_
        try simp only [Act.put, List.setIfInBounds_toArray, List.set_cons_zero, List.set_cons_succ]
        refine wpAnyH_take (i := 14) (oi := ⟨some 27, _, _, _, _, _⟩) (v := undef) rfl (by kernel_rfl) (by kernel_rfl) (by kernel_rfl) (fun _ _ _ h => h) (Or.inr ⟨by rfl, rfl⟩) (by assumption) ?_
        try simp only [Act.put, List.setIfInBounds_toArray, List.set_cons_zero, List.set_cons_succ]
        refine wpAnyH_take (i := 15) (oi := ⟨some 28, _, _, _, _, _⟩) (v := undef) rfl (by kernel_rfl) (by kernel_rfl) (by kernel_rfl) (fun _ _ _ h => h) (Or.inr ⟨by rfl, rfl⟩) (by assumption) ?_
        try simp only [Act.put, List.setIfInBounds_toArray, List.set_cons_zero, List.set_cons_succ]
        refine wpAnyH_take (i := 16) (oi := ⟨some 29, _, _, _, _, _⟩) (v := ?_) rfl (by kernel_rfl) (by kernel_rfl) (by kernel_rfl) (fun _ _ _ h => h) (Or.inl ⟨by rfl, ?_⟩) (by assumption) ?_
        rotate_left
        · (intro w hSw; (try dsimp only at hSw); go_simp; (try (with_reducible rfl)))
        try simp only [Act.put, List.setIfInBounds_toArray, List.set_cons_zero, List.set_cons_succ]
        refine wpAnyH_done (by kernel_rfl) ?_ _
        go_wp2_with fail
        go_ret
        rw [HF.out]
        exact ⟨rfl, btrans HB.out d4⟩
end Go.Proofs.YtdhbaegkogklgaaDoor.joins

/- Brambles: the contract of the model's l5Meets. -/
namespace Go.Proofs.YtdhbaegkogklgaaDoor.joins
open Go.RowKit P2 words edges ints good adjs fns sets rets covs balls bags bitsI ups func gridr
set_option linter.unusedVariables false

/-- one of the first k elements is in a list -/
def mtK (xs r : List Int) (k : Nat) : Bool := (xs.take k).any fun x => decide (x ∈ r)
theorem mtK_yes {xs r : List Int} {k : Nat} {x : Int} (hx : xs[k]? = some x) (h : mtK xs r k = true) : mtK xs r (k + 1) = true := by
  unfold mtK at *
  rw [List.take_add_one, hx, List.any_append, h]; rfl
theorem mtK_no {xs r : List Int} {k : Nat} {x : Int} (hx : xs[k]? = some x) (h : mtK xs r k = false) : mtK xs r (k + 1) = decide (x ∈ r) := by
  unfold mtK at *
  rw [List.take_add_one, hx, List.any_append, h]; simp
theorem mtK_all (xs r : List Int) : mtK xs r xs.length = mtA xs r := by unfold mtK mtA; rw [List.take_length]
def MtO (xs : List Int) (q : List (List Int)) (i : Nat) : Prop := ∀ j r, j < i → q[j]? = some r → mtA xs r = true
theorem MtO.next {xs r : List Int} {q : List (List Int)} {i : Nat} (h : MtO xs q i) (hr : q[i]? = some r) (hm : mtA xs r = true) : MtO xs q (i + 1) := fun j z hj hz => by
  by_cases e : j = i
  · subst e; rw [hr] at hz; cases hz; exact hm
  · exact h j z (by omega) hz
theorem MtO.all {xs : List Int} {q : List (List Int)} (h : MtO xs q q.length) : mtL xs q = true := by
  unfold mtL
  rw [List.all_eq_true]
  intro r hr
  obtain ⟨j, hj⟩ := List.getElem?_of_mem hr
  exact h j r (List.getElem?_eq_some_iff.1 hj).1 hj
theorem mtL_no {xs r : List Int} {q : List (List Int)} {i : Nat} (hr : q[i]? = some r) (hm : mtA xs r = false) : mtL xs q = false := by
  unfold mtL
  rw [List.all_eq_false]
  exact ⟨r, List.mem_of_getElem? hr, by rw [hm]; simp⟩
set_option maxHeartbeats 8000000 in
set_option maxRecDepth 100000 in
theorem l5Meets_any (u : Value) (A2 : Option Addr) (c2 : Nat) (us : List Value) (xs : List Int) (q : List (List Int)) (w : World) (hu : Ints w u xs) (hxl : xs.length ≤ 1048576) (ht : ReadsG w (.slice A2 q.length c2) us q) (hql : q.length ≤ 1048576) (hqr : ∀ r ∈ q, r.length ≤ 1048576) :
    Calls Tryd.prog 69 #[u, .slice A2 q.length c2] w fun e w' => e = .returned (.bool (mtL xs q)) ∧ Below w.heap.size w w' := by
  obtain ⟨A1, c1, rfl, hc1⟩ := hu.form
  have HC1 := Lib.hid hc1
  have HT := Lib.hid ht
  have HB0 := Lib.hid (Below.refl w.heap.size w)
  have HK0 : Hid (MtO xs q 0) := fun j a hj => by omega
  clear hu hc1 ht
  go_enter Tryd.func69, Tryd.ntmps69
  go_wp2_with fail
  go_loopg [5] q.length (fun g iv wr => ∃ i : Nat, i + g = q.length ∧ iv = .int .i64 (i : Int) ∧ Hid (MtO xs q i) ∧ Below w.heap.size w wr)
  case atStart => exact ⟨0, by omega, rfl, HK0, HB0.out⟩
  case round =>
    clear HK0 HB0
    obtain ⟨i, hig, rfl, hno, hB⟩ := hrel
    have HB := Lib.hid hB
    cases gk with
    | zero =>
      obtain rfl : i = q.length := by omega
      have HV : Hid (mtL xs q = true) := hno.out.all
      clear hB
      go_wp2_with fail
      go_ret
      rw [HV.out]
      exact ⟨rfl, HB.out⟩
    | succ g2 =>
      have hlt : i < q.length := by omega
      have hlt' : (i : Int) < (q.length : Int) := by omega
      obtain ⟨r, hr⟩ : ∃ r, q[i]? = some r := ⟨_, List.getElem?_eq_getElem hlt⟩
      have hrl := hqr r (List.mem_of_getElem? hr)
      obtain ⟨u5, g5, o5, hu5, hA5, c5w, huw⟩ := HT.out.row hr
      subst hA5
      obtain ⟨Ax, cx, rfl, -⟩ := huw.form
      have HC5W := Lib.hid c5w
      have HUW := Lib.hid huw
      have HR := Lib.hid hr
      have HNO := Lib.hid hno.out
      have HM0 : Hid (mtK xs r 0 = false) := by show _ = _; unfold mtK; simp
      clear hB hr c5w huw hu5 hno
      go_wp2_with fail
      go_loopg [6, 7] xs.length (fun g mv kv wr => ∃ k : Nat, k + g = xs.length ∧ kv = .int .i64 (k : Int) ∧ mv = .bool (mtK xs r k) ∧ Below w.heap.size w wr)
      case atStart => exact ⟨0, by omega, rfl, by rw [HM0.out], HB.out⟩
      case round =>
        clear HM0 HB
        obtain ⟨k, hkg, rfl, rfl, hB⟩ := hrel
        have HB := Lib.hid hB
        cases gk with
        | zero =>
          obtain rfl : k = xs.length := by omega
          clear hB
          rw [mtK_all]
          cases hm : mtA xs r with
          | true =>
            have HN := Lib.hid (HNO.out.next HR.out hm)
            clear hm
            go_wp2_with fail
            go_roundg g2
            case measure => omega
            case rel => exact ⟨i + 1, by omega, by go_num, HN, HB.out⟩
          | false =>
            have HV : Hid (mtL xs q = false) := mtL_no HR.out hm
            clear hm
            go_wp2_with fail
            go_ret
            rw [HV.out]
            exact ⟨rfl, HB.out⟩
        | succ g3 =>
          have hk : k < xs.length := by omega
          have hk' : (k : Int) < (xs.length : Int) := by omega
          obtain ⟨b, hb⟩ : ∃ b, xs[k]? = some b := ⟨_, List.getElem?_eq_getElem hk⟩
          obtain ⟨g6, o6, rfl, c6⟩ := HC1.out k _ hb
          have q5 := nearv.cell_keep HC5W.out hB
          have q6 := nearv.cell_keep c6 hB
          have d4 : Below wr.heap.size wr wr.drew := (Below.refl _ _).drew
          have HE4 := Lib.hid (btrans HB.out d4)
          cases hm : mtK xs r k with
          | true =>
            have HN := Lib.hid (mtK_yes hb hm)
            clear hB hb c6 hm
            go_wp2_with fail
            refine wp_region_held_drew (S := (fun w' : World => w'.cell? ⟨g5, o5 + i, none⟩ = some (.slice Ax r.length cx) ∧ w'.cell? ⟨g6, o6 + k, none⟩ = some (.int .i64 b))) (by kernel_rfl) (by (try dsimp only); simp [*]) (fun hHeld => ?_)
            change wpAnyH _ _ _ _ _ _ #[false, false, false, false, false, false, false, false, false, false, false, false, false] _ _
            refine wpAnyH_take (i := 0) (oi := ⟨some 20, _, _, _, _, _⟩) (v := ?_) rfl (by kernel_rfl) (by kernel_rfl) (by kernel_rfl) (fun _ _ _ h => h) (Or.inl ⟨by rfl, ?_⟩) (by assumption) ?_
            rotate_left
            · (intro w hSw; (try dsimp only at hSw); go_simp; (try (with_reducible rfl)))
            try simp only [Act.put, List.setIfInBounds_toArray, List.set_cons_zero, List.set_cons_succ]
            refine wpAnyH_take (i := 1) (oi := ⟨some 21, _, _, _, _, _⟩) (v := ?_) rfl (by kernel_rfl) (by kernel_rfl) (by kernel_rfl) (fun _ _ _ h => h) (Or.inl ⟨by rfl, ?_⟩) (by assumption) ?_
            rotate_left
            · (intro w hSw; (try dsimp only at hSw); go_simp; (try (with_reducible rfl)))
            try simp only [Act.put, List.setIfInBounds_toArray, List.set_cons_zero, List.set_cons_succ]
            refine wpAnyH_take (i := 2) (oi := ⟨some 22, _, _, _, _, _⟩) (v := undef) rfl (by kernel_rfl) (by kernel_rfl) (by kernel_rfl) (fun _ _ _ h => h) (Or.inr ⟨by rfl, rfl⟩) (by assumption) ?_
            try simp only [Act.put, List.setIfInBounds_toArray, List.set_cons_zero, List.set_cons_succ]
            refine wpAnyH_take (i := 3) (oi := ⟨some 23, _, _, _, _, _⟩) (v := undef) rfl (by kernel_rfl) (by kernel_rfl) (by kernel_rfl) (fun _ _ _ h => h) (Or.inr ⟨by rfl, rfl⟩) (by assumption) ?_
            try simp only [Act.put, List.setIfInBounds_toArray, List.set_cons_zero, List.set_cons_succ]
            refine wpAnyH_take (i := 4) (oi := ⟨some 24, _, _, _, _, _⟩) (v := undef) rfl (by kernel_rfl) (by kernel_rfl) (by kernel_rfl) (fun _ _ _ h => h) (Or.inr ⟨by rfl, rfl⟩) (by assumption) ?_
            try simp only [Act.put, List.setIfInBounds_toArray, List.set_cons_zero, List.set_cons_succ]
            refine wpAnyH_take (i := 5) (oi := ⟨some 25, _, _, _, _, _⟩) (v := undef) rfl (by kernel_rfl) (by kernel_rfl) (by kernel_rfl) (fun _ _ _ h => h) (Or.inr ⟨by rfl, rfl⟩) (by assumption) ?_
            try simp only [Act.put, List.setIfInBounds_toArray, List.set_cons_zero, List.set_cons_succ]
            refine wpAnyH_take (i := 6) (oi := ⟨some 26, _, _, _, _, _⟩) (v := undef) rfl (by kernel_rfl) (by kernel_rfl) (by kernel_rfl) (fun _ _ _ h => h) (Or.inr ⟨by rfl, rfl⟩) (by assumption) ?_
            try simp only [Act.put, List.setIfInBounds_toArray, List.set_cons_zero, List.set_cons_succ]
            refine wpAnyH_take (i := 7) (oi := ⟨some 27, _, _, _, _, _⟩) (v := undef) rfl (by kernel_rfl) (by kernel_rfl) (by kernel_rfl) (fun _ _ _ h => h) (Or.inr ⟨by rfl, rfl⟩) (by assumption) ?_
            try simp only [Act.put, List.setIfInBounds_toArray, List.set_cons_zero, List.set_cons_succ]
            refine wpAnyH_take (i := 8) (oi := ⟨some 28, _, _, _, _, _⟩) (v := undef) rfl (by kernel_rfl) (by kernel_rfl) (by kernel_rfl) (fun _ _ _ h => h) (Or.inr ⟨by rfl, rfl⟩) (by assumption) ?_
            try simp only [Act.put, List.setIfInBounds_toArray, List.set_cons_zero, List.set_cons_succ]
            refine wpAnyH_take (i := 9) (oi := ⟨some 29, _, _, _, _, _⟩) (v := undef) rfl (by kernel_rfl) (by kernel_rfl) (by kernel_rfl) (fun _ _ _ h => h) (Or.inr ⟨by rfl, rfl⟩) (by assumption) ?_
            try simp only [Act.put, List.setIfInBounds_toArray, List.set_cons_zero, List.set_cons_succ]
            refine wpAnyH_take (i := 10) (oi := ⟨some 30, _, _, _, _, _⟩) (v := undef) rfl (by kernel_rfl) (by kernel_rfl) (by kernel_rfl) (fun _ _ _ h => h) (Or.inr ⟨by rfl, rfl⟩) (by assumption) ?_
            try simp only [Act.put, List.setIfInBounds_toArray, List.set_cons_zero, List.set_cons_succ]
            refine wpAnyH_take (i := 11) (oi := ⟨some 31, _, _, _, _, _⟩) (v := ?_) rfl (by kernel_rfl) (by kernel_rfl) (by kernel_rfl) (fun _ _ _ h => h) (Or.inl ⟨by rfl, ?_⟩) (by assumption) ?_
            rotate_left
            · (intro w hSw; (try dsimp only at hSw); go_simp; (try (with_reducible rfl)))
            try simp only [Act.put, List.setIfInBounds_toArray, List.set_cons_zero, List.set_cons_succ]
            refine wpAnyH_take (i := 12) (oi := ⟨some 6, _, _, _, _, _⟩) (v := ?_) rfl (by kernel_rfl) (by kernel_rfl) (by kernel_rfl) (fun _ _ _ h => h) (Or.inl ⟨by rfl, ?_⟩) (by assumption) ?_
            rotate_left
            · (intro w hSw; (try dsimp only at hSw); go_simp; (try (with_reducible rfl)))
            try simp only [Act.put, List.setIfInBounds_toArray, List.set_cons_zero, List.set_cons_succ]
            refine wpAnyH_done (by kernel_rfl) ?_ _
            go_wp2_with fail
            go_roundg g3
            case measure => omega
            case rel => exact ⟨k + 1, by omega, by go_num, by rw [HN.out], HE4.out⟩
          | false =>
            have HN := Lib.hid (mtK_no hb hm)
            have HHS := Lib.hid (l1Has_any _ r b wr.drew (HUW.out.below hB.drew) hrl)
            clear hB hb c6 hm
            go_wp2_with fail
            refine wp_region_held_drew (S := (fun w' : World => w'.cell? ⟨g5, o5 + i, none⟩ = some (.slice Ax r.length cx) ∧ w'.cell? ⟨g6, o6 + k, none⟩ = some (.int .i64 b))) (by kernel_rfl) (by (try dsimp only); simp [*]) (fun hHeld => ?_)
            change wpAnyH _ _ _ _ _ _ #[false, false, false, false, false, false, false, false, false, false, false, false, false] _ _
            refine wpAnyH_take (i := 0) (oi := ⟨some 20, _, _, _, _, _⟩) (v := ?_) rfl (by kernel_rfl) (by kernel_rfl) (by kernel_rfl) (fun _ _ _ h => h) (Or.inl ⟨by rfl, ?_⟩) (by assumption) ?_
            rotate_left
            · (intro w hSw; (try dsimp only at hSw); go_simp; (try (with_reducible rfl)))
            try simp only [Act.put, List.setIfInBounds_toArray, List.set_cons_zero, List.set_cons_succ]
            refine wpAnyH_take (i := 1) (oi := ⟨some 21, _, _, _, _, _⟩) (v := ?_) rfl (by kernel_rfl) (by kernel_rfl) (by kernel_rfl) (fun _ _ _ h => h) (Or.inl ⟨by rfl, ?_⟩) (by assumption) ?_
            rotate_left
            · (intro w hSw; (try dsimp only at hSw); go_simp; (try (with_reducible rfl)))
            try simp only [Act.put, List.setIfInBounds_toArray, List.set_cons_zero, List.set_cons_succ]
            refine wpAnyH_take (i := 2) (oi := ⟨some 22, _, _, _, _, _⟩) (v := ?_) rfl (by kernel_rfl) (by kernel_rfl) (by kernel_rfl) (fun _ _ _ h => h) (Or.inl ⟨by rfl, ?_⟩) (by assumption) ?_
            rotate_left
            · (intro w hSw; (try dsimp only at hSw); go_simp; (try (with_reducible rfl)))
            try simp only [Act.put, List.setIfInBounds_toArray, List.set_cons_zero, List.set_cons_succ]
            refine wpAnyH_take (i := 3) (oi := ⟨some 23, _, _, _, _, _⟩) (v := ?_) rfl (by kernel_rfl) (by kernel_rfl) (by kernel_rfl) (fun _ _ _ h => h) (Or.inl ⟨by rfl, ?_⟩) (by assumption) ?_
            rotate_left
            · (intro w hSw; (try dsimp only at hSw); go_simp; (try (with_reducible rfl)))
            try simp only [Act.put, List.setIfInBounds_toArray, List.set_cons_zero, List.set_cons_succ]
            refine wpAnyH_take (i := 4) (oi := ⟨some 24, _, _, _, _, _⟩) (v := ?_) rfl (by kernel_rfl) (by kernel_rfl) (by kernel_rfl) (fun _ _ _ h => h) (Or.inl ⟨by rfl, ?_⟩) (by assumption) ?_
            rotate_left
            · (intro w hSw; (try dsimp only at hSw); go_simp; (try (with_reducible rfl)))
            try simp only [Act.put, List.setIfInBounds_toArray, List.set_cons_zero, List.set_cons_succ]
            refine wpAnyH_take (i := 5) (oi := ⟨some 25, _, _, _, _, _⟩) (v := ?_) rfl (by kernel_rfl) (by kernel_rfl) (by kernel_rfl) (fun _ _ _ h => h) (Or.inl ⟨by rfl, ?_⟩) (by assumption) ?_
            rotate_left
            · (intro w hSw; (try dsimp only at hSw); go_simp; (try (with_reducible rfl)))
            try simp only [Act.put, List.setIfInBounds_toArray, List.set_cons_zero, List.set_cons_succ]
            refine wpAnyH_take (i := 6) (oi := ⟨some 26, _, _, _, _, _⟩) (v := ?_) rfl (by kernel_rfl) (by kernel_rfl) (by kernel_rfl) (fun _ _ _ h => h) (Or.inl ⟨by rfl, ?_⟩) (by assumption) ?_
            rotate_left
            · (intro w hSw; (try dsimp only at hSw); go_simp; (try (with_reducible rfl)))
            try simp only [Act.put, List.setIfInBounds_toArray, List.set_cons_zero, List.set_cons_succ]
            refine wpAnyH_take (i := 7) (oi := ⟨some 27, _, _, _, _, _⟩) (v := ?_) rfl (by kernel_rfl) (by kernel_rfl) (by kernel_rfl) (fun _ _ _ h => h) (Or.inl ⟨by rfl, ?_⟩) (by assumption) ?_
            rotate_left
            · (intro w hSw; (try dsimp only at hSw); go_simp; (try (with_reducible rfl)))
            try simp only [Act.put, List.setIfInBounds_toArray, List.set_cons_zero, List.set_cons_succ]
            refine wpAnyH_take (i := 8) (oi := ⟨some 28, _, _, _, _, _⟩) (v := ?_) rfl (by kernel_rfl) (by kernel_rfl) (by kernel_rfl) (fun _ _ _ h => h) (Or.inl ⟨by rfl, ?_⟩) (by assumption) ?_
            rotate_left
            · (intro w hSw; (try dsimp only at hSw); go_simp; (try (with_reducible rfl)))
            try simp only [Act.put, List.setIfInBounds_toArray, List.set_cons_zero, List.set_cons_succ]
            refine wpAnyH_take (i := 9) (oi := ⟨some 29, _, _, _, _, _⟩) (v := ?_) rfl (by kernel_rfl) (by kernel_rfl) (by kernel_rfl) (fun _ _ _ h => h) (Or.inl ⟨by rfl, ?_⟩) (by assumption) ?_
            rotate_left
            · (intro w hSw; (try dsimp only at hSw); go_simp; (try (with_reducible rfl)))
            try simp only [Act.put, List.setIfInBounds_toArray, List.set_cons_zero, List.set_cons_succ]
            refine wpAnyH_ready (rs := [10]) (by kernel_rfl) (by simp) ?_
            refine AllReadyH.cons (o := ⟨some 30, _, _, _, _, _⟩) rfl (fun K hK => ?_) AllReadyH.nil
            go_simp
            (with_reducible refine HHS.out.mono ?_); rintro e w' ⟨rfl, rfl⟩
            go_wp2_with fail
            refine hK.out _ _ (by (try dsimp only); simp [*]) (fun hHeld => ?_)
            clear hK K
            try simp only [List.setIfInBounds_toArray, List.set_cons_zero, List.set_cons_succ]
            refine wpAnyH_take (i := 11) (oi := ⟨some 31, _, _, _, _, _⟩) (v := ?_) rfl (by kernel_rfl) (by kernel_rfl) (by kernel_rfl) (fun _ _ _ h => h) (Or.inl ⟨by rfl, ?_⟩) (by assumption) ?_
            rotate_left
            · (intro w hSw; (try dsimp only at hSw); go_simp; (try (with_reducible rfl)))
            try simp only [Act.put, List.setIfInBounds_toArray, List.set_cons_zero, List.set_cons_succ]
            refine wpAnyH_take (i := 12) (oi := ⟨some 6, _, _, _, _, _⟩) (v := ?_) rfl (by kernel_rfl) (by kernel_rfl) (by kernel_rfl) (fun _ _ _ h => h) (Or.inl ⟨by rfl, ?_⟩) (by assumption) ?_
            rotate_left
            · (intro w hSw; (try dsimp only at hSw); go_simp; (try (with_reducible rfl)))
            try simp only [Act.put, List.setIfInBounds_toArray, List.set_cons_zero, List.set_cons_succ]
            refine wpAnyH_done (by kernel_rfl) ?_ _
            go_wp2_with fail
            go_roundg g3
            case measure => omega
            case rel => exact ⟨k + 1, by omega, by go_num, by rw [HN.out], HE4.out⟩
end Go.Proofs.YtdhbaegkogklgaaDoor.joins

/- The contract of the model's l5Less over lists of the same length. -/
namespace Go.Proofs.YtdhbaegkogklgaaDoor.ups
open Go.RowKit P2 words edges ints good adjs fns sets rets covs bitsI
set_option linter.unusedVariables false

theorem drop5 {L : List Int} {i : Nat} {x : Int} (h : L[i]? = some x) : L.drop i = x :: L.drop (i + 1) := by
  obtain ⟨h1, h2⟩ := List.getElem?_eq_some_iff.1 h
  rw [List.drop_eq_getElem_cons h1, h2]
theorem lex5_same {a b : List Int} {i : Nat} {x : Int} (ha : a[i]? = some x) (hb : b[i]? = some x) : lexI (a.drop i) (b.drop i) = lexI (a.drop (i + 1)) (b.drop (i + 1)) := by
  rw [drop5 ha, drop5 hb]; show (if x = x then _ else _) = _; rw [if_pos rfl]
theorem lex5_diff {a b : List Int} {i : Nat} {x y : Int} (ha : a[i]? = some x) (hb : b[i]? = some y) (h : x ≠ y) : lexI (a.drop i) (b.drop i) = decide (x < y) := by
  rw [drop5 ha, drop5 hb]; show (if x = y then _ else _) = _; rw [if_neg h]
theorem lex5_end {a b : List Int} : lexI (a.drop a.length) b = false := by
  rw [List.drop_length]; cases b <;> rfl
set_option maxHeartbeats 2000000 in
set_option maxRecDepth 100000 in
theorem l5LessI_any (u v : Value) (a b : List Int) (w : World) (hu : Ints w u a) (hv : Ints w v b) (hl : a.length = b.length) (ha : a.length ≤ 1048576) :
    Calls Tryd.prog 68 #[u, v] w fun e w' => e = .returned (.bool (lexI a b)) ∧ Below w.heap.size w w' := by
  obtain ⟨A1, c1, rfl, hc1⟩ := hu.form
  obtain ⟨A2, c2, rfl, hc2⟩ := hv.form
  have HC1 := Lib.hid hc1
  have HC2 := Lib.hid hc2
  have HL := Lib.hid hl
  clear hu hv hc1 hc2 hl
  go_enter Tryd.func68, Tryd.ntmps68
  go_wp2_with fail
  go_loopg [5] a.length (fun g i wr => ∃ k : Nat, k + g = a.length ∧ i = .int .i64 (k : Int) ∧ Hid (lexI (a.drop k) (b.drop k) = lexI a b) ∧ Below w.heap.size w wr)
  case atStart => exact ⟨0, by omega, rfl, by show _ = _; rw [List.drop_zero, List.drop_zero], Below.refl _ _⟩
  case round =>
    obtain ⟨k, hkg, rfl, hr, hB⟩ := hrel
    cases gk with
    | zero =>
      obtain rfl : k = a.length := by omega
      have HV : Hid (lexI a b = false) := by show _ = _; rw [← hr.out, lex5_end]
      have hge : ¬ (a.length : Int) < (b.length : Int) := by rw [HL.out]; omega
      go_wp2_with fail
      go_ret
      rw [HV.out]
      refine ⟨?_, hB⟩
      have := HL.out
      first | rfl | simp [this]
    | succ gg =>
      have hlt : k < a.length := by omega
      have hlt' : (k : Int) < (a.length : Int) := by omega
      have hlb' : (k : Int) < (b.length : Int) := by rw [← HL.out]; omega
      obtain ⟨x, hx⟩ : ∃ x, a[k]? = some x := ⟨_, List.getElem?_eq_getElem hlt⟩
      obtain ⟨y, hy⟩ : ∃ y, b[k]? = some y := ⟨_, List.getElem?_eq_getElem (by have := HL.out; omega)⟩
      obtain ⟨g1, o1, rfl, q1⟩ := HC1.out k _ hx
      obtain ⟨g2, o2, rfl, q2⟩ := HC2.out k _ hy
      have r1 := nearv.cell_keep q1 hB
      have r2 := nearv.cell_keep q2 hB
      have HB := Lib.hid (fun nq => below_drewN hB nq)
      have HB2 := Lib.hid (fun n1 n2 => below_drewN (below_drewN hB n1) n2)
      by_cases hxy : x = y
      · subst hxy
        have HK : Hid (lexI (a.drop (k + 1)) (b.drop (k + 1)) = lexI a b) := (lex5_same hx hy).symm.trans hr.out
        have d0 : (x != x) = false := by simp
        clear hx hy q1 q2 hB
        go_wp2_with fail
        go_quiet (fail)
        go_wp2_with fail
        go_roundg gg
        case measure => omega
        case rel => exact ⟨k + 1, by omega, by go_num, HK, HB.out _⟩
      · have HV : Hid (decide (x < y) = lexI a b) := (lex5_diff hx hy hxy).symm.trans hr.out
        have d0 : (x != y) = true := by simpa using hxy
        clear hx hy q1 q2 hB
        go_wp2_with fail
        go_quiet (fail)
        go_wp2_with fail
        go_quiet (fail)
        go_wp2_with fail
        go_ret
        exact ⟨ret_bool HV.out, HB2.out _ _⟩
end Go.Proofs.YtdhbaegkogklgaaDoor.ups

/- Brambles: the contract of the model's BrambleCover. -/
namespace Go.Proofs.YtdhbaegkogklgaaDoor.joins
open Go.RowKit P2 words edges ints good adjs fns sets rets covs bags balls bitsI ups func gridr costs
set_option linter.unusedVariables false

set_option maxHeartbeats 8000000 in
set_option maxRecDepth 100000 in
theorem specBrc_any (s : Int) (v : Value) (A2 : Option Addr) (c2 : Nat) (us : List Value) (q : List (List Int)) (l : List Ed) (w : World) (h : Edges w v l) (hl : l.length ≤ 1048576) (ht : ReadsG w (.slice A2 q.length c2) us q) (hql : q.length ≤ 1048576) (hqr : ∀ r ∈ q, r.length ≤ 1048576) (hs1 : -9223372036854775808 ≤ s) (hs2 : s ≤ 9223372036854775807) :
    Calls Tryd.prog 27 #[.agg #[.int .i64 s, v], .slice A2 q.length c2] w (RetI w (BramP s l q) (ndN (bcN s.toNat q))) := by
  obtain ⟨A, c, rfl, -⟩ := h.form
  have H := Lib.hid h
  have HT := Lib.hid ht
  have b0 : Below w.heap.size w (w.alloc (.cells #[.int .i64 s, .slice A l.length c] 29)) := (Below.refl _ _).alloc (Nat.le_refl _) _
  have g0 := Blk.new w 29 #[.int .i64 s, .slice A l.length c]
  obtain ⟨p0, p1, -, -⟩ := g0.two
  have HGD := Lib.hid (l2Good_any s _ l _ (h.below b0) hl hs1 hs2)
  have HB0 := Lib.hid b0
  have HG0 := Lib.hid g0
  clear h b0 g0 ht
  by_cases hgd : P2.Good s l
  · rw [goodB_yes hgd] at HGD
    have h0 := hgd.1
    have h8 := hgd.2.1
    obtain ⟨n, rfl⟩ : ∃ n : Nat, s = (n : Int) := ⟨s.toNat, by omega⟩
    have hn : n ≤ 8 := by omega
    rw [Int.toNat_natCast]
    have HBR := Lib.hid (fun (W : World) (hW : Below w.heap.size w W) => l5Bramble_any n (.slice A l.length c) A2 c2 us q l W (H.out.below hW) hl hgd hn (HT.out.below hW) hql hqr)
    by_cases hbp : BramP (n : Int) l q
    · rw [okG_yes hbp] at HBR
      have HOK := Lib.hid hbp
      have hbr : BrP n l q := (bramP_is hgd).1 hbp
      have HM0 : Hid (MaxC (covB q) rkMin n 0 (2 ^ n - 1)) := ⟨by have := Nat.pow_pos (n := n) (show 0 < 2 by decide); omega, cov_full hbr, fun c hc => by omega⟩
      have HA := Lib.hid (fun (W : World) => l2All_any n (.slice A l.length c) W hn)
      have HPW := Lib.hid (pow_le hn)
      have HP1 : Hid (1 ≤ 2 ^ n) := Nat.one_le_two_pow
      have HBE := Lib.hid (fun (b : Nat) (hb : MaxC (covB q) rkMin n (2 ^ n) b) => (bestC_is hn rkMin_inj hb : bcN n q = b))
      have HTK : Hid (∀ k bst, MaxC (covB q) rkMin n k bst → k < 2 ^ n → covB q k = true → rkMin bst < rkMin k → MaxC (covB q) rkMin n (k + 1) k) := fun k bst h1 h2 h3 h4 => maxC_take h1 h2 h3 h4
      have HND : Hid (∀ c, c < 2 ^ n → nw (bitB c) n = ndN c) := fun c hc => nd_bits hn hc
      have HCQ := Lib.hid (fun (k : Nat) (hk : k < 2 ^ n) (W : World) (hW : Below w.heap.size w W) (u : Value) (hu : Ints W u (nw (bitB k) n)) => (by have h_ := l5Meets_any u A2 c2 us (nw (bitB k) n) q W hu (by have := nw_len (bitB k) n; omega) (HT.out.below hW) hql hqr; rw [mtL_is hk hbr.1.2] at h_; exact h_ : Calls Tryd.prog 69 #[u, .slice A2 q.length c2] W fun e w' => e = .returned (.bool (covB q k)) ∧ Below W.heap.size W w'))
      have HBT := Lib.hid (fun (bst k : Nat) (hb : MaxC (covB q) rkMin n k bst) => hb.1)
      have hsh : IntKind.i64.wrap ((2 : Int) ^ n) = ((2 ^ n : Nat) : Int) := by
        have hpn := pow_le hn
        rw [show ((2 : Int) ^ n) = ((2 ^ n : Nat) : Int) from by simp]
        generalize 2 ^ n = z at *
        exact Go.IntWalk.i64_in _ (by omega)
      have hN256 := HPW.out
      have hN1 := HP1.out
      clear hgd hbp hbr
      generalize hNN : 2 ^ n = N at *
      have HNN := Lib.hid hNN
      clear hNN
      go_enter Tryd.func27, Tryd.ntmps27
      go_wp2_with fail
      refine HGD.out.mono ?_
      rintro e w1 ⟨rfl, b1⟩
      have HE1 := Lib.hid (btrans HB0.out b1)
      have HG1 := Lib.hid (HG0.out.below b1 HG0.out.lt)
      clear p0 p1 b1 HGD HB0 HG0
      obtain ⟨p0, p1, -, -⟩ := HG1.out.two
      go_wp2_with fail
      refine (HBR.out w1 HE1.out).mono ?_
      rintro e w2 ⟨rfl, b2⟩
      have HE2 := Lib.hid (btrans HE1.out b2)
      have HG2 := Lib.hid (HG1.out.below b2 HG1.out.lt)
      clear p0 p1 b2 HBR HE1 HG1
      obtain ⟨p0, p1, -, -⟩ := HG2.out.two
      go_wp2_with fail
      refine (HA.out w2).mono ?_
      rintro e w3 ⟨A3, c3, rfl, o2, b2⟩
      rw [← bits_all, HNN.out] at o2 ⊢
      have HE3 := Lib.hid (btrans HE2.out b2)
      have HG3 := Lib.hid (HG2.out.below b2 HG2.out.lt)
      have HO3 := Lib.hid (own_base (B' := w.heap.size) o2 HE2.out.size)
      clear p0 p1 b2 o2 HE2 HG2
      obtain ⟨p0, p1, -, -⟩ := HG3.out.two
      go_wp2_with fail
      go_loopg [6, 7] N (fun g bv cv wr => ∃ (k bst : Nat) (ow : Value), ow = bv ∧ k + g = N ∧ cv = .int .i64 (k : Int) ∧ Hid (MaxC (covB q) rkMin n k bst) ∧ wr.ownsRow w.heap.size 3 1 ow (nw (bitB bst) n).length (cellsI (nw (bitB bst) n)) ∧ Blk wr w.heap.size 29 #[.int .i64 (n : Int), .slice A l.length c] ∧ Below w.heap.size w wr)
      case atStart => exact ⟨0, N - 1, _, rfl, by omega, rfl, HM0, HO3.out, HG3.out, HE3.out⟩
      case round =>
        clear HM0 HO3 HG3 HE3
        obtain ⟨k, bst, ow, rfl, hkg, rfl, hmx, hrow, hgb, hB⟩ := hrel
        obtain ⟨A4, c4, rfl⟩ := own_form hrow
        obtain ⟨p0, p1, -, -⟩ := hgb.two
        have HR := Lib.hid hrow
        have HG := Lib.hid hgb
        have HB := Lib.hid hB
        have hbl := nw_len (bitB bst) n
        have HBN := Lib.hid (HBT.out bst k hmx.out)
        have HB2 := Lib.hid (HND.out bst HBN.out)
        clear hrow hgb hB
        cases gk with
        | zero =>
          obtain rfl : k = N := by omega
          have HV : Hid (bcN n q = bst) := HBE.out bst hmx.out
          go_wp2_with fail
          go_ret2
          have HR2 := HR.out
          rw [HB2.out] at HR2 ⊢
          rw [HV.out]
          exact RetI.yes HOK.out HR2 HB.out
        | succ g2 =>
          have hkN : k < N := by omega
          have hkN' : (k : Int) < (N : Int) := by omega
          have HBI := Lib.hid (l2Bits_any n k wr hn (by omega))
          have HNK := Lib.hid (HND.out k hkN)
          have hkl := nw_len (bitB k) n
          have hbm := better_min (a := k) (b := bst) (by omega) (by have := HBN.out; omega)
          have HTT := Lib.hid (fun (h : rkMin bst < rkMin k) (hc : covB q k = true) => HTK.out k bst hmx.out hkN hc h)
          have HSK := Lib.hid (fun (hc : covB q k = false) => maxC_skip hmx.out hc)
          have HLL := Lib.hid (fun (h : ¬ rkMin bst < rkMin k) => maxC_less hmx.out h)
          go_wp2_with fail
          refine HBI.out.mono ?_
          rintro e w3 ⟨A5, c5, rfl, o5, b5⟩
          have HB3 := Lib.hid (btrans HB.out b5)
          have HG3 := Lib.hid (HG.out.below b5 HG.out.lt)
          have HR3 := Lib.hid (own_below HR.out b5)
          have HO3 := Lib.hid (own_base (B' := w.heap.size) o5 HB.out.size)
          have h12 : Hid ((nw (bitB k) n).length = onesN k ∧ (nw (bitB bst) n).length = onesN bst) := ⟨by rw [HNK.out]; rfl, by rw [HB2.out]; rfl⟩
          clear p0 p1 b5 o5 HR HG HB hmx
          by_cases c1 : onesN k < onesN bst
          · have c2 : (nw (bitB k) n).length < (nw (bitB bst) n).length := by rw [h12.out.1, h12.out.2]; exact c1
            have c3 : ((nw (bitB k) n).length : Int) < ((nw (bitB bst) n).length : Int) := by omega
            have HBM : Hid (rkMin bst < rkMin k) := by
              show rkMin bst < rkMin k
              rw [decide_eq_true c1, Bool.true_or] at hbm
              exact of_decide_eq_true hbm.symm
            clear hbm c1
            have HMT := Lib.hid (HCQ.out k hkN w3 HB3.out (.slice A5 (nw (bitB k) n).length c5) (show Ints _ _ _ from Reads.of_own HO3.out))
            cases hcv : covB q k with
            | true =>
              have HN := Lib.hid (HTT.out HBM.out hcv)
              rw [hcv] at HMT
              clear hcv
              go_wp2_with fail
              refine HMT.out.mono ?_
              rintro e w7 ⟨rfl, b7⟩
              have HB7 := Lib.hid (btrans HB3.out b7)
              have HG7 := Lib.hid (HG3.out.below b7 HG3.out.lt)
              have HO7 := Lib.hid (own_below HO3.out b7)
              clear b7
              go_wp2_with fail
              go_roundg g2
              case measure => omega
              case rel => exact ⟨k + 1, k, _, rfl, by omega, by go_num, HN, HO7.out, HG7.out, HB7.out⟩
            | false =>
              have HN := Lib.hid (HSK.out hcv)
              rw [hcv] at HMT
              clear hcv
              go_wp2_with fail
              refine HMT.out.mono ?_
              rintro e w7 ⟨rfl, b7⟩
              have HB7 := Lib.hid (btrans HB3.out b7)
              have HG7 := Lib.hid (HG3.out.below b7 HG3.out.lt)
              have HR7 := Lib.hid (own_below HR3.out b7)
              clear b7
              go_wp2_with fail
              go_roundg g2
              case measure => omega
              case rel => exact ⟨k + 1, bst, _, rfl, by omega, by go_num, HN, HR7.out, HG7.out, HB7.out⟩
          · have c2 : ¬ (nw (bitB k) n).length < (nw (bitB bst) n).length := by rw [h12.out.1, h12.out.2]; exact c1
            have c3 : ¬ ((nw (bitB k) n).length : Int) < ((nw (bitB bst) n).length : Int) := by omega
            rw [decide_eq_false c1, Bool.false_or] at hbm
            by_cases c4 : onesN k = onesN bst
            · have c5' : Hid ((nw (bitB k) n).length = (nw (bitB bst) n).length) := by show _ = _; rw [h12.out.1, h12.out.2]; exact c4
              have c6 : (((nw (bitB k) n).length : Int) == ((nw (bitB bst) n).length : Int)) = true := by rw [c5'.out]; simp
              have c7 : ((nw (bitB k) n).length == (nw (bitB bst) n).length) = true := by rw [c5'.out]; simp
              rw [decide_eq_true c4, Bool.true_and] at hbm
              have HLS := Lib.hid (l5LessI_any _ _ (nw (bitB k) n) (nw (bitB bst) n) w3 (show Ints _ _ _ from Reads.of_own HO3.out) (show Ints _ _ _ from Reads.of_own HR3.out) c5'.out (by omega))
              rw [HNK.out, HB2.out, hbm] at HLS
              rw [← HNK.out, ← HB2.out] at HLS
              clear c1 c4 hbm
              by_cases hlx : rkMin bst < rkMin k
              · rw [decide_eq_true hlx] at HLS
                go_wp2_with fail
                refine HLS.out.mono ?_
                rintro e w5 ⟨rfl, b6⟩
                have HB5 := Lib.hid (btrans HB3.out b6)
                have HG5 := Lib.hid (HG3.out.below b6 HG3.out.lt)
                have HR5 := Lib.hid (own_below HR3.out b6)
                have HO5 := Lib.hid (own_below HO3.out b6)
                have HBM := Lib.hid hlx
                clear b6 HB3 HG3 HR3 HO3 HLS hlx
                have HMT := Lib.hid (HCQ.out k hkN w5 HB5.out (.slice A5 (nw (bitB k) n).length c5) (show Ints _ _ _ from Reads.of_own HO5.out))
                cases hcv : covB q k with
                | true =>
                  have HN := Lib.hid (HTT.out HBM.out hcv)
                  rw [hcv] at HMT
                  clear hcv
                  go_wp2_with fail
                  refine HMT.out.mono ?_
                  rintro e w7 ⟨rfl, b7⟩
                  have HB7 := Lib.hid (btrans HB5.out b7)
                  have HG7 := Lib.hid (HG5.out.below b7 HG5.out.lt)
                  have HO7 := Lib.hid (own_below HO5.out b7)
                  clear b7
                  go_wp2_with fail
                  go_roundg g2
                  case measure => omega
                  case rel => exact ⟨k + 1, k, _, rfl, by omega, by go_num, HN, HO7.out, HG7.out, HB7.out⟩
                | false =>
                  have HN := Lib.hid (HSK.out hcv)
                  rw [hcv] at HMT
                  clear hcv
                  go_wp2_with fail
                  refine HMT.out.mono ?_
                  rintro e w7 ⟨rfl, b7⟩
                  have HB7 := Lib.hid (btrans HB5.out b7)
                  have HG7 := Lib.hid (HG5.out.below b7 HG5.out.lt)
                  have HR7 := Lib.hid (own_below HR5.out b7)
                  clear b7
                  go_wp2_with fail
                  go_roundg g2
                  case measure => omega
                  case rel => exact ⟨k + 1, bst, _, rfl, by omega, by go_num, HN, HR7.out, HG7.out, HB7.out⟩
              · rw [decide_eq_false hlx] at HLS
                have HN := Lib.hid (HLL.out hlx)
                clear hlx
                go_wp2_with fail
                refine HLS.out.mono ?_
                rintro e w5 ⟨rfl, b7⟩
                have HB5 := Lib.hid (btrans HB3.out b7)
                have HG5 := Lib.hid (HG3.out.below b7 HG3.out.lt)
                have HR7 := Lib.hid (own_below HR3.out b7)
                clear b7
                go_wp2_with fail
                go_roundg g2
                case measure => omega
                case rel => exact ⟨k + 1, bst, _, rfl, by omega, by go_num, HN, HR7.out, HG5.out, HB5.out⟩
            · have c5' : (nw (bitB k) n).length ≠ (nw (bitB bst) n).length := by rw [h12.out.1, h12.out.2]; exact c4
              have c6 : (((nw (bitB k) n).length : Int) == ((nw (bitB bst) n).length : Int)) = false := by rw [beq_eq_false_iff_ne]; omega
              have c7 : ((nw (bitB k) n).length == (nw (bitB bst) n).length) = false := by rw [beq_eq_false_iff_ne]; exact c5'
              rw [decide_eq_false c4, Bool.false_and] at hbm
              have HN := Lib.hid (HLL.out (of_decide_eq_false hbm.symm))
              clear c1 c4 hbm
              go_wp2_with fail
              go_roundg g2
              case measure => omega
              case rel => exact ⟨k + 1, bst, _, rfl, by omega, by go_num, HN, HR3.out, HG3.out, HB3.out⟩
    · rw [okG_no hbp] at HBR
      have HNO := Lib.hid hbp
      clear hbp hgd
      go_enter Tryd.func27, Tryd.ntmps27
      go_wp2_with fail
      refine HGD.out.mono ?_
      rintro e w1 ⟨rfl, b1⟩
      have HE1 := Lib.hid (btrans HB0.out b1)
      have HG1 := Lib.hid (HG0.out.below b1 HG0.out.lt)
      clear p0 p1 b1 HGD HB0 HG0
      obtain ⟨p0, p1, -, -⟩ := HG1.out.two
      go_wp2_with fail
      refine (HBR.out w1 HE1.out).mono ?_
      rintro e w2 ⟨rfl, b2⟩
      have HE2 := Lib.hid (btrans HE1.out b2)
      clear p0 p1 b2 HBR HE1 HG1
      go_wp2_with fail
      go_ret2
      exact RetI.no HNO.out (own_base (own_new0 w2 3 1) HE2.out.size) (HE2.out.alloc HE2.out.size _)
  · rw [goodB_no hgd] at HGD
    have HNO : Hid (¬ BramP s l q) := fun h => hgd h.1
    clear hgd
    go_enter Tryd.func27, Tryd.ntmps27
    go_wp2_with fail
    refine HGD.out.mono ?_
    rintro e w1 ⟨rfl, b1⟩
    have HE1 := Lib.hid (btrans HB0.out b1)
    clear p0 p1 b1
    go_wp2_with fail
    go_ret2
    exact RetI.no HNO.out (own_base (own_new0 w1 3 1) HE1.out.size) (HE1.out.alloc HE1.out.size _)
theorem brc_len (s : Int) (l : List Ed) (q : List (List Int)) : (inG (BramP s l q) (ndN (bcN s.toNat q))).length ≤ 1048576 := inG_len fun _ => by
  unfold ndN
  have := nw_len (bitB (bcN s.toNat q)) 8
  omega
end Go.Proofs.YtdhbaegkogklgaaDoor.joins

/- The laws' helpers over arguments of type [][]int: szIntS, szIntSS, toIntSS. -/
namespace Go.Proofs.YtdhbaegkogklgaaDoor.gridl
open Go.RowKit P2 words ints grid gridr owns
set_option linter.unusedVariables false

def szS (left m : Int) : Int := if left - m < 0 then -1 else left - m
/-- what is left of a budget behind a slice of slices, -1 if it is used up -/
def szSS (left : Int) (rows : List (List Int)) : Int := if left - (rows.length : Int) < 0 then -1 else szS (left - (rows.length : Int)) (tot rows : Int)
set_option maxHeartbeats 400000 in
theorem szIntS_any (v : Value) (l : List Int) (left : Int) (w : World) (h : Ints w v l) (h0 : 0 ≤ left) (h1 : left ≤ 1048576) (hl : (l.length : Int) ≤ 9223372036854775807) :
    Calls Tryd.prog 64 #[v, .int .i64 left] w fun e w' => e = .returned (.int .i64 (szS left (l.length : Int))) ∧ w = w' := by
  obtain ⟨A, c, rfl, -⟩ := h.form
  clear h
  have hw : IntKind.i64.wrap (left - (l.length : Int)) = left - (l.length : Int) := IntWalk.i64_in _ (by omega)
  by_cases hn : left - (l.length : Int) < 0
  · have HV : Hid (szS left (l.length : Int) = -1) := by show _ = _; unfold szS; rw [if_pos hn]
    go_enter Tryd.func64, Tryd.ntmps64
    go_wp2_with fail
    go_ret
    exact ⟨ret_int HV.out.symm, rfl⟩
  · have HV : Hid (szS left (l.length : Int) = left - (l.length : Int)) := by show _ = _; unfold szS; rw [if_neg hn]
    go_enter Tryd.func64, Tryd.ntmps64
    go_wp2_with fail
    go_ret
    exact ⟨ret_int HV.out.symm, rfl⟩
set_option maxHeartbeats 1000000 in
theorem szIntSS_any (v : Value) (us : List Value) (rows : List (List Int)) (left : Int) (w : World) (h : ReadsG w v us rows) (h0 : 0 ≤ left) (h1 : left ≤ 1048576) (hl : (rows.length : Int) ≤ 9223372036854775807) (hr : ∀ r ∈ rows, (r.length : Int) ≤ 9223372036854775807) :
    Calls Tryd.prog 26 #[v, .int .i64 left] w fun e w' => e = .returned (.int .i64 (szSS left rows)) ∧ w = w' := by
  obtain ⟨A, c, rfl, -⟩ := h.1
  have H := Lib.hid h
  have HR := Lib.hid hr
  clear h hr
  have hw : IntKind.i64.wrap (left - (rows.length : Int)) = left - (rows.length : Int) := IntWalk.i64_in _ (by omega)
  by_cases hn : left - (rows.length : Int) < 0
  · have HV : Hid (szSS left rows = -1) := by show _ = _; unfold szSS; rw [if_pos hn]
    go_enter Tryd.func26, Tryd.ntmps26
    go_wp2_with fail
    go_ret
    exact ⟨ret_int HV.out.symm, rfl⟩
  · have HV : Hid (szSS left rows = szS (left - (rows.length : Int)) (tot rows : Int)) := by show _ = _; unfold szSS; rw [if_neg hn]
    go_enter Tryd.func26, Tryd.ntmps26
    go_wp2_with fail
    go_loopg [1, 5] rows.length (fun g lv iv wr => ∃ (k : Nat) (b : Int), k + g = rows.length ∧ iv = .int .i64 (k : Int) ∧ lv = .int .i64 b ∧ Hid (b = left - (rows.length : Int) - (tot (rows.take k) : Int) ∧ 0 ≤ b) ∧ w = wr)
    case atStart => exact ⟨0, _, by omega, rfl, rfl, (by show _ ∧ _; simp [tot]; omega), rfl⟩
    case round =>
      obtain ⟨k, b, hkg, rfl, rfl, hb, rfl⟩ := hrel
      cases gk with
      | zero =>
        obtain rfl : k = rows.length := by omega
        have HB : Hid (szSS left rows = b) := by
          show _ = _
          have := hb.out
          rw [HV.out]
          unfold szS
          rw [List.take_length] at this
          rw [if_neg (by omega)]; omega
        go_wp2_with fail
        go_ret
        exact ⟨ret_int HB.out.symm, rfl⟩
      | succ g2 =>
        have hlt : k < rows.length := by omega
        have hlt' : (k : Int) < (rows.length : Int) := by omega
        obtain ⟨r, hrk⟩ : ∃ r, rows[k]? = some r := ⟨_, List.getElem?_eq_getElem hlt⟩
        obtain ⟨u, g, o, hu, rfl, c0, hru⟩ := H.out.row hrk
        have hrl := HR.out r (List.mem_of_getElem? hrk)
        have ht := tot_succ hrk
        have hle := tot_le rows (k + 1)
        have hb0 := hb.out
        have HSZ := Lib.hid (szIntS_any u r b w hru (by omega) (by omega) hrl)
        by_cases hneg : b - (r.length : Int) < 0
        · have HS1 : Hid (szS b (r.length : Int) = -1) := by show _ = _; unfold szS; rw [if_pos hneg]
          have HB : Hid (szSS left rows = -1) := by
            show _ = _
            rw [HV.out]
            unfold szS
            rw [if_pos (by omega)]
          rw [HS1.out] at HSZ
          clear hu hru hrk ht hle hb0
          go_wp2_with fail
          refine HSZ.out.mono ?_
          rintro e w' ⟨rfl, rfl⟩
          go_wp2_with fail
          go_ret
          exact ⟨ret_int HB.out.symm, rfl⟩
        · have HS1 : Hid (szS b (r.length : Int) = b - (r.length : Int)) := by show _ = _; unfold szS; rw [if_neg hneg]
          have HB : Hid (b - (r.length : Int) = left - (rows.length : Int) - (tot (rows.take (k + 1)) : Int) ∧ 0 ≤ b - (r.length : Int)) := by
            show _ ∧ _
            omega
          rw [HS1.out] at HSZ
          clear hu hru hrk ht hle hb0
          generalize b - (r.length : Int) = b2 at *
          go_wp2_with fail
          refine HSZ.out.mono ?_
          rintro e w' ⟨rfl, rfl⟩
          have hb2 : ¬ b2 < 0 := by have := HB.out; omega
          go_wp2_with fail
          go_roundg g2
          case measure => omega
          case rel => exact ⟨k + 1, b2, by omega, by go_num, rfl, HB, rfl⟩
/-- the budget is enough -/
theorem szIntSS_yes (v : Value) (us : List Value) (rows : List (List Int)) (left : Int) (w : World) (h : ReadsG w v us rows) (h0 : 0 ≤ left) (h1 : left ≤ 1048576) (hl : (rows.length : Int) + (tot rows : Int) ≤ left) :
    Calls Tryd.prog 26 #[v, .int .i64 left] w fun e w' => e = .returned (.int .i64 (left - (rows.length : Int) - (tot rows : Int))) ∧ Below w.heap.size w w' :=
  (szIntSS_any v us rows left w h h0 h1 (by omega) (fun r hr => by
    obtain ⟨k, hk⟩ := List.getElem?_of_mem hr
    have := tot_succ hk
    have := tot_le rows (k + 1)
    omega)).mono fun _ _ ⟨e, hw⟩ => ⟨by rw [e]; unfold szSS szS; rw [if_neg (by omega), if_neg (by omega)], hw ▸ Below.refl _ _⟩
/-- it is not -/
theorem szIntSS_no (v : Value) (us : List Value) (rows : List (List Int)) (left : Int) (w : World) (h : ReadsG w v us rows) (h0 : 0 ≤ left) (h1 : left ≤ 1048576) (hl : (rows.length : Int) ≤ 9223372036854775807) (hr : ∀ r ∈ rows, (r.length : Int) ≤ 9223372036854775807) (hn : left < (rows.length : Int) + (tot rows : Int)) :
    Calls Tryd.prog 26 #[v, .int .i64 left] w fun e w' => e = .returned (.int .i64 (-1)) ∧ Below w.heap.size w w' :=
  (szIntSS_any v us rows left w h h0 h1 hl hr).mono fun _ _ ⟨e, hw⟩ => ⟨by
    rw [e]; unfold szSS szS
    by_cases h2 : left - (rows.length : Int) < 0
    · rw [if_pos h2]
    · rw [if_neg h2, if_pos (by omega)], hw ▸ Below.refl _ _⟩
/-- a copy in the making -/
def cpR (rows : List (List Int)) (k : Nat) : List (List Int) := rows.take k ++ List.replicate (rows.length - k) []
theorem cpR_len (rows : List (List Int)) {k : Nat} (h : k ≤ rows.length) : (cpR rows k).length = rows.length := by simp [cpR]; omega
theorem cpR_zero (rows : List (List Int)) : cpR rows 0 = List.replicate rows.length [] := by simp [cpR]
theorem cpR_all (rows : List (List Int)) : cpR rows rows.length = rows := by simp [cpR]
theorem cpR_succ {rows : List (List Int)} {k : Nat} {r : List Int} (h : rows[k]? = some r) : (cpR rows k).set k r = cpR rows (k + 1) := by
  have hk := (List.getElem?_eq_some_iff.1 h).1
  unfold cpR
  rw [show rows.length - k = (rows.length - (k + 1)) + 1 from by omega, List.replicate_succ, List.set_append_right _ _ (by rw [List.length_take]; omega), List.take_add_one, h]
  have e : k - (List.take k rows).length = 0 := by simp; omega
  rw [e, List.set_cons_zero, List.append_assoc]
  rfl
set_option maxHeartbeats 2000000 in
set_option maxRecDepth 100000 in
theorem toIntSS_any (v : Value) (us : List Value) (rows : List (List Int)) (w : World) (h : ReadsG w v us rows) (hl : tot rows ≤ 1048576) (hn : rows.length ≤ 1048576) :
    Calls Tryd.prog 28 #[v] w fun e w' => ∃ A c us', e = .returned (.slice A rows.length c) ∧ OwnG w' w.heap.size (.slice A rows.length c) us' rows ∧ Below w.heap.size w w' := by
  obtain ⟨A, c, rfl, -⟩ := h.1
  obtain ⟨i1, hi1, hy0, hy1, hy2⟩ := info_parts infoRow
  have hmk := fun (W : World) => run_make_rowN (P := Tryd.prog) 40 25 i1 (.slice none 0 0) Tryd.underlying40 hi1 hy0 .i64 .i64 rows.length rows.length (Nat.le_refl _) (by rw [hy2]; omega) (by omega) W
  rw [hy1] at hmk
  simp only [Nat.mul_one] at hmk
  have H := Lib.hid h
  have HM := Lib.hid (OwnG.made w rows.length (by unfold maxLen; omega))
  rw [Nat.mul_one, ← cpR_zero] at HM
  have HE := Lib.hid ((Below.refl w.heap.size w).alloc (Nat.le_refl _) (.cells (madeCells #[.slice none 0 0] rows.length) 25))
  clear h
  go_enter Tryd.func28, Tryd.ntmps28
  go_wp2_with fail
  clear hmk
  go_loopg [4] rows.length (fun g iv wr => ∃ (k : Nat) (vs : List Value), k + g = rows.length ∧ iv = .int .i64 (k : Int) ∧ OwnG wr w.heap.size (.slice (some ⟨w.heap.size, 0, none⟩) rows.length rows.length) vs (cpR rows k) ∧ Below w.heap.size w wr)
  case atStart => exact ⟨0, _, by omega, rfl, HM.out, HE.out⟩
  case round =>
    clear HM HE
    obtain ⟨k, vs, hkg, rfl, hG, hB⟩ := hrel
    cases gk with
    | zero =>
      obtain rfl : k = rows.length := by omega
      rw [cpR_all] at hG
      have HG := Lib.hid hG
      have HB := Lib.hid hB
      clear hG hB
      go_wp2_with fail
      go_ret
      exact ⟨_, _, _, rfl, HG.out, HB.out⟩
    | succ g2 =>
      have hlt : k < rows.length := by omega
      have hlt' : (k : Int) < (rows.length : Int) := by omega
      obtain ⟨r, hr⟩ : ∃ r, rows[k]? = some r := ⟨_, List.getElem?_eq_getElem hlt⟩
      obtain ⟨u, g, o, hu, rfl, c0, hru⟩ := (H.out.below hB).row hr
      obtain ⟨Ar, cr, rfl, -⟩ := hru.form
      have hrl : r.length ≤ 1048576 := by have := tot_succ hr; have := tot_le rows (k + 1); omega
      have HT := Lib.hid (fun (W : World) (hW : Below wr.heap.size wr W) => toIntS_any (.slice Ar r.length cr) r W (hru.below hW) hrl)
      have HT0 := Lib.hid (HT.out wr (Below.refl _ _))
      have HRS := Lib.hid (cpR_succ hr)
      have HRL := Lib.hid (cpR_len rows (k := k) (by omega))
      have HG := Lib.hid hG
      have HB := Lib.hid hB
      have HC := Lib.hid c0
      clear hu hru hr hrl hG hB
      go_wp2_with fail
      refine HT0.out.mono ?_
      rintro e w4 ⟨A5, c5, rfl, o5, b5⟩
      have hG4 := HG.out.below b5
      have h1 := hG4.1
      rw [HRL.out] at h1
      have hul := hG4.len
      rw [HRL.out] at hul
      obtain ⟨u0, hu0⟩ : ∃ u, vs[k]? = some u := ⟨_, List.getElem?_eq_getElem (by omega)⟩
      have f0 := h1.cellAt k (by omega)
      rw [hu0] at f0
      have z0 := h1.frozenAt k
      have hgr := h1.lt w.heap.size rfl
      have HS : Hid (OwnG (w4.setCell ⟨w.heap.size, k, none⟩ (.slice A5 r.length c5)) w.heap.size (.slice (some ⟨w.heap.size, 0, none⟩) rows.length rows.length) (vs.set k (.slice A5 r.length c5)) (cpR rows (k + 1))) := by
        have h9 : OwnG w4 w.heap.size (.slice (some ⟨w.heap.size, 0, none⟩) (cpR rows k).length rows.length) vs (cpR rows k) := by rw [HRL.out]; exact hG4
        have hfr := OwnG.fresh HG.out (own_base o5 (Nat.le_refl _))
        have := OwnG.store h9 (by rw [HRL.out]; exact hlt) (own_base o5 (by have := HB.out.size; omega)) (fun i x b _ hx hb => hfr i x b hx hb)
        rw [HRS.out, HRL.out] at this
        exact this
      have HB5 := Lib.hid ((btrans HB.out b5).setCell (p := ⟨w.heap.size, k, none⟩) hgr.1 (.slice A5 r.length c5))
      clear hG4 h1 hul b5 o5 hu0 c0
      go_wp2_with fail
      go_roundg g2
      case measure => omega
      case rel => exact ⟨k + 1, _, by omega, by go_num, HS.out, HB5.out⟩
end Go.Proofs.YtdhbaegkogklgaaDoor.gridl

/- An argument of type [][]int, opened: rows of integers as they came in. -/
namespace Go.Proofs.YtdhbaegkogklgaaDoor.opens
open Go.RowKit Go.Joins Go.ChangeShapes Go.WideShapes Go.Deep P2 words gridr

/-- what is told of a slice of slices of integers that came in -/
def IsRows (w : World) (v : Value) (us : List Value) (rows : List (List Int)) : Prop :=
  ReadsG w v us rows ∧ rows.length ≤ maxLen ∧ ∀ r ∈ rows, r.length ≤ maxLen ∧ ∀ x ∈ r, -9223372036854775808 ≤ x ∧ x ≤ 9223372036854775807

section
variable {H : Type} {enc : TypeId × Value → H} {w : World} {spare : Nat → Bool} {held : Bool}
theorem open_intsv {fuel : Nat} {v : Value} {x : DataW H × List MemPlace} (h : DataW.trod enc Tryd.prog w 0 spare held fuel 25 [v] = some x) : ∃ l, IsIn w v l := by
  rcases open_slice Tryd.underlying25 h with ⟨hv, _⟩ | ⟨a, len', cap', m, n, D, Pl, hv, _, hl, hm, hmm, _, hi⟩
  · obtain rfl : v = .slice none 0 0 := by simpa using hv
    exact ⟨[], Reads.nil _ _, Nat.zero_le _, fun x hx => by cases hx⟩
  · obtain rfl : v = .slice (some a) len' cap' := by simpa using hv
    have hlm : len' ≤ m := by rw [hmm]; split <;> omega
    have hC1 : Tryd.prog.cellsOf 3 = 1 := by kernel_rfl
    rw [hC1] at hi
    have key : ∀ i, i < len' → ∃ x : Int, w.cell? (a.add i) = some (.int .i64 x) ∧ (Lit.int .i64 x).wf = true := fun i hil => by
      obtain ⟨cs', hc, ht⟩ := hi i (by omega)
      obtain ⟨_, hcl, hat⟩ := World.cells?_some hc
      match cs', hcl with
      | [c0], _ =>
        obtain ⟨n0, h0, _, hw⟩ := DataW.trod_int Tryd.underlying3 ht
        obtain rfl : c0 = .int .i64 n0 := by simpa using h0
        have a0 := hat 0 (by decide)
        rw [add_of_add, Nat.mul_one] at a0
        exact ⟨n0, by simpa using a0, hw⟩
    obtain ⟨f, hf⟩ := choose_lt (α := Int) key
    refine ⟨(List.range len').map f, ⟨some a, cap', by simp, fun hn => ?_⟩, by simp; omega, fun x hx => ?_⟩
    · simp only [List.length_map, List.length_range] at hn ⊢
      obtain ⟨b, off, spot⟩ := a
      have hc0 := (hf 0 hn).1
      have hspot : spot = none := by simpa [Addr.add] using World.cell?_spot hc0
      subst hspot
      refine ⟨b, off, rfl, hl, fun j u hu => ?_⟩
      have hjl : j < len' := by
        have := (List.getElem?_eq_some_iff.1 hu).1
        rw [cellsI_len] at this; simpa using this
      have hcl := (hf j hjl).1
      rw [addr_add] at hcl
      have hkf : ((List.range len').map f)[j]? = some (f j) := by simp [hjl]
      rw [cellsI_at hkf] at hu
      rw [hcl, ← hu]
    · simp only [List.mem_map, List.mem_range] at hx
      obtain ⟨j, hj, rfl⟩ := hx
      exact bounds64 (hf j hj).2

set_option maxRecDepth 100000 in
theorem open_rowsl {r : Reach} {b0 : Nat} {v : Value} {d : DataW H} {p : List MemPlace} (hv : Value.okWide Tryd.prog w r b0 40 v)
    (h : DataW.Trod enc Tryd.prog w 0 spare held 40 v d p) : ∃ u us rows, v = u ∧ IsRows w u us rows := by
  obtain ⟨A, len, cap, rfl⟩ := okWide_slice Tryd.underlying40 hv
  obtain ⟨fuel, hf⟩ := h
  simp only [Value.cells] at hf
  rcases open_slice Tryd.underlying40 hf with ⟨hv, _⟩ | ⟨a, len', cap', m, n, D, Pl, hv, _, hl, hm, hmm, _, hi⟩
  · have e : Value.slice A len cap = .slice none 0 0 := by simpa using hv
    rw [e]
    exact ⟨_, [], [], rfl, ⟨Reads.nil _ _, rfl, fun i u r hu hr => by simp at hu⟩, Nat.zero_le _, fun x hx => by cases hx⟩
  · have e : Value.slice A len cap = .slice (some a) len' cap' := by simpa using hv
    rw [e]
    have hlm : len' ≤ m := by rw [hmm]; split <;> omega
    have hC1 : Tryd.prog.cellsOf 25 = 1 := by kernel_rfl
    rw [hC1] at hi
    have key : ∀ i, i < len' → ∃ y : Value × List Int, w.cell? (a.add i) = some y.1 ∧ IsIn w y.1 y.2 := fun i hil => by
      obtain ⟨cs', hc, ht⟩ := hi i (by omega)
      obtain ⟨_, hcl, hat⟩ := World.cells?_some hc
      match cs', hcl with
      | [c0], _ =>
        obtain ⟨l, hl2⟩ := open_intsv ht
        have a0 := hat 0 (by decide)
        rw [add_of_add, Nat.mul_one] at a0
        exact ⟨(c0, l), by simpa using a0, hl2⟩
    obtain ⟨f, hf⟩ := choose_lt (α := Value × List Int) key
    refine ⟨_, (List.range len').map (fun i => (f i).1), (List.range len').map (fun i => (f i).2), rfl, ⟨⟨some a, cap', by simp, fun hn => ?_⟩, by simp, fun i u r hu hr => ?_⟩, by simp; omega, fun x hx => ?_⟩
    · simp only [List.length_map, List.length_range] at hn ⊢
      obtain ⟨b, off, spot⟩ := a
      have hc0 := (hf 0 hn).1
      have hspot : spot = none := by simpa [Addr.add] using World.cell?_spot hc0
      subst hspot
      refine ⟨b, off, rfl, hl, fun j u hu => ?_⟩
      have hjl : j < len' := by
        have := (List.getElem?_eq_some_iff.1 hu).1
        simpa using this
      have hcl := (hf j hjl).1
      rw [addr_add] at hcl
      have hkf : ((List.range len').map (fun i => (f i).1))[j]? = some (f j).1 := by simp [hjl]
      rw [hkf] at hu
      rw [hcl, ← hu]
    · have hil : i < len' := by
        have := (List.getElem?_eq_some_iff.1 hu).1
        simpa using this
      have h1 : ((List.range len').map (fun i => (f i).1))[i]? = some (f i).1 := by simp [hil]
      have h2 : ((List.range len').map (fun i => (f i).2))[i]? = some (f i).2 := by simp [hil]
      rw [h1] at hu
      rw [h2] at hr
      cases hu
      cases hr
      exact (hf i hil).2.1
    · simp only [List.mem_map, List.mem_range] at hx
      obtain ⟨j, hj, rfl⟩ := hx
      exact (hf j hj).2.2
end
end Go.Proofs.YtdhbaegkogklgaaDoor.opens
