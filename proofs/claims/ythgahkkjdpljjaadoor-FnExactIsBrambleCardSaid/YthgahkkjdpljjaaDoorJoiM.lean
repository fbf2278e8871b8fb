/- Joined sets and sets that touch, as bits: mathematics. -/
import Derived.Test.YthgahkkjdpljjaaDoorBagM
import Derived.Test.YthgahkkjdpljjaaDoorBitsI
import Derived.Test.YthgahkkjdpljjaaDoorAround
import Derived.Test.YthgahkkjdpljjaaDoorUpsM
import Derived.Test.YthgahkkjdpljjaaDoorCtz
namespace Go.Proofs.YthgahkkjdpljjaaDoor.joins
open Go.RowKit P2 words edges ints good adjs fns sets rets covs bags bitsI ups
set_option linter.unusedVariables false

theorem nbits {n g : Nat} (hg : g < 2 ^ n) : numOf (bitB g) n = g := by
  apply Nat.eq_of_testBit_eq
  intro i
  rw [numOf_bit]
  unfold bitB
  by_cases hi : i < n
  · simp [hi]
  · rw [decide_eq_false hi, Bool.false_and, Nat.testBit_lt_two_pow (Nat.lt_of_lt_of_le hg (Nat.pow_le_pow_right (by decide) (by omega)))]
theorem low_fin : ∀ c : Fin 256, c.val ≠ 0 → c.val.testBit (Lib.ctz 64 c.val) = true := by decide +kernel
theorem low_bit {n c : Nat} (hn : n ≤ 8) (hc : c < 2 ^ n) (h0 : c ≠ 0) : Lib.ctz 64 c < n ∧ c.testBit (Lib.ctz 64 c) = true := by
  have h256 : c < 256 := Nat.lt_of_lt_of_le hc (pow_le hn)
  have hb := low_fin ⟨c, h256⟩ h0
  refine ⟨?_, hb⟩
  apply Classical.byContradiction
  intro hh
  have := Nat.testBit_lt_two_pow (i := Lib.ctz 64 c) (Nat.lt_of_lt_of_le hc (Nat.pow_le_pow_right (by omega) (by omega)))
  exact absurd hb (by rw [this]; simp)
/-- all nodes of a set that has some are connected by ways in it -/
def JnP (n : Nat) (l : List Ed) (c : Nat) : Prop := c ≠ 0 ∧ ∀ a b, a < n → b < n → c.testBit a = true → c.testBit b = true → reach.Rch n (J2 l) (bitB c) a b
noncomputable def jnB (n : Nat) (l : List Ed) (c : Nat) : Bool := @decide (JnP n l c) (Classical.propDecidable _)
theorem jnB_iff {n : Nat} {l : List Ed} {c : Nat} : jnB n l c = true ↔ JnP n l c := by
  unfold jnB; exact @decide_eq_true_iff _ (Classical.propDecidable _)
theorem jnB_zero (n : Nat) (l : List Ed) : jnB n l 0 = false := by
  cases h : jnB n l 0 with
  | false => rfl
  | true => exact absurd rfl (jnB_iff.1 h).1
theorem J2_symm (l : List Ed) (a b : Nat) : J2 l a b = J2 l b a := by unfold J2; exact adj_comm l a b
theorem jn_of {n x c : Nat} {l : List Ed} (hx : x < n) (hb : c.testBit x = true) (h : ∀ z, z < n → c.testBit z = true → reach.Rch n (J2 l) (bitB c) x z) : JnP n l c := by
  refine ⟨fun h0 => by rw [h0] at hb; simp at hb, fun a b ha hbn h1 h2 => ?_⟩
  exact Rch.trans (Rch.symm (J2_symm l) hx hb (h a ha h1)) (h b hbn h2)
theorem jnB_num {n c : Nat} {l : List Ed} (hn : n ≤ 8) (hc : c < 2 ^ n) (h0 : c ≠ 0) : (numOf (connB n (J2 l) (bitB c) (fun y => decide (y = Lib.ctz 64 c))) n == c) = jnB n l c := by
  obtain ⟨hx, hb⟩ := low_bit hn hc h0
  rw [Bool.eq_iff_iff, jnB_iff, beq_iff_eq]
  constructor
  · intro h
    refine jn_of hx hb fun z hz h1 => ?_
    have h2 : (numOf (connB n (J2 l) (bitB c) (fun y => decide (y = Lib.ctz 64 c))) n).testBit z = true := by rw [h]; exact h1
    rw [numOf_bit, Bool.and_eq_true, connB_one hx, reach.reachB_iff] at h2
    exact h2.2
  · intro h
    refine Eq.trans (num_ext fun z hz => ?_) (nbits hc)
    rw [connB_one hx, Bool.eq_iff_iff, reach.reachB_iff]
    constructor
    · intro hr; exact hr.inq hb
    · intro h1; exact h.2 _ z hx hz hb h1
/-- two sets touch -/
def meetB (l : List Ed) (n a b : Nat) : Bool := !(arN l n a &&& b == 0)
/-- each of the first k sets touches those ahead of it -/
def tchK (l : List Ed) (n : Nat) (cs : List Nat) (k : Nat) : Bool := (List.range k).all fun i => match cs[i]? with
  | some a => (cs.take i).all fun b => meetB l n a b
  | none => true
theorem tchK_zero (l : List Ed) (n : Nat) (cs : List Nat) : tchK l n cs 0 = true := rfl
theorem tchK_succ {l : List Ed} {n : Nat} {cs : List Nat} {k a : Nat} (h : cs[k]? = some a) : tchK l n cs (k + 1) = (tchK l n cs k && (cs.take k).all fun b => meetB l n a b) := by
  unfold tchK
  rw [List.range_succ, List.all_append]
  simp [h]
theorem tchK_no {l : List Ed} {n : Nat} {cs : List Nat} {k : Nat} (h : tchK l n cs k = false) : ∀ m, k ≤ m → tchK l n cs m = false := fun m hm => by
  unfold tchK at h ⊢
  rw [List.all_eq_false] at h ⊢
  obtain ⟨i, hi, h1⟩ := h
  rw [List.mem_range] at hi
  exact ⟨i, List.mem_range.2 (by omega), h1⟩
def tchB (l : List Ed) (n : Nat) (cs : List Nat) : Bool := tchK l n cs cs.length
theorem meet_any (l : List Ed) (n a : Nat) (cs : List Nat) (k : Nat) : (cs.take k).any (fun b => arN l n a &&& b == 0) = !(cs.take k).all (fun b => meetB l n a b) := by
  unfold meetB
  rw [List.not_all_eq_any_not]
  congr 1; funext b; rw [Bool.not_not]
end Go.Proofs.YthgahkkjdpljjaaDoor.joins
