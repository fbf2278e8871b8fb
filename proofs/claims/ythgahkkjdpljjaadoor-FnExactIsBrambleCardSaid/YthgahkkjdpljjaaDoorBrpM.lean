/- Brambles: one part is a joined set; lists that touch: mathematics. -/
import Derived.Test.YthgahkkjdpljjaaDoorBrmM
import Derived.Test.YthgahkkjdpljjaaDoorTchS
import Derived.Test.YthgahkkjdpljjaaDoorPartM
import Derived.Test.YthgahkkjdpljjaaDoorReach
namespace Go.Proofs.YthgahkkjdpljjaaDoor.joins
open Go.RowKit P2 words edges ints good adjs fns sets rets covs bags bitsI ups
set_option linter.unusedVariables false

theorem least_of {n : Nat} {J : Nat → Nat → Bool} {q : Nat → Bool} : ∀ (m a : Nat), a ≤ m → a < n → q a = true → ∃ z, z < n ∧ q z = true ∧ reach.Rch n J q z a ∧ reach.leastB n J q z = true
  | m, a, ham, ha, hq => by
    cases hl : reach.leastB n J q a with
    | true => exact ⟨a, ha, hq, .base, hl⟩
    | false =>
      have h1 : ¬ ∀ z, z < a → q z = true → ¬ reach.Rch n J q z a := fun h => by rw [reach.leastB_iff.2 h] at hl; cases hl
      have h2 : ∃ z, z < a ∧ q z = true ∧ reach.Rch n J q z a := by
        apply Classical.byContradiction
        intro hh
        exact h1 fun z hz hqz hr => hh ⟨z, hz, hqz, hr⟩
      obtain ⟨z, hz, hqz, hr⟩ := h2
      cases m with
      | zero => omega
      | succ m =>
        obtain ⟨y, hy, hqy, hry, hly⟩ := least_of (n := n) (J := J) m z (by omega) (by omega) hqz
        exact ⟨y, hy, hqy, Rch.trans hry hr, hly⟩
theorem parts_one {n c : Nat} {l : List Ed} (hn : n ≤ 8) (hc : c < 2 ^ n) : (reach.partsL n (reach.J2 l) (bitB c)).length = 1 ↔ JnP n l c := by
  have hmem : ∀ y : Int, y ∈ (nw (bitB c) n).filter (fun y => reach.leastB n (J2 l) (bitB c) y.toNat) ↔ ∃ z : Nat, y = (z : Int) ∧ z < n ∧ c.testBit z = true ∧ reach.leastB n (J2 l) (bitB c) z = true := fun y => by
    rw [List.mem_filter, mem_nw]
    constructor
    · rintro ⟨⟨j, hj, hp, rfl⟩, h⟩
      exact ⟨j, rfl, hj, hp, h⟩
    · rintro ⟨z, rfl, hz, hb, h⟩
      exact ⟨⟨z, hz, hb, rfl⟩, h⟩
  have hlen : (reach.partsL n (reach.J2 l) (bitB c)).length = ((nw (bitB c) n).filter (fun y => reach.leastB n (J2 l) (bitB c) y.toNat)).length := by
    unfold reach.partsL reach.partsT
    rw [List.length_map, List.take_length]
    rfl
  rw [hlen]
  constructor
  · intro h
    obtain ⟨m, hm⟩ := List.length_eq_one_iff.1 h
    rw [hm] at hmem
    obtain ⟨x, rfl, hx, hb, hl⟩ := (hmem m).1 (List.mem_singleton.2 rfl)
    refine jn_of hx hb fun z hz h1 => ?_
    obtain ⟨y, hy, hqy, hr, hly⟩ := least_of (J := J2 l) (q := bitB c) z z (Nat.le_refl _) hz h1
    have h2 := (hmem (y : Int)).2 ⟨y, rfl, hy, hqy, hly⟩
    rw [List.mem_singleton] at h2
    have : y = x := by omega
    subst this
    exact hr
  · intro h
    obtain ⟨x, hx, hb⟩ := bit_some hc h.1
    obtain ⟨y, hy, hqy, -, hly⟩ := least_of (J := J2 l) (q := bitB c) x x (Nat.le_refl _) hx hb
    have key : (nw (bitB c) n).filter (fun y => reach.leastB n (J2 l) (bitB c) y.toNat) = [(y : Int)] := by
      refine asc_ext ?_ (by unfold Asc; simp) fun e => ?_
      · unfold Asc
        exact (nw_asc (bitB c) n).filter _
      · rw [hmem, List.mem_singleton]
        constructor
        · rintro ⟨z, rfl, hz, hbz, hlz⟩
          have h1 := h.2 y z hy hz hqy hbz
          have h2 := h.2 z y hz hy hbz hqy
          have h3 := reach.leastB_iff.1 hlz y
          have h4 := reach.leastB_iff.1 hly z
          rcases Nat.lt_trichotomy y z with h9 | h9 | h9
          · exact absurd h1 (h3 h9 hqy)
          · rw [h9]
          · exact absurd h2 (h4 h9 hbz)
        · rintro rfl
          exact ⟨y, rfl, hy, hqy, hly⟩
    rw [key]; rfl
theorem tc_meet {n : Nat} {l : List Ed} {xs ys : List Int} (hx : ∀ x ∈ xs, 0 ≤ x ∧ x < (n : Int)) (hy : ∀ x ∈ ys, 0 ≤ x ∧ x < (n : Int)) : tcL l xs ys = meetB l n (codeL xs) (codeL ys) := by
  rw [Bool.eq_iff_iff, meetB_iff (code_lt (m := n) hy)]
  unfold tcL tcA
  rw [List.any_eq_true]
  constructor
  · rintro ⟨a, ha, h⟩
    rw [List.any_eq_true] at h
    obtain ⟨b, hb, e⟩ := h
    have h1 := hx a ha
    have h2 := hy b hb
    refine ⟨a.toNat, b.toNat, by omega, by omega, ?_, ?_, ?_⟩
    · rw [code_bit (fun z hz => (hx z hz).1), Int.toNat_of_nonneg h1.1, decide_eq_true ha]
    · rw [code_bit (fun z hz => (hy z hz).1), Int.toNat_of_nonneg h2.1, decide_eq_true hb]
    · rw [Int.toNat_of_nonneg h1.1, Int.toNat_of_nonneg h2.1]
      rcases Bool.or_eq_true_iff.1 e with e | e
      · rw [beq_iff_eq] at e; left; omega
      · exact .inr e
  · rintro ⟨x, z, hxn, hzn, h1, h2, e⟩
    rw [code_bit (fun z hz => (hx z hz).1)] at h1
    rw [code_bit (fun z hz => (hy z hz).1)] at h2
    refine ⟨(x : Int), of_decide_eq_true h1, ?_⟩
    rw [List.any_eq_true]
    refine ⟨(z : Int), of_decide_eq_true h2, ?_⟩
    rcases e with rfl | e
    · simp
    · rw [e]; simp
/-- a set has a node of a list -/
def mtA (xs : List Int) (r : List Int) : Bool := xs.any fun x => decide (x ∈ r)
theorem mt_is {n c : Nat} {r : List Int} (hc : c < 2 ^ n) (hr : ∀ x ∈ r, 0 ≤ x ∧ x < (n : Int)) : mtA (nw (bitB c) n) r = !(codeL r &&& c == 0) := by
  rw [Bool.eq_iff_iff, Bool.not_eq_true', beq_eq_false_iff_ne]
  unfold mtA
  rw [List.any_eq_true]
  constructor
  · rintro ⟨x, hx, h⟩ h0
    obtain ⟨j, hj, hp, rfl⟩ := mem_nw.1 hx
    have h3 : (codeL r &&& c).testBit j = true := by
      rw [Nat.testBit_and, code_bit (fun z hz => (hr z hz).1), h]
      unfold bitB at hp
      rw [hp]; rfl
    rw [h0] at h3
    simp at h3
  · intro h
    obtain ⟨j, hj, hb⟩ := bit_some (n := n) (Nat.lt_of_le_of_lt Nat.and_le_right hc) h
    rw [Nat.testBit_and, code_bit (fun z hz => (hr z hz).1), Bool.and_eq_true] at hb
    exact ⟨(j : Int), mem_nw.2 ⟨j, hj, hb.2, rfl⟩, hb.1⟩
def mtL (xs : List Int) (q : List (List Int)) : Bool := q.all (mtA xs)
theorem mtL_is {n c : Nat} {l : List Ed} {q : List (List Int)} (hc : c < 2 ^ n) (hq : BrK n l q q.length) : mtL (nw (bitB c) n) q = covB q c := by
  rw [Bool.eq_iff_iff, covB_iff]
  unfold mtL
  rw [List.all_eq_true]
  have hs : ∀ r ∈ q, ∀ x ∈ r, 0 ≤ x ∧ x < (n : Int) := fun r hr => by
    obtain ⟨i, hi⟩ := List.getElem?_of_mem hr
    exact (hq i r (List.getElem?_eq_some_iff.1 hi).1 hi).1.2.1
  constructor
  · intro h r hr h0
    have := h r hr
    rw [mt_is hc (hs r hr), h0] at this
    simp at this
  · intro h r hr
    rw [mt_is hc (hs r hr), Bool.not_eq_true', beq_eq_false_iff_ne]
    exact h r hr
end Go.Proofs.YthgahkkjdpljjaaDoor.joins
