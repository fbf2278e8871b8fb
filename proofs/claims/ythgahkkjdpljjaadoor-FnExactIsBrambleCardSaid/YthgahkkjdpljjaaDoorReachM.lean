/- What can be reached within a set of nodes, as the model looks for it: round by round. -/
import Derived.Test.YthgahkkjdpljjaaDoorBall
namespace Go.Proofs.YthgahkkjdpljjaaDoor.reach
open Go.RowKit P2 words edges ints fns sets covs
set_option linter.unusedVariables false

/-- ways within q -/
inductive Rch (n : Nat) (J : Nat → Nat → Bool) (q : Nat → Bool) (x : Nat) : Nat → Prop
  | base : Rch n J q x x
  | step {a b : Nat} : Rch n J q x a → J a b = true → q b = true → b < n → Rch n J q x b
noncomputable def reachB (n : Nat) (J : Nat → Nat → Bool) (q : Nat → Bool) (x z : Nat) : Bool := @decide (Rch n J q x z) (Classical.propDecidable _)
theorem reachB_iff {n : Nat} {J : Nat → Nat → Bool} {q : Nat → Bool} {x z : Nat} : reachB n J q x z = true ↔ Rch n J q x z := by
  unfold reachB; exact @decide_eq_true_iff _ (Classical.propDecidable _)
theorem Rch.lt {n : Nat} {J : Nat → Nat → Bool} {q : Nat → Bool} {x z : Nat} (h : Rch n J q x z) (hx : x < n) : z < n := by
  cases h with
  | base => exact hx
  | step _ _ _ h => exact h
theorem Rch.inq {n : Nat} {J : Nat → Nat → Bool} {q : Nat → Bool} {x z : Nat} (h : Rch n J q x z) (hx : q x = true) : q z = true := by
  cases h with
  | base => exact hx
  | step _ _ h _ => exact h

theorem nw_congr {p p' : Nat → Bool} : ∀ {n : Nat}, (∀ z, z < n → p z = p' z) → nw p n = nw p' n
  | 0, _ => rfl
  | n + 1, h => by
    have ih := nw_congr (n := n) (fun z hz => h z (by omega))
    have h9 := h n (Nat.lt_succ_self n)
    cases hp : p n with
    | true => rw [nw_yes hp, nw_yes (h9.symm.trans hp), ih]
    | false => rw [nw_no hp, nw_no (h9.symm.trans hp), ih]
theorem nw_mono {p p' : Nat → Bool} : ∀ {n : Nat}, (∀ z, z < n → p z = true → p' z = true) → (nw p n).length ≤ (nw p' n).length
  | 0, _ => Nat.le_refl _
  | n + 1, h => by
    have ih := nw_mono (n := n) (fun z hz => h z (by omega))
    have h9 := h n (Nat.lt_succ_self n)
    cases hp : p n with
    | true => rw [nw_yes hp, nw_yes (h9 hp)]; simp; exact ih
    | false =>
      rw [nw_no hp]
      cases hq : p' n with
      | true => rw [nw_yes hq]; simp; omega
      | false => rw [nw_no hq]; exact ih
/-- a node more -/
def pput (p : Nat → Bool) (y z : Nat) : Bool := p z || decide (z = y)
theorem pput_len {p : Nat → Bool} {y : Nat} (hp : p y = false) : ∀ n, (nw (pput p y) n).length = (nw p n).length + (if y < n then 1 else 0)
  | 0 => rfl
  | n + 1 => by
    have ih := pput_len hp n
    by_cases e : n = y
    · subst e
      rw [nw_yes (p := pput p n) (by simp [pput]), nw_no hp, List.length_append, ih]
      simp
    · have h9 : pput p y n = p n := by simp [pput, e]
      cases hq : p n with
      | true =>
        rw [nw_yes (h9.trans hq), nw_yes hq, List.length_append, List.length_append, ih]
        simp only [List.length_singleton]
        split <;> split <;> omega
      | false =>
        rw [nw_no (h9.trans hq), nw_no hq, ih]
        split <;> split <;> omega
theorem pput_is {n : Nat} {p : Nat → Bool} {y : Nat} {L : List Int} (h : balls.PutI (nw p n) (y : Int) L) (hy : y < n) : L = nw (pput p y) n :=
  asc_ext h.1 (nw_asc _ _) fun e => by
    rw [h.2.1 e, mem_nw, mem_nw]
    constructor
    · rintro (rfl | ⟨j, hj, hp, rfl⟩)
      · exact ⟨y, hy, by simp [pput], rfl⟩
      · exact ⟨j, hj, by simp [pput, hp], rfl⟩
    · rintro ⟨j, hj, hp, rfl⟩
      rcases Bool.or_eq_true_iff.1 hp with h1 | h1
      · exact .inr ⟨j, hj, h1, rfl⟩
      · exact .inl (by have := of_decide_eq_true h1; omega)
theorem nw_at {p : Nat → Bool} {n k : Nat} {y : Int} (h : (nw p n)[k]? = some y) : ∃ z : Nat, y = (z : Int) ∧ z < n ∧ p z = true := by
  obtain ⟨z, h1, h2, rfl⟩ := mem_nw.1 (List.mem_of_getElem? h)
  exact ⟨z, rfl, h1, h2⟩
theorem at_nw {p : Nat → Bool} {n z : Nat} (h : p z = true) (hz : z < n) : ∃ k, k < (nw p n).length ∧ (nw p n)[k]? = some (z : Int) := by
  obtain ⟨k, hk⟩ := List.mem_iff_getElem?.1 (mem_nw.2 ⟨z, hz, h, rfl⟩ : (z : Int) ∈ nw p n)
  exact ⟨k, (List.getElem?_eq_some_iff.1 hk).1, hk⟩

section
variable (n : Nat) (J : Nat → Nat → Bool) (q : Nat → Bool) (x : Nat)
def Closed (p : Nat → Bool) : Prop := ∀ a b, a < n → b < n → p a = true → J a b = true → q b = true → p b = true
def Sound (p : Nat → Bool) : Prop := ∀ z, z < n → p z = true → Rch n J q x z
def Done (p : Nat → Bool) (y : Nat) : Prop := p y = true ∨ ∀ o, o < n → p o = true → J o y = false
/-- r rounds are done -/
def RoundO (r : Nat) (p : Nat → Bool) : Prop := p x = true ∧ Sound n J q x p ∧ (Closed n J q p ∨ r + 1 ≤ (nw p n).length)
/-- in a round, the nodes ahead of place i are done -/
def RoundI (r i : Nat) (p : Nat → Bool) : Prop :=
  p x = true ∧ Sound n J q x p ∧ (Closed n J q p ∨ r + 2 ≤ (nw p n).length ∨ (r + 1 ≤ (nw p n).length ∧ ∀ (j y : Nat), j < i → (nw q n)[j]? = some (y : Int) → Done n J p y))
end
section
variable {n : Nat} {J : Nat → Nat → Bool} {q : Nat → Bool} {x r i : Nat} {p : Nat → Bool}
theorem RoundO.first (hx : x < n) : RoundO n J q x 0 (fun z => decide (z = x)) := by
  refine ⟨by simp, fun z _ hz => by have := of_decide_eq_true hz; subst this; exact .base, .inr ?_⟩
  have := nw_mono (n := n) (p := fun z => pput (fun _ => false) x z) (p' := fun z => decide (z = x)) (fun z _ hz => by simpa [pput] using hz)
  have h2 := pput_len (p := fun _ => false) (y := x) rfl n
  rw [if_pos hx] at h2
  show 0 + 1 ≤ _
  have h3 : (nw (fun z => pput (fun _ => false) x z) n).length = (nw (fun _ => false) n).length + 1 := h2
  omega
theorem RoundO.start (h : RoundO n J q x r p) : RoundI n J q x r 0 p :=
  ⟨h.1, h.2.1, h.2.2.elim .inl (fun h => .inr (.inr ⟨h, fun j y hj => by omega⟩))⟩
theorem RoundI.done (h : RoundI n J q x r (nw q n).length p) : RoundO n J q x (r + 1) p := by
  refine ⟨h.1, h.2.1, ?_⟩
  rcases h.2.2 with h1 | h1 | ⟨_, h1⟩
  · exact .inl h1
  · exact .inr h1
  · refine .inl fun a b ha hb hpa hJ hq => ?_
    obtain ⟨k, hk, hkb⟩ := at_nw hq hb
    rcases h1 k b hk hkb with h2 | h2
    · exact h2
    · rw [h2 a ha hpa] at hJ; cases hJ
theorem RoundI.skip {y : Nat} (h : RoundI n J q x r i p) (hy : (nw q n)[i]? = some (y : Int)) (hd : Done n J p y) : RoundI n J q x r (i + 1) p := by
  refine ⟨h.1, h.2.1, ?_⟩
  rcases h.2.2 with h1 | h1 | ⟨h0, h1⟩
  · exact .inl h1
  · exact .inr (.inl h1)
  · refine .inr (.inr ⟨h0, fun j z hj hz => ?_⟩)
    by_cases e : j = i
    · subst e; rw [hy] at hz
      have h9 : (y : Int) = (z : Int) := by simpa using hz
      obtain rfl : y = z := by omega
      exact hd
    · exact h1 j z (by omega) hz
theorem RoundI.put {y o : Nat} (h : RoundI n J q x r i p) (hy : y < n) (hq : q y = true) (hp : p y = false) (ho : o < n) (hpo : p o = true) (hJ : J o y = true) : RoundI n J q x r i (pput p y) := by
  have hlen := pput_len hp n
  rw [if_pos hy] at hlen
  refine ⟨by simp [pput, h.1], fun z hz hpz => ?_, ?_⟩
  · rcases Bool.or_eq_true_iff.1 hpz with h1 | h1
    · exact h.2.1 z hz h1
    · have := of_decide_eq_true h1
      subst this
      exact .step (h.2.1 o ho hpo) hJ hq hy
  · rcases h.2.2 with h1 | h1 | ⟨h0, _⟩
    · have := h1 o y ho hy hpo hJ hq
      rw [hp] at this; cases this
    · exact .inr (.inl (by omega))
    · exact .inr (.inl (by omega))
theorem RoundO.all (h : RoundO n J q x (nw q n).length p) (hx : x < n) (hq : q x = true) : nw p n = nw (reachB n J q x) n := by
  have hcl : Closed n J q p := by
    rcases h.2.2 with h1 | h1
    · exact h1
    · have := nw_mono (n := n) (p := p) (p' := q) (fun z hz hpz => (h.2.1 z hz hpz).inq hq)
      omega
  have hin : ∀ z, Rch n J q x z → p z = true := by
    intro z hz
    induction hz with
    | base => exact h.1
    | step ha hJ hqb hb ih => exact hcl _ _ (ha.lt hx) hb ih hJ hqb
  refine nw_congr fun z hz => ?_
  cases hp : p z with
  | true => exact (reachB_iff.2 (h.2.1 z hz hp)).symm
  | false =>
    cases hr : reachB n J q x z with
    | false => rfl
    | true => rw [hin z (reachB_iff.1 hr)] at hp; cases hp
end
end Go.Proofs.YthgahkkjdpljjaaDoor.reach
