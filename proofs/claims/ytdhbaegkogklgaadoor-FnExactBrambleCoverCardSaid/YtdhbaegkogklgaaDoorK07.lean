/- What can be reached within a set of nodes, as the model looks for it: round by round. -/
import Derived.Test.YtdhbaegkogklgaaDoorK06
import Derived.Test.YtdhbaegkogklgaaDoorK01
import Derived.Test.YtdhbaegkogklgaaDoorK02
namespace Go.Proofs.YtdhbaegkogklgaaDoor.reach
open Go.RowKit P2 words edges ints fns sets covs
set_option linter.unusedVariables false

/-- ways within q -/
inductive Rch (n : Nat) (J : Nat → Nat → Bool) (q : Nat → Bool) (x : Nat) : Nat → Prop
  | base : Rch n J q x x
  | step {a b : Nat} : Rch n J q x a → J a b = true → q b = true → b < n → Rch n J q x b
noncomputable def reachB (n : Nat) (J : Nat → Nat → Bool) (q : Nat → Bool) (x z : Nat) : Bool := @decide (Rch n J q x z) (Classical.propDecidable _)
theorem reachB_iff {n : Nat} {J : Nat → Nat → Bool} {q : Nat → Bool} {x z : Nat} : reachB n J q x z = true ↔ Rch n J q x z := by
  unfold reachB; exact @decide_eq_true_iff _ (Classical.propDecidable _)
theorem Rch.lt {n : Nat} {J : Nat → Nat → Bool} {q : Nat → Bool} {x z : Nat} (h : Rch n J q x z) (hx : x < n) : z < n := by
  cases h with
  | base => exact hx
  | step _ _ _ h => exact h
theorem Rch.inq {n : Nat} {J : Nat → Nat → Bool} {q : Nat → Bool} {x z : Nat} (h : Rch n J q x z) (hx : q x = true) : q z = true := by
  cases h with
  | base => exact hx
  | step _ _ h _ => exact h

theorem nw_congr {p p' : Nat → Bool} : ∀ {n : Nat}, (∀ z, z < n → p z = p' z) → nw p n = nw p' n
  | 0, _ => rfl
  | n + 1, h => by
    have ih := nw_congr (n := n) (fun z hz => h z (by omega))
    have h9 := h n (Nat.lt_succ_self n)
    cases hp : p n with
    | true => rw [nw_yes hp, nw_yes (h9.symm.trans hp), ih]
    | false => rw [nw_no hp, nw_no (h9.symm.trans hp), ih]
theorem nw_mono {p p' : Nat → Bool} : ∀ {n : Nat}, (∀ z, z < n → p z = true → p' z = true) → (nw p n).length ≤ (nw p' n).length
  | 0, _ => Nat.le_refl _
  | n + 1, h => by
    have ih := nw_mono (n := n) (fun z hz => h z (by omega))
    have h9 := h n (Nat.lt_succ_self n)
    cases hp : p n with
    | true => rw [nw_yes hp, nw_yes (h9 hp)]; simp; exact ih
    | false =>
      rw [nw_no hp]
      cases hq : p' n with
      | true => rw [nw_yes hq]; simp; omega
      | false => rw [nw_no hq]; exact ih
/-- a node more -/
def pput (p : Nat → Bool) (y z : Nat) : Bool := p z || decide (z = y)
theorem pput_len {p : Nat → Bool} {y : Nat} (hp : p y = false) : ∀ n, (nw (pput p y) n).length = (nw p n).length + (if y < n then 1 else 0)
  | 0 => rfl
  | n + 1 => by
    have ih := pput_len hp n
    by_cases e : n = y
    · subst e
      rw [nw_yes (p := pput p n) (by simp [pput]), nw_no hp, List.length_append, ih]
      simp
    · have h9 : pput p y n = p n := by simp [pput, e]
      cases hq : p n with
      | true =>
        rw [nw_yes (h9.trans hq), nw_yes hq, List.length_append, List.length_append, ih]
        simp only [List.length_singleton]
        split <;> split <;> omega
      | false =>
        rw [nw_no (h9.trans hq), nw_no hq, ih]
        split <;> split <;> omega
theorem pput_is {n : Nat} {p : Nat → Bool} {y : Nat} {L : List Int} (h : balls.PutI (nw p n) (y : Int) L) (hy : y < n) : L = nw (pput p y) n :=
  asc_ext h.1 (nw_asc _ _) fun e => by
    rw [h.2.1 e, mem_nw, mem_nw]
    constructor
    · rintro (rfl | ⟨j, hj, hp, rfl⟩)
      · exact ⟨y, hy, by simp [pput], rfl⟩
      · exact ⟨j, hj, by simp [pput, hp], rfl⟩
    · rintro ⟨j, hj, hp, rfl⟩
      rcases Bool.or_eq_true_iff.1 hp with h1 | h1
      · exact .inr ⟨j, hj, h1, rfl⟩
      · exact .inl (by have := of_decide_eq_true h1; omega)
theorem nw_at {p : Nat → Bool} {n k : Nat} {y : Int} (h : (nw p n)[k]? = some y) : ∃ z : Nat, y = (z : Int) ∧ z < n ∧ p z = true := by
  obtain ⟨z, h1, h2, rfl⟩ := mem_nw.1 (List.mem_of_getElem? h)
  exact ⟨z, rfl, h1, h2⟩
theorem at_nw {p : Nat → Bool} {n z : Nat} (h : p z = true) (hz : z < n) : ∃ k, k < (nw p n).length ∧ (nw p n)[k]? = some (z : Int) := by
  obtain ⟨k, hk⟩ := List.mem_iff_getElem?.1 (mem_nw.2 ⟨z, hz, h, rfl⟩ : (z : Int) ∈ nw p n)
  exact ⟨k, (List.getElem?_eq_some_iff.1 hk).1, hk⟩

section
variable (n : Nat) (J : Nat → Nat → Bool) (q : Nat → Bool) (x : Nat)
def Closed (p : Nat → Bool) : Prop := ∀ a b, a < n → b < n → p a = true → J a b = true → q b = true → p b = true
def Sound (p : Nat → Bool) : Prop := ∀ z, z < n → p z = true → Rch n J q x z
def Done (p : Nat → Bool) (y : Nat) : Prop := p y = true ∨ ∀ o, o < n → p o = true → J o y = false
/-- r rounds are done -/
def RoundO (r : Nat) (p : Nat → Bool) : Prop := p x = true ∧ Sound n J q x p ∧ (Closed n J q p ∨ r + 1 ≤ (nw p n).length)
/-- in a round, the nodes ahead of place i are done -/
def RoundI (r i : Nat) (p : Nat → Bool) : Prop :=
  p x = true ∧ Sound n J q x p ∧ (Closed n J q p ∨ r + 2 ≤ (nw p n).length ∨ (r + 1 ≤ (nw p n).length ∧ ∀ (j y : Nat), j < i → (nw q n)[j]? = some (y : Int) → Done n J p y))
end
section
variable {n : Nat} {J : Nat → Nat → Bool} {q : Nat → Bool} {x r i : Nat} {p : Nat → Bool}
theorem RoundO.first (hx : x < n) : RoundO n J q x 0 (fun z => decide (z = x)) := by
  refine ⟨by simp, fun z _ hz => by have := of_decide_eq_true hz; subst this; exact .base, .inr ?_⟩
  have := nw_mono (n := n) (p := fun z => pput (fun _ => false) x z) (p' := fun z => decide (z = x)) (fun z _ hz => by simpa [pput] using hz)
  have h2 := pput_len (p := fun _ => false) (y := x) rfl n
  rw [if_pos hx] at h2
  show 0 + 1 ≤ _
  have h3 : (nw (fun z => pput (fun _ => false) x z) n).length = (nw (fun _ => false) n).length + 1 := h2
  omega
theorem RoundO.start (h : RoundO n J q x r p) : RoundI n J q x r 0 p :=
  ⟨h.1, h.2.1, h.2.2.elim .inl (fun h => .inr (.inr ⟨h, fun j y hj => by omega⟩))⟩
theorem RoundI.done (h : RoundI n J q x r (nw q n).length p) : RoundO n J q x (r + 1) p := by
  refine ⟨h.1, h.2.1, ?_⟩
  rcases h.2.2 with h1 | h1 | ⟨_, h1⟩
  · exact .inl h1
  · exact .inr h1
  · refine .inl fun a b ha hb hpa hJ hq => ?_
    obtain ⟨k, hk, hkb⟩ := at_nw hq hb
    rcases h1 k b hk hkb with h2 | h2
    · exact h2
    · rw [h2 a ha hpa] at hJ; cases hJ
theorem RoundI.skip {y : Nat} (h : RoundI n J q x r i p) (hy : (nw q n)[i]? = some (y : Int)) (hd : Done n J p y) : RoundI n J q x r (i + 1) p := by
  refine ⟨h.1, h.2.1, ?_⟩
  rcases h.2.2 with h1 | h1 | ⟨h0, h1⟩
  · exact .inl h1
  · exact .inr (.inl h1)
  · refine .inr (.inr ⟨h0, fun j z hj hz => ?_⟩)
    by_cases e : j = i
    · subst e; rw [hy] at hz
      have h9 : (y : Int) = (z : Int) := by simpa using hz
      obtain rfl : y = z := by omega
      exact hd
    · exact h1 j z (by omega) hz
theorem RoundI.put {y o : Nat} (h : RoundI n J q x r i p) (hy : y < n) (hq : q y = true) (hp : p y = false) (ho : o < n) (hpo : p o = true) (hJ : J o y = true) : RoundI n J q x r i (pput p y) := by
  have hlen := pput_len hp n
  rw [if_pos hy] at hlen
  refine ⟨by simp [pput, h.1], fun z hz hpz => ?_, ?_⟩
  · rcases Bool.or_eq_true_iff.1 hpz with h1 | h1
    · exact h.2.1 z hz h1
    · have := of_decide_eq_true h1
      subst this
      exact .step (h.2.1 o ho hpo) hJ hq hy
  · rcases h.2.2 with h1 | h1 | ⟨h0, _⟩
    · have := h1 o y ho hy hpo hJ hq
      rw [hp] at this; cases this
    · exact .inr (.inl (by omega))
    · exact .inr (.inl (by omega))
theorem RoundO.all (h : RoundO n J q x (nw q n).length p) (hx : x < n) (hq : q x = true) : nw p n = nw (reachB n J q x) n := by
  have hcl : Closed n J q p := by
    rcases h.2.2 with h1 | h1
    · exact h1
    · have := nw_mono (n := n) (p := p) (p' := q) (fun z hz hpz => (h.2.1 z hz hpz).inq hq)
      omega
  have hin : ∀ z, Rch n J q x z → p z = true := by
    intro z hz
    induction hz with
    | base => exact h.1
    | step ha hJ hqb hb ih => exact hcl _ _ (ha.lt hx) hb ih hJ hqb
  refine nw_congr fun z hz => ?_
  cases hp : p z with
  | true => exact (reachB_iff.2 (h.2.1 z hz hp)).symm
  | false =>
    cases hr : reachB n J q x z with
    | false => rfl
    | true => rw [hin z (reachB_iff.1 hr)] at hp; cases hp
end
end Go.Proofs.YtdhbaegkogklgaaDoor.reach

/- What is connected within a set, and the neighbors in a filling: plain mathematics. -/
namespace Go.Proofs.YtdhbaegkogklgaaDoor.bags
open Go.RowKit P2 words edges ints fns sets covs reach
set_option linter.unusedVariables false

def J2 (l : List Ed) (a b : Nat) : Bool := adj l a b
/-- the nodes that ways in q connect with some of P -/
noncomputable def connB (n : Nat) (J : Nat → Nat → Bool) (q P : Nat → Bool) (z : Nat) : Bool := @decide (∃ x, x < n ∧ P x = true ∧ Rch n J q x z) (Classical.propDecidable _)
theorem connB_iff {n : Nat} {J : Nat → Nat → Bool} {q P : Nat → Bool} {z : Nat} : connB n J q P z = true ↔ ∃ x, x < n ∧ P x = true ∧ Rch n J q x z := by
  unfold connB; exact @decide_eq_true_iff _ (Classical.propDecidable _)
theorem connB_one {n : Nat} {J : Nat → Nat → Bool} {q : Nat → Bool} {x z : Nat} (hx : x < n) : connB n J q (fun y => decide (y = x)) z = reachB n J q x z := by
  rw [Bool.eq_iff_iff, connB_iff, reachB_iff]
  constructor
  · rintro ⟨y, hy, hp, hr⟩
    have := of_decide_eq_true hp
    subst this
    exact hr
  · intro h
    exact ⟨x, hx, by simp, h⟩
theorem Rch.mono {n : Nat} {J : Nat → Nat → Bool} {q q' : Nat → Bool} {x z : Nat} (h : Rch n J q x z) (hq : ∀ y, y < n → q y = true → q' y = true) : Rch n J q' x z := by
  induction h with
  | base => exact .base
  | step _ hJ hqb hb ih => exact .step ih hJ (hq _ hb hqb) hb
theorem Rch.trans {n : Nat} {J : Nat → Nat → Bool} {q : Nat → Bool} {x y z : Nat} (h : Rch n J q x y) (k : Rch n J q y z) : Rch n J q x z := by
  induction k with
  | base => exact h
  | step _ hJ hqb hb ih => exact .step ih hJ hqb hb
theorem Rch.ahead {n : Nat} {J : Nat → Nat → Bool} {q : Nat → Bool} {x y z : Nat} (hJ : J x y = true) (hy : y < n) (hq : q y = true) (k : Rch n J q y z) : Rch n J q x z :=
  Rch.trans (.step .base hJ hq hy) k
theorem Rch.symm {n : Nat} {J : Nat → Nat → Bool} {q : Nat → Bool} {x z : Nat} (hs : ∀ a b, J a b = J b a) (hx : x < n) (hqx : q x = true) (h : Rch n J q x z) : Rch n J q z x := by
  induction h with
  | base => exact .base
  | step ha hJ hqb hb ih => exact Rch.ahead ((hs _ _).trans hJ) (ha.lt hx) (ha.inq hqx) ih
/-- the closed neighborhood of a set -/
def arB (l : List Ed) (n : Nat) (c y : Nat) : Bool := (List.range n).any fun x => c.testBit x && ((x == y) || adj l x y)
theorem arB_iff {l : List Ed} {n c y : Nat} : arB l n c y = true ↔ ∃ x, x < n ∧ c.testBit x = true ∧ (x = y ∨ adj l x y = true) := by
  unfold arB
  rw [List.any_eq_true]
  simp only [List.mem_range, Bool.and_eq_true, Bool.or_eq_true, beq_iff_eq]
def arN (l : List Ed) (n c : Nat) : Nat := numOf (arB l n c) n
def arK (l : List Ed) (c : Nat) : Nat → Nat
  | 0 => 0
  | k + 1 => if c.testBit k = true then arK l c k ||| cloB l k else arK l c k
theorem arK_yes {l : List Ed} {c k : Nat} (h : c.testBit k = true) : arK l c (k + 1) = arK l c k ||| cloB l k := by rw [arK, if_pos h]
theorem arK_no {l : List Ed} {c k : Nat} (h : c.testBit k = false) : arK l c (k + 1) = arK l c k := by rw [arK, if_neg (by simp [h])]
theorem arK_bit {s : Int} {l : List Ed} (hg : P2.Good s l) (c y : Nat) : ∀ k, (arK l c k).testBit y = arB l k c y
  | 0 => by simp [arK, arB]
  | k + 1 => by
    have ih := arK_bit hg c y k
    have h2 : arB l (k + 1) c y = (arB l k c y || (c.testBit k && ((k == y) || adj l k y))) := by
      unfold arB; rw [List.range_succ, List.any_append]; simp
    rw [h2]
    cases hb : c.testBit k with
    | true => rw [arK_yes hb, Nat.testBit_or, ih, cloB_bit hg]; simp
    | false => rw [arK_no hb, ih]; simp
theorem arK_lt {s : Int} {l : List Ed} (hg : P2.Good s l) (c : Nat) {k : Nat} (hk : k ≤ 8) : arK l c k < 256 := by
  have := hg.2.1
  refine Nat.lt_pow_two_of_testBit (n := 8) _ fun i hi => ?_
  rw [arK_bit hg]
  cases h : arB l k c i with
  | false => rfl
  | true =>
    obtain ⟨x, hx, _, rfl | ha⟩ := arB_iff.1 h
    · omega
    · have := (adj_node hg ha).2; omega
theorem arK_all {n : Nat} {l : List Ed} (hg : P2.Good (n : Int) l) (c : Nat) : arK l c n = arN l n c := by
  apply Nat.eq_of_testBit_eq
  intro i
  unfold arN
  rw [arK_bit hg, numOf_bit]
  cases h : arB l n c i with
  | false => simp
  | true =>
    obtain ⟨x, hx, _, rfl | ha⟩ := arB_iff.1 h
    · simp [hx]
    · have := (adj_node hg ha).2
      have h9 : i < n := by omega
      simp [h9]
theorem num_ext {p p' : Nat → Bool} {n : Nat} (h : ∀ z, z < n → p z = p' z) : numOf p n = numOf p' n := by
  apply Nat.eq_of_testBit_eq
  intro i
  rw [numOf_bit, numOf_bit]
  by_cases hi : i < n
  · rw [h i hi]
  · simp [hi]
theorem num_inj {p p' : Nat → Bool} {n : Nat} (h : numOf p n = numOf p' n) : ∀ z, z < n → p z = p' z := fun z hz => by
  have h1 := numOf_bit p n z
  have h2 := numOf_bit p' n z
  rw [h, h2] at h1
  simpa [hz] using h1.symm
theorem num_and (p q : Nat → Bool) (n : Nat) : numOf p n &&& numOf q n = numOf (fun z => p z && q z) n := by
  apply Nat.eq_of_testBit_eq
  intro i
  rw [Nat.testBit_and, numOf_bit, numOf_bit, numOf_bit]
  by_cases hi : i < n <;> simp [hi]
/-- a round of the search -/
def mored (l : List Ed) (n : Nat) (q p : Nat → Bool) (y : Nat) : Bool := arB l n (numOf p n) y && q y
theorem mored_iff {l : List Ed} {n : Nat} {q p : Nat → Bool} {y : Nat} : mored l n q p y = true ↔ (∃ x, x < n ∧ p x = true ∧ (x = y ∨ adj l x y = true)) ∧ q y = true := by
  unfold mored
  rw [Bool.and_eq_true, arB_iff]
  constructor
  · rintro ⟨⟨x, hx, hp, h⟩, hq⟩
    rw [numOf_bit] at hp
    exact ⟨⟨x, hx, by simpa [hx] using hp, h⟩, hq⟩
  · rintro ⟨⟨x, hx, hp, h⟩, hq⟩
    exact ⟨⟨x, hx, by rw [numOf_bit]; simp [hx, hp], h⟩, hq⟩
/-- the search so far: p has the nodes found -/
def Conn (n : Nat) (l : List Ed) (q P p : Nat → Bool) : Prop := (∀ z, z < n → P z = true → p z = true) ∧ (∀ z, z < n → p z = true → connB n (J2 l) q P z = true) ∧ ∀ z, z < n → p z = true → q z = true
section
variable {n : Nat} {l : List Ed} {q P p : Nat → Bool}
theorem Conn.first (hP : ∀ z, z < n → P z = true → q z = true) : Conn n l q P P :=
  ⟨fun _ _ h => h, fun z hz h => connB_iff.2 ⟨z, hz, h, .base⟩, hP⟩
theorem Conn.sub (h : Conn n l q P p) : ∀ z, z < n → p z = true → mored l n q p z = true := fun z hz hp => mored_iff.2 ⟨⟨z, hz, hp, .inl rfl⟩, h.2.2 z hz hp⟩
theorem Conn.next (h : Conn n l q P p) : Conn n l q P (mored l n q p) := by
  refine ⟨fun z hz hp => h.sub z hz (h.1 z hz hp), fun z hz hm => ?_, fun z hz hm => (mored_iff.1 hm).2⟩
  obtain ⟨⟨x, hx, hp, he⟩, hq⟩ := mored_iff.1 hm
  obtain ⟨a, ha, hPa, hr⟩ := connB_iff.1 (h.2.1 x hx hp)
  rcases he with rfl | he
  · exact connB_iff.2 ⟨a, ha, hPa, hr⟩
  · exact connB_iff.2 ⟨a, ha, hPa, .step hr he hq hz⟩
theorem Conn.done (h : Conn n l q P p) (he : numOf (mored l n q p) n = numOf p n) : numOf p n = numOf (connB n (J2 l) q P) n := by
  have hi := num_inj he
  have hin : ∀ a z, a < n → P a = true → Rch n (J2 l) q a z → p z = true := by
    intro a z ha hPa hr
    induction hr with
    | base => exact h.1 a ha hPa
    | step hr hJ hqb hb ih => rw [← hi _ hb]; exact mored_iff.2 ⟨⟨_, hr.lt ha, ih, .inr hJ⟩, hqb⟩
  refine num_ext fun z hz => ?_
  rw [Bool.eq_iff_iff]
  constructor
  · exact h.2.1 z hz
  · intro hc
    obtain ⟨a, ha, hPa, hr⟩ := connB_iff.1 hc
    exact hin a z ha hPa hr
theorem Conn.grow (h : Conn n l q P p) (hne : numOf (mored l n q p) n ≠ numOf p n) : (nw p n).length < (nw (mored l n q p) n).length := by
  obtain ⟨z, hz, hm, hp⟩ : ∃ z, z < n ∧ mored l n q p z = true ∧ p z = false := by
    apply Classical.byContradiction
    intro hno
    refine hne (num_ext fun z hz => ?_)
    rw [Bool.eq_iff_iff]
    constructor
    · intro hm
      cases hp : p z with
      | true => rfl
      | false => exact absurd ⟨z, hz, hm, hp⟩ hno
    · exact h.sub z hz
  have h1 := pput_len hp n
  rw [if_pos hz] at h1
  have h2 := nw_mono (n := n) (p := pput p z) (p' := mored l n q p) (fun y hy hpy => by
    rcases Bool.or_eq_true_iff.1 hpy with h9 | h9
    · exact h.sub y hy h9
    · have := of_decide_eq_true h9
      subst this
      exact hm)
  omega
end

/-- the neighbors behind a node in a filling: G has the nodes gone ahead of it -/
noncomputable def laterB (n : Nat) (l : List Ed) (G : Nat → Bool) (x y : Nat) : Bool :=
  !G y && decide (y ≠ x) && (List.range n).any fun z => reachB n (J2 l) (pput G x) x z && adj l z y
theorem laterB_iff {n : Nat} {l : List Ed} {G : Nat → Bool} {x y : Nat} : laterB n l G x y = true ↔ G y = false ∧ y ≠ x ∧ ∃ z, z < n ∧ Rch n (J2 l) (pput G x) x z ∧ adj l z y = true := by
  unfold laterB
  rw [Bool.and_eq_true, Bool.and_eq_true, List.any_eq_true, decide_eq_true_iff]
  simp only [List.mem_range, Bool.and_eq_true, reachB_iff, Bool.not_eq_true']
  exact and_assoc
noncomputable def bagB (n : Nat) (l : List Ed) (G : Nat → Bool) (x : Nat) : Nat → Bool := pput (laterB n l G x) x
theorem bag_len {n : Nat} {l : List Ed} {G : Nat → Bool} {x : Nat} (hx : x < n) : (nw (bagB n l G x) n).length = (nw (laterB n l G x) n).length + 1 := by
  have h := pput_len (p := laterB n l G x) (y := x) (by
    cases h : laterB n l G x x with
    | false => rfl
    | true => exact absurd rfl (laterB_iff.1 h).2.1) n
  rw [if_pos hx] at h
  exact h
/-- as the program has it -/
theorem bag_is {n : Nat} {l : List Ed} {G : Nat → Bool} {x : Nat} (hx : x < n) (hgx : G x = false) {y : Nat} (hy : y < n) :
    (arB l n (numOf (connB n (J2 l) (pput G x) (fun y => decide (y = x))) n) y && !G y) = bagB n l G x y := by
  have hpp : bagB n l G x y = (laterB n l G x y || decide (y = x)) := rfl
  rw [Bool.eq_iff_iff, Bool.and_eq_true, arB_iff, hpp]
  rw [Bool.or_eq_true, laterB_iff, decide_eq_true_iff]
  constructor
  · rintro ⟨⟨z, hz, hb, he⟩, hG⟩
    rw [numOf_bit, connB_one hx] at hb
    have hr : Rch n (J2 l) (pput G x) x z := by
      rw [Bool.and_eq_true] at hb
      exact reachB_iff.1 hb.2
    by_cases e : y = x
    · exact .inr e
    · refine .inl ⟨by simpa using hG, e, ?_⟩
      rcases he with rfl | he
      · have := hr.inq (by simp [pput])
        rcases Bool.or_eq_true_iff.1 this with h1 | h1
        · rw [h1] at hG; simp at hG
        · exact absurd (of_decide_eq_true h1) e
      · exact ⟨z, hz, hr, he⟩
  · rintro (⟨hG, hne, z, hz, hr, ha⟩ | rfl)
    · refine ⟨⟨z, hz, ?_, .inr ha⟩, by simp [hG]⟩
      rw [numOf_bit, connB_one hx, reachB_iff.2 hr]; simp [hz]
    · refine ⟨⟨y, hx, ?_, .inl rfl⟩, by simp [hgx]⟩
      rw [numOf_bit, connB_one hx, reachB_iff.2 .base]; simp [hx]

/-- the model's search: S has the nodes seen, o those that are out; k of those seen are done, and i neighbors of the next one -/
structure Later (n : Nat) (l : List Ed) (G : Nat → Bool) (x k i : Nat) (S : List Nat) (o : Nat → Bool) : Prop where
  first : S[0]? = some x
  nodup : S.Nodup
  seen : ∀ z ∈ S, z < n ∧ Rch n (J2 l) (pput G x) x z
  done : ∀ j z y : Nat, j < k → S[j]? = some z → y < n → adj l z y = true → y ∈ S ∨ o y = true
  now : ∀ z y j : Nat, S[k]? = some z → j < i → (nw (fun y => adj l z y) n)[j]? = some (y : Int) → y ∈ S ∨ o y = true
  sound : ∀ y, o y = true → y < n ∧ G y = false ∧ y ≠ x ∧ ∃ z ∈ S, adj l z y = true
section
variable {n : Nat} {l : List Ed} {G : Nat → Bool} {x k i : Nat} {S : List Nat} {o : Nat → Bool}
theorem nodup_len : ∀ {S : List Nat}, S.Nodup → (∀ z ∈ S, z < n) → S.length ≤ n := fun {S} h hz => by
  have := h.length_le_of_subset (l₂ := List.range n) (fun z hm => List.mem_range.2 (hz z hm))
  simpa using this
theorem Later.len (h : Later n l G x k i S o) : S.length ≤ n := nodup_len h.nodup fun z hz => (h.seen z hz).1
theorem Later.start (hx : x < n) : Later n l G x 0 0 [x] (fun _ => false) where
  first := rfl
  nodup := by simp
  seen := fun z hz => by rw [List.mem_singleton] at hz; subst hz; exact ⟨hx, .base⟩
  done := fun j _ _ hj => by omega
  now := fun _ _ j _ hj => by omega
  sound := fun _ h => by cases h
theorem Later.seen_old {y : Nat} (h : Later n l G x k i S o) (hy : y ∈ S) : y = x ∨ G y = true := by
  have := (h.seen y hy).2.inq (by simp [pput])
  rcases Bool.or_eq_true_iff.1 this with h1 | h1
  · exact .inr h1
  · exact .inl (of_decide_eq_true h1)
/-- one that was seen -/
theorem Later.skip {z y : Nat} (h : Later n l G x k i S o) (hz : S[k]? = some z) (hy : (nw (fun y => adj l z y) n)[i]? = some (y : Int)) (hm : y ∈ S) : Later n l G x k (i + 1) S o :=
  { h with
    now := fun z' y' j hz' hj hy' => by
      by_cases e : j = i
      · subst e
        rw [hz] at hz'; cases hz'
        rw [hy] at hy'
        have : (y : Int) = (y' : Int) := by simpa using hy'
        obtain rfl : y = y' := by omega
        exact .inl hm
      · exact h.now z' y' j hz' (by omega) hy' }
theorem Later.next {z : Nat} (h : Later n l G x k i S o) (hz : S[k]? = some z) (hi : (nw (fun y => adj l z y) n).length ≤ i) : Later n l G x (k + 1) 0 S o :=
  { h with
    done := fun j z' y hj hz' hy ha => by
      by_cases e : j = k
      · subst e
        rw [hz] at hz'; cases hz'
        obtain ⟨m, hm, hmy⟩ := at_nw (p := fun y => adj l z y) ha hy
        exact h.now z y m hz (by omega) hmy
      · exact h.done j z' y (by omega) hz' hy ha
    now := fun _ _ j _ hj => by omega }
theorem Later.see {z y : Nat} (h : Later n l G x k i S o) (hz : S[k]? = some z) (hy : (nw (fun y => adj l z y) n)[i]? = some (y : Int)) (hm : y ∉ S) (hG : G y = true) : Later n l G x k (i + 1) (S ++ [y]) o := by
  obtain ⟨y', e', hyn, ha⟩ := nw_at hy
  obtain rfl : y = y' := by omega
  have hzS := List.mem_of_getElem? hz
  have hk := (List.getElem?_eq_some_iff.1 hz).1
  have old : ∀ j v, j ≤ k → (S ++ [y])[j]? = some v → S[j]? = some v := fun j v hj hv => by rwa [List.getElem?_append_left (by omega)] at hv
  exact {
    first := by rw [List.getElem?_append_left (by omega)]; exact h.first
    nodup := by
      rw [List.nodup_append]
      exact ⟨h.nodup, by simp, fun a ha b hb e => by rw [List.mem_singleton] at hb; rw [e, hb] at ha; exact hm ha⟩
    seen := fun v hv => by
      rcases List.mem_append.1 hv with hv | hv
      · exact h.seen v hv
      · rw [List.mem_singleton] at hv
        subst hv
        exact ⟨hyn, .step (h.seen z hzS).2 ha (by simp [pput, hG]) hyn⟩
    done := fun j v u hj hv hu hvu => by
      rcases h.done j v u hj (old j v (by omega) hv) hu hvu with h1 | h1
      · exact .inl (by simp [h1])
      · exact .inr h1
    now := fun v u j hv hj hu => by
      have hv' := old k v (Nat.le_refl _) hv
      by_cases e : j = i
      · subst e
        rw [hz] at hv'; cases hv'
        rw [hy] at hu
        have : (y : Int) = (u : Int) := by simpa using hu
        obtain rfl : y = u := by omega
        exact .inl (by simp)
      · rcases h.now v u j hv' (by omega) hu with h1 | h1
        · exact .inl (by simp [h1])
        · exact .inr h1
    sound := fun u hu => by
      obtain ⟨h1, h2, h3, v, hv, h4⟩ := h.sound u hu
      exact ⟨h1, h2, h3, v, by simp [hv], h4⟩ }
theorem Later.put {z y : Nat} (h : Later n l G x k i S o) (hz : S[k]? = some z) (hy : (nw (fun y => adj l z y) n)[i]? = some (y : Int)) (hm : y ∉ S) (hG : G y = false) : Later n l G x k (i + 1) S (pput o y) := by
  obtain ⟨y', e', hyn, ha⟩ := nw_at hy
  obtain rfl : y = y' := by omega
  have hzS := List.mem_of_getElem? hz
  have hxS : x ∈ S := List.mem_of_getElem? h.first
  exact { h with
    done := fun j v u hj hv hu hvu => by
      rcases h.done j v u hj hv hu hvu with h1 | h1
      · exact .inl h1
      · exact .inr (by simp [pput, h1])
    now := fun v u j hv hj hu => by
      by_cases e : j = i
      · subst e
        rw [hz] at hv; cases hv
        rw [hy] at hu
        have : (y : Int) = (u : Int) := by simpa using hu
        obtain rfl : y = u := by omega
        exact .inr (by simp [pput])
      · rcases h.now v u j hv (by omega) hu with h1 | h1
        · exact .inl h1
        · exact .inr (by simp [pput, h1])
    sound := fun u hu => by
      rcases Bool.or_eq_true_iff.1 hu with h1 | h1
      · exact h.sound u h1
      · have := of_decide_eq_true h1
        subst this
        exact ⟨hyn, hG, fun e => hm (e ▸ hxS), z, hzS, ha⟩ }
theorem Later.all (h : Later n l G x S.length i S o) (hx : x < n) : nw o n = nw (laterB n l G x) n := by
  have hcl : ∀ z, Rch n (J2 l) (pput G x) x z → z ∈ S := by
    intro z hr
    induction hr with
    | base => exact List.mem_of_getElem? h.first
    | step ha hJ hqb hb ih =>
      obtain ⟨j, hj⟩ := List.getElem?_of_mem ih
      rcases h.done j _ _ (List.getElem?_eq_some_iff.1 hj).1 hj hb hJ with h1 | h1
      · exact h1
      · obtain ⟨_, h2, h3, _⟩ := h.sound _ h1
        rcases Bool.or_eq_true_iff.1 hqb with h4 | h4
        · rw [h2] at h4; cases h4
        · exact absurd (of_decide_eq_true h4) h3
  refine reach.nw_congr fun y hy => ?_
  rw [Bool.eq_iff_iff, laterB_iff]
  constructor
  · intro ho
    obtain ⟨_, h2, h3, z, hz, h4⟩ := h.sound y ho
    exact ⟨h2, h3, z, (h.seen z hz).1, (h.seen z hz).2, h4⟩
  · rintro ⟨h2, h3, z, hz, hr, ha⟩
    obtain ⟨j, hj⟩ := List.getElem?_of_mem (hcl z hr)
    rcases h.done j z y (List.getElem?_eq_some_iff.1 hj).1 hj hy ha with h1 | h1
    · rcases h.seen_old h1 with h5 | h5
      · exact absurd h5 h3
      · rw [h2] at h5; cases h5
    · exact h1
end
end Go.Proofs.YtdhbaegkogklgaaDoor.bags

/- Plain mathematics of distances: what makes a list the distances from a node, why there is one such list alone, and the two ways to find it. It imports nothing of the program. -/
namespace Go.Proofs.YtdhbaegkogklgaaDoor.P2
open Go

/-- D tells the distances from x among n nodes by the test J, -1 where there is no way -/
structure IsDist (n : Nat) (J : Nat → Nat → Bool) (x : Nat) (D : Nat → Int) : Prop where
  at0 : D x = 0
  only : ∀ y, y < n → D y = 0 → y = x
  low : ∀ y, y < n → -1 ≤ D y
  step : ∀ y z, y < n → z < n → 0 ≤ D y → J y z = true → 0 ≤ D z ∧ D z ≤ D y + 1
  back : ∀ z, z < n → 0 < D z → ∃ y, y < n ∧ D y = D z - 1 ∧ J y z = true

theorem IsDist.le {n : Nat} {J : Nat → Nat → Bool} {x : Nat} {D E : Nat → Int} (h : IsDist n J x D) (k : IsDist n J x E) : ∀ (m : Nat) z, z < n → E z = m → 0 ≤ D z ∧ D z ≤ m
  | 0, z, hz, e => by
    obtain rfl := k.only z hz e
    rw [h.at0]; omega
  | m + 1, z, hz, e => by
    obtain ⟨y, hy, ey, hj⟩ := k.back z hz (by omega)
    have := IsDist.le h k m y hy (by omega)
    have := h.step y z hy hz this.1 hj
    omega
theorem IsDist.eq {n : Nat} {J : Nat → Nat → Bool} {x : Nat} {D E : Nat → Int} (h : IsDist n J x D) (k : IsDist n J x E) (z : Nat) (hz : z < n) : D z = E z := by
  have a := h.low z hz
  have b := k.low z hz
  by_cases h1 : 0 ≤ D z
  · have := k.le h (D z).toNat z hz (by omega)
    have := h.le k (E z).toNat z hz (by omega)
    omega
  · by_cases h2 : 0 ≤ E z
    · have := h.le k (E z).toNat z hz (by omega)
      omega
    · omega

theorem dist_chain {n : Nat} {J : Nat → Nat → Bool} {D : Nat → Int} (back : ∀ z, z < n → 0 < D z → ∃ y, y < n ∧ D y = D z - 1 ∧ J y z = true) :
    ∀ (k : Nat) z, z < n → D z = k → ∃ f : Nat → Nat, ∀ j, j ≤ k → f j < n ∧ D (f j) = j
  | 0, z, hz, e => ⟨fun _ => z, fun j hj => ⟨hz, by rw [e]; omega⟩⟩
  | k + 1, z, hz, e => by
    obtain ⟨y, hy, ey, _⟩ := back z hz (by omega)
    obtain ⟨f, hf⟩ := dist_chain back k y hy (by omega)
    refine ⟨fun j => if j = k + 1 then z else f j, fun j hj => ?_⟩
    by_cases hk : j = k + 1
    · simp only [hk, if_true]; exact ⟨hz, by rw [e]⟩
    · simp only [hk, if_false]; exact hf j (by omega)
theorem dist_small {n : Nat} {J : Nat → Nat → Bool} {D : Nat → Int} (back : ∀ z, z < n → 0 < D z → ∃ y, y < n ∧ D y = D z - 1 ∧ J y z = true) {z : Nat} (hz : z < n) : D z < n := by
  rcases (show D z < 0 ∨ 0 ≤ D z from by omega) with h0 | h0
  · omega
  · obtain ⟨f, hf⟩ := dist_chain back (D z).toNat z hz (by omega)
    have hnd : ((List.range ((D z).toNat + 1)).map f).Nodup := by
      rw [List.Nodup, List.pairwise_map]
      refine (List.pairwise_lt_range (n := (D z).toNat + 1)).imp_of_mem ?_
      intro a b ha hb hlt he
      have h1 := (hf a (by have := List.mem_range.1 ha; omega)).2
      have h2 := (hf b (by have := List.mem_range.1 hb; omega)).2
      rw [he] at h1
      omega
    have hsub : (List.range ((D z).toNat + 1)).map f ⊆ List.range n := by
      intro a ha
      obtain ⟨j, hj, rfl⟩ := List.mem_map.1 ha
      exact List.mem_range.2 (hf j (by have := List.mem_range.1 hj; omega)).1
    have := hnd.length_le_of_subset hsub
    simp only [List.length_map, List.length_range] at this
    omega

/-- a list of numbers as a function -/
def fn (D : List Int) (y : Nat) : Int := D.getD y 0
theorem fn_at {D : List Int} {y : Nat} {u : Int} (h : D[y]? = some u) : fn D y = u := by simp [fn, h]
theorem fn_get {D : List Int} {y : Nat} (h : y < D.length) : D[y]? = some (fn D y) := by simp [fn, h]
theorem fn_set {D : List Int} {z : Nat} (hz : z < D.length) (u : Int) (y : Nat) : fn (D.set z u) y = if y = z then u else fn D y := by
  unfold fn
  by_cases h : y = z
  · subst h; simp [hz]
  · rw [if_neg h, List.getD_eq_getElem?_getD, List.getElem?_set_ne (by omega), ← List.getD_eq_getElem?_getD]
theorem list_ext_fn {D E : List Int} {n : Nat} (hD : D.length = n) (hE : E.length = n) (h : ∀ y, y < n → fn D y = fn E y) : D = E := by
  apply List.ext_getElem?
  intro y
  by_cases hy : y < n
  · rw [fn_get (by omega), fn_get (by omega), h y hy]
  · rw [List.getElem?_eq_none (by omega), List.getElem?_eq_none (by omega)]

/-- the distances from x, a list -/
noncomputable def dist (n : Nat) (J : Nat → Nat → Bool) (x : Nat) : List Int := Classical.epsilon fun D => D.length = n ∧ IsDist n J x (fn D)
theorem dist_eq {n : Nat} {J : Nat → Nat → Bool} {x : Nat} {D : List Int} (hD : D.length = n) (h : IsDist n J x (fn D)) : dist n J x = D := by
  have := Classical.epsilon_spec (p := fun D : List Int => D.length = n ∧ IsDist n J x (fn D)) ⟨D, hD, h⟩
  exact list_ext_fn this.1 hD (fun y hy => this.2.eq h y hy)

/-- layer by layer: the layers below d are done -/
structure IsPart (n : Nat) (J : Nat → Nat → Bool) (x : Nat) (d : Nat) (D : Nat → Int) : Prop where
  at0 : D x = 0
  only : ∀ y, y < n → D y = 0 → y = x
  low : ∀ y, y < n → -1 ≤ D y ∧ D y ≤ d
  step : ∀ y z, y < n → z < n → 0 ≤ D y → D y < d → J y z = true → 0 ≤ D z ∧ D z ≤ D y + 1
  back : ∀ z, z < n → 0 < D z → ∃ y, y < n ∧ D y = D z - 1 ∧ J y z = true
theorem IsPart.zero {n : Nat} (J : Nat → Nat → Bool) {x : Nat} (D : Nat → Int) (h0 : D x = 0) (h1 : ∀ y, y < n → y ≠ x → D y = -1) : IsPart n J x 0 D where
  at0 := h0
  only := fun y hy e => by
    apply Classical.byContradiction
    intro hne
    have := h1 y hy hne
    omega
  low := fun y hy => by
    by_cases e : y = x
    · subst e; omega
    · have := h1 y hy e; omega
  step := fun y z _ _ h h' _ => by omega
  back := fun z hz h => by
    by_cases e : z = x
    · subst e; omega
    · have := h1 z hz e; omega
theorem IsPart.done {n : Nat} {J : Nat → Nat → Bool} {x : Nat} {D : Nat → Int} (h : IsPart n J x n D) : IsDist n J x D where
  at0 := h.at0
  only := h.only
  low := fun y hy => (h.low y hy).1
  step := fun y z hy hz h0 hj => h.step y z hy hz h0 (dist_small h.back hy) hj
  back := h.back
/-- in the midst of layer d: the pairs of nodes less than (a, b) are done -/
structure IsMid (n : Nat) (J : Nat → Nat → Bool) (x d a b : Nat) (D : Nat → Int) : Prop where
  at0 : D x = 0
  only : ∀ y, y < n → D y = 0 → y = x
  low : ∀ y, y < n → -1 ≤ D y ∧ D y ≤ d + 1
  step : ∀ y z, y < n → z < n → 0 ≤ D y → D y < d → J y z = true → 0 ≤ D z ∧ D z ≤ D y + 1
  pair : ∀ y z, y < n → z < n → (y < a ∨ (y = a ∧ z < b)) → D y = d → J y z = true → 0 ≤ D z
  back : ∀ z, z < n → 0 < D z → ∃ y, y < n ∧ D y = D z - 1 ∧ J y z = true
theorem IsPart.mid {n : Nat} {J : Nat → Nat → Bool} {x d : Nat} {D : Nat → Int} (h : IsPart n J x d D) : IsMid n J x d 0 0 D where
  at0 := h.at0
  only := h.only
  low := fun y hy => ⟨(h.low y hy).1, by have := (h.low y hy).2; omega⟩
  step := h.step
  pair := fun y z _ _ hl => by omega
  back := h.back
theorem IsMid.next {n : Nat} {J : Nat → Nat → Bool} {x d a : Nat} {D : Nat → Int} (h : IsMid n J x d a n D) : IsMid n J x d (a + 1) 0 D where
  at0 := h.at0
  only := h.only
  low := h.low
  step := h.step
  pair := fun y z hy hz hl => h.pair y z hy hz (by omega)
  back := h.back
theorem IsMid.done {n : Nat} {J : Nat → Nat → Bool} {x d : Nat} {D : Nat → Int} (h : IsMid n J x d n 0 D) : IsPart n J x (d + 1) D where
  at0 := h.at0
  only := h.only
  low := fun y hy => ⟨(h.low y hy).1, by have := (h.low y hy).2; omega⟩
  step := fun y z hy hz h0 hd hj => by
    by_cases e : D y = d
    · have h1 := h.pair y z hy hz (.inl (by omega)) e hj
      have h2 := h.low z hz
      omega
    · exact h.step y z hy hz h0 (by omega) hj
  back := h.back
theorem IsMid.skip {n : Nat} {J : Nat → Nat → Bool} {x d a b : Nat} {D : Nat → Int} (h : IsMid n J x d a b D) (hn : ¬ (D a = d ∧ D b < 0 ∧ J a b = true)) : IsMid n J x d a (b + 1) D where
  at0 := h.at0
  only := h.only
  low := h.low
  step := h.step
  pair := fun y z hy hz hl hd hj => by
    by_cases e : y = a ∧ z = b
    · obtain ⟨rfl, rfl⟩ := e
      apply Classical.byContradiction
      intro h0
      exact hn ⟨hd, by omega, hj⟩
    · exact h.pair y z hy hz (by omega) hd hj
  back := h.back
theorem IsMid.put {n : Nat} {J : Nat → Nat → Bool} {x d a b : Nat} {D : Nat → Int} (h : IsMid n J x d a b D) (ha : a < n) (hd : D a = d) (hb : D b < 0) (hj : J a b = true) :
    IsMid n J x d a (b + 1) (fun y => if y = b then (d : Int) + 1 else D y) where
  at0 := by
    have := h.at0
    rw [if_neg (by intro e; subst e; omega)]; exact this
  only := fun y hy e => by
    by_cases eb : y = b
    · rw [if_pos eb] at e; omega
    · rw [if_neg eb] at e; exact h.only y hy e
  low := fun y hy => by
    by_cases eb : y = b
    · rw [if_pos eb]; omega
    · rw [if_neg eb]; exact h.low y hy
  step := fun y z hy hz h0 hlt hyz => by
    by_cases ey : y = b
    · rw [if_pos ey] at hlt; omega
    · rw [if_neg ey] at h0 hlt ⊢
      have := h.step y z hy hz h0 hlt hyz
      by_cases ez : z = b
      · subst ez; omega
      · rw [if_neg ez]; exact this
  pair := fun y z hy hz hl hyd hyz => by
    by_cases ez : z = b
    · rw [if_pos ez]; omega
    · rw [if_neg ez]
      by_cases ey : y = b
      · rw [if_pos ey] at hyd; omega
      · rw [if_neg ey] at hyd
        exact h.pair y z hy hz (by omega) hyd hyz
  back := fun z hz h0 => by
    by_cases ez : z = b
    · subst ez
      rw [if_pos rfl]
      exact ⟨a, ha, by rw [if_neg (by intro e; subst e; omega)]; omega, hj⟩
    · rw [if_neg ez] at h0 ⊢
      obtain ⟨y, hy, ey, hyz⟩ := h.back z hz h0
      exact ⟨y, hy, by rw [if_neg (by intro e; subst e; omega)]; exact ey, hyz⟩

/-- a queue: the nodes of Q are found, and what they lead to is still to be looked at -/
structure IsBfs (n : Nat) (J : Nat → Nat → Bool) (x : Nat) (D : Nat → Int) (Q : List Nat) : Prop where
  at0 : D x = 0
  only : ∀ y, y < n → D y = 0 → y = x
  low : ∀ y, y < n → -1 ≤ D y
  back : ∀ z, z < n → 0 < D z → ∃ y, y < n ∧ D y = D z - 1 ∧ J y z = true
  inq : ∀ q, q ∈ Q → q < n ∧ 0 ≤ D q
  sorted : Q.Pairwise fun a b => D a ≤ D b
  top : ∀ q, q ∈ Q → ∀ y, y < n → D y ≤ D q + 1
  step : ∀ y z, y < n → z < n → 0 ≤ D y → y ∉ Q → J y z = true → 0 ≤ D z ∧ D z ≤ D y + 1
theorem IsBfs.start {n : Nat} (J : Nat → Nat → Bool) {x : Nat} (hx : x < n) (D : Nat → Int) (h0 : D x = 0) (h1 : ∀ y, y < n → y ≠ x → D y = -1) : IsBfs n J x D [x] where
  at0 := h0
  only := fun y hy e => by
    apply Classical.byContradiction
    intro hne
    have := h1 y hy hne
    omega
  low := fun y hy => by
    by_cases e : y = x
    · subst e; omega
    · have := h1 y hy e; omega
  back := fun z hz h => by
    by_cases e : z = x
    · subst e; omega
    · have := h1 z hz e; omega
  inq := fun q hq => by simp at hq; subst hq; exact ⟨hx, by omega⟩
  sorted := by simp
  top := fun q hq y hy => by
    simp at hq; subst hq
    by_cases e : y = q
    · subst e; omega
    · have := h1 y hy e; omega
  step := fun y z hy hz h hq _ => by
    by_cases e : y = x
    · subst e; simp at hq
    · have := h1 y hy e; omega
theorem IsBfs.done {n : Nat} {J : Nat → Nat → Bool} {x : Nat} {D : Nat → Int} (h : IsBfs n J x D []) : IsDist n J x D where
  at0 := h.at0
  only := h.only
  low := h.low
  back := h.back
  step := fun y z hy hz h0 hj => h.step y z hy hz h0 (by simp) hj
/-- node a is being looked at, the nodes less than b are done -/
structure IsLook (n : Nat) (J : Nat → Nat → Bool) (x a b : Nat) (D : Nat → Int) (Q : List Nat) : Prop where
  at0 : D x = 0
  only : ∀ y, y < n → D y = 0 → y = x
  low : ∀ y, y < n → -1 ≤ D y
  back : ∀ z, z < n → 0 < D z → ∃ y, y < n ∧ D y = D z - 1 ∧ J y z = true
  inq : ∀ q, q ∈ Q → q < n ∧ D a ≤ D q
  sorted : Q.Pairwise fun a b => D a ≤ D b
  top : ∀ y, y < n → D y ≤ D a + 1
  here : a < n ∧ 0 ≤ D a
  step : ∀ y z, y < n → z < n → 0 ≤ D y → y ∉ Q → y ≠ a → J y z = true → 0 ≤ D z ∧ D z ≤ D y + 1
  seen : ∀ z, z < n → z < b → J a z = true → 0 ≤ D z
theorem IsBfs.look {n : Nat} {J : Nat → Nat → Bool} {x a : Nat} {D : Nat → Int} {Q : List Nat} (h : IsBfs n J x D (a :: Q)) : IsLook n J x a 0 D Q where
  at0 := h.at0
  only := h.only
  low := h.low
  back := h.back
  inq := fun q hq => ⟨(h.inq q (by simp [hq])).1, (List.pairwise_cons.1 h.sorted).1 q hq⟩
  sorted := (List.pairwise_cons.1 h.sorted).2
  top := h.top a (by simp)
  here := h.inq a (by simp)
  step := fun y z hy hz h0 hq ha hj => h.step y z hy hz h0 (by simp [ha, hq]) hj
  seen := fun z _ hb => by omega
theorem IsLook.done {n : Nat} {J : Nat → Nat → Bool} {x a : Nat} {D : Nat → Int} {Q : List Nat} (h : IsLook n J x a n D Q) : IsBfs n J x D Q where
  at0 := h.at0
  only := h.only
  low := h.low
  back := h.back
  inq := fun q hq => ⟨(h.inq q hq).1, by have := (h.inq q hq).2; have := h.here.2; omega⟩
  sorted := h.sorted
  top := fun q hq y hy => by have := (h.inq q hq).2; have := h.top y hy; omega
  step := fun y z hy hz h0 hq hj => by
    by_cases e : y = a
    · subst e; exact ⟨h.seen z hz hz hj, h.top z hz⟩
    · exact h.step y z hy hz h0 hq e hj
theorem IsLook.skip {n : Nat} {J : Nat → Nat → Bool} {x a b : Nat} {D : Nat → Int} {Q : List Nat} (h : IsLook n J x a b D Q) (hn : ¬ (J a b = true ∧ D b < 0)) : IsLook n J x a (b + 1) D Q where
  at0 := h.at0
  only := h.only
  low := h.low
  back := h.back
  inq := h.inq
  sorted := h.sorted
  top := h.top
  here := h.here
  step := h.step
  seen := fun z hz hb hj => by
    by_cases e : z = b
    · subst e
      apply Classical.byContradiction
      intro h0
      exact hn ⟨hj, by omega⟩
    · exact h.seen z hz (by omega) hj
theorem IsLook.put {n : Nat} {J : Nat → Nat → Bool} {x a b : Nat} {D : Nat → Int} {Q : List Nat} (h : IsLook n J x a b D Q) (hb : b < n) (hj : J a b = true) (h0 : D b < 0) :
    IsLook n J x a (b + 1) (fun y => if y = b then D a + 1 else D y) (Q ++ [b]) := by
  have hab : a ≠ b := by intro e; subst e; have := h.here.2; omega
  have hxb : x ≠ b := by intro e; subst e; have := h.at0; omega
  have hQ : ∀ q, q ∈ Q → q ≠ b := fun q hq e => by subst e; have := (h.inq q hq).2; have := h.here.2; omega
  constructor
  · rw [if_neg hxb]; exact h.at0
  · intro y hy e
    by_cases eb : y = b
    · rw [if_pos eb] at e; have := h.here.2; omega
    · rw [if_neg eb] at e; exact h.only y hy e
  · intro y hy
    by_cases eb : y = b
    · rw [if_pos eb]; have := h.here.2; omega
    · rw [if_neg eb]; exact h.low y hy
  · intro z hz hp
    by_cases ez : z = b
    · subst ez
      refine ⟨a, h.here.1, ?_, hj⟩
      rw [if_neg hab, if_pos rfl]; omega
    · rw [if_neg ez] at hp ⊢
      obtain ⟨y, hy, ey, hyz⟩ := h.back z hz hp
      exact ⟨y, hy, by rw [if_neg (by intro e; subst e; omega)]; exact ey, hyz⟩
  · intro q hq
    rw [if_neg hab]
    rcases List.mem_append.1 hq with hq | hq
    · rw [if_neg (hQ q hq)]; exact h.inq q hq
    · simp at hq; subst hq; rw [if_pos rfl]; exact ⟨hb, by omega⟩
  · rw [List.pairwise_append]
    refine ⟨?_, by simp, ?_⟩
    · refine h.sorted.imp_of_mem ?_
      intro p q hp hq hpq
      rw [if_neg (hQ p hp), if_neg (hQ q hq)]; exact hpq
    · intro p hp q hq
      simp at hq; subst hq
      rw [if_neg (hQ p hp), if_pos rfl]
      exact h.top p (h.inq p hp).1
  · intro y hy
    rw [if_neg hab]
    by_cases eb : y = b
    · rw [if_pos eb]; omega
    · rw [if_neg eb]; exact h.top y hy
  · rw [if_neg hab]; exact h.here
  · intro y z hy hz hp hq hya hyz
    have hyb : y ≠ b := fun e => hq (by simp [e])
    rw [if_neg hyb] at hp ⊢
    have := h.step y z hy hz hp (fun hh => hq (by simp [hh])) hya hyz
    by_cases ez : z = b
    · subst ez; omega
    · rw [if_neg ez]; exact this
  · intro z hz hzb hyz
    by_cases ez : z = b
    · rw [if_pos ez]; have := h.here.2; omega
    · rw [if_neg ez]; exact h.seen z hz (by omega) hyz
end Go.Proofs.YtdhbaegkogklgaaDoor.P2

/- Distances are there; balls told by them. -/
namespace Go.Proofs.YtdhbaegkogklgaaDoor.P2

theorem IsMid.some {n : Nat} (J : Nat → Nat → Bool) {x d a : Nat} (ha : a < n) (h : ∃ D, IsMid n J x d a 0 D) : ∀ b, b ≤ n → ∃ D, IsMid n J x d a b D
  | 0, _ => h
  | b + 1, hb => by
    obtain ⟨D, hD⟩ := IsMid.some J ha h b (by omega)
    by_cases hc : D a = d ∧ D b < 0 ∧ J a b = true
    · exact ⟨_, hD.put ha hc.1 hc.2.1 hc.2.2⟩
    · exact ⟨_, hD.skip hc⟩
theorem IsPart.some_mid {n : Nat} (J : Nat → Nat → Bool) {x d : Nat} (h : ∃ D, IsPart n J x d D) : ∀ a, a ≤ n → ∃ D, IsMid n J x d a 0 D
  | 0, _ => by obtain ⟨D, hD⟩ := h; exact ⟨D, hD.mid⟩
  | a + 1, ha => by
    obtain ⟨D, hD⟩ := IsMid.some J (by omega) (IsPart.some_mid J h a (by omega)) n (Nat.le_refl _)
    exact ⟨D, hD.next⟩
theorem IsPart.some {n : Nat} (J : Nat → Nat → Bool) (x : Nat) : ∀ d, ∃ D, IsPart n J x d D
  | 0 => ⟨fun y => if y = x then 0 else -1, IsPart.zero J _ (by simp) (fun y _ hy => by simp [hy])⟩
  | d + 1 => by
    obtain ⟨D, hD⟩ := IsPart.some_mid J (IsPart.some J x d) n (Nat.le_refl _)
    exact ⟨D, hD.done⟩
theorem fn_map {n : Nat} (D : Nat → Int) {y : Nat} (hy : y < n) : fn ((List.range n).map D) y = D y := by simp [fn, List.getD_eq_getElem?_getD, hy]
theorem IsDist.congr {n : Nat} {J : Nat → Nat → Bool} {x : Nat} {D E : Nat → Int} (h : IsDist n J x D) (hx : x < n) (he : ∀ y, y < n → E y = D y) : IsDist n J x E where
  at0 := by rw [he x hx]; exact h.at0
  only := fun y hy e => h.only y hy (by rw [← he y hy]; exact e)
  low := fun y hy => by rw [he y hy]; exact h.low y hy
  step := fun y z hy hz h0 hj => by rw [he y hy] at h0 ⊢; rw [he z hz]; exact h.step y z hy hz h0 hj
  back := fun z hz h0 => by
    rw [he z hz] at h0
    obtain ⟨y, hy, e, hj⟩ := h.back z hz h0
    exact ⟨y, hy, by rw [he y hy, he z hz]; exact e, hj⟩
theorem dist_spec {n : Nat} (J : Nat → Nat → Bool) {x : Nat} (hx : x < n) : (dist n J x).length = n ∧ IsDist n J x (fn (dist n J x)) := by
  obtain ⟨D, hD⟩ := IsPart.some (n := n) J x n
  exact Classical.epsilon_spec (p := fun D : List Int => D.length = n ∧ IsDist n J x (fn D)) ⟨(List.range n).map D, by simp, hD.done.congr hx (fun y hy => fn_map D hy)⟩
theorem dist_len {n : Nat} (J : Nat → Nat → Bool) {x : Nat} (hx : x < n) : (dist n J x).length = n := (dist_spec J hx).1
theorem dist_lt {n : Nat} (J : Nat → Nat → Bool) {x y : Nat} (hx : x < n) (hy : y < n) : -1 ≤ fn (dist n J x) y ∧ fn (dist n J x) y < n :=
  ⟨(dist_spec J hx).2.low y hy, dist_small (dist_spec J hx).2.back hy⟩
end Go.Proofs.YtdhbaegkogklgaaDoor.P2

/- What a law keeps of the slices that it has got: who owns which blocks; marks turn these alone. -/
namespace Go.Proofs.YtdhbaegkogklgaaDoor.owns
open Go.RowKit P2 words edges ints

/-- w' is w but for blocks from B on and below S, and new ones -/
structure Turned (B S : Nat) (w w' : World) : Prop where
  os : w'.os = w.os
  tape : w'.tape = w.tape
  output : w'.output = w.output
  size : w.heap.size ≤ w'.heap.size
  block : ∀ k, k < w.heap.size → (k < B ∨ S ≤ k) → w'.heap[k]? = w.heap[k]?
theorem Turned.below {B S N : Nat} {w w' : World} (h : Turned B S w w') (hN : N ≤ B) (hB : N ≤ w.heap.size) : Below N w w' :=
  ⟨h.os, h.tape, h.output, h.size, fun k hk => h.block k (by omega) (.inl (by omega))⟩
theorem turned_of {w w' : World} {B S : Nat} {v : Value} (hg : w.grownBy w' v.ownBlock) (h1 : ∀ k, v.ownBlock = some k → B ≤ k ∧ k < S) : Turned B S w w' :=
  ⟨hg.os, hg.tape, hg.output, hg.size, fun k hk h => hg.block k hk (fun e => by have := h1 k e.symm; omega)⟩

def OwnR (B S : Nat) (w : World) (t : TypeId) (size : Nat) (v : Value) (n : Nat) (xs : List Value) : Prop := w.ownsRow B t size v n xs ∧ ∀ k, v.ownBlock = some k → k < S
abbrev OwnI (B S : Nat) (w : World) (v : Value) (l : List Int) : Prop := OwnR B S w 3 1 v l.length (cellsI l)
abbrev OwnE (B S : Nat) (w : World) (v : Value) (l : List Ed) : Prop := OwnR B S w 111 2 v l.length (cellsE l)

section
variable {w w' : World} {B S B' S' : Nat} {t : TypeId} {size : Nat} {v : Value} {n : Nat} {xs : List Value}
theorem OwnR.new (h : w.ownsRow B t size v n xs) : OwnR B w.heap.size w t size v n xs := ⟨h, fun k hk => (h.lt k hk).2⟩
theorem OwnR.below (h : OwnR B S w t size v n xs) (hb : Below w.heap.size w w') : OwnR B S w' t size v n xs := ⟨own_below h.1 hb, h.2⟩
theorem OwnR.turned (h : OwnR B S w t size v n xs) (ht : Turned B' S' w w') (hd : S ≤ B' ∨ S' ≤ B) : OwnR B S w' t size v n xs := by
  refine ⟨⟨h.1.1, ?_⟩, h.2⟩
  rcases h.1.2 with hn | ⟨g, cap, cur, rfl, hb, hgg, rest⟩
  · exact .inl hn
  · refine .inr ⟨g, cap, cur, rfl, hb, ?_, rest⟩
    have hS := h.2 g rfl
    rw [ht.block g (Array.getElem?_eq_some_iff.1 hgg).1 (by omega)]
    exact hgg
theorem OwnR.reads (h : OwnR B S w t size v n xs) : Reads w size v n xs := Reads.of_own h.1
theorem OwnR.lt (h : OwnR B S w t size v n xs) : ∀ k, v.ownBlock = some k → B ≤ k ∧ k < S := fun k hk => ⟨(h.1.lt k hk).1, h.2 k hk⟩
end
theorem blk_turned {w w' : World} {B S g : Nat} {t : TypeId} {cs : Array Value} (h : Blk w g t cs) (ht : Turned B S w w') (hg : g < B ∨ S ≤ g) : Blk w' g t cs := (ht.block g h.lt hg).trans h

theorem markIntS_own (v : Value) (l : List Int) (B S m : Nat) (w : World) (h : OwnI B S w v l) (hl : m + l.length ≤ 10000000) :
    Calls Tryd.prog 19 #[v, .int .i64 (m : Int)] w fun e w' => e = .returned (.int .i64 ((m + l.length : Nat) : Int)) ∧ OwnR B S w' 3 1 v l.length (cellsI (marksI m l.length)) ∧ Turned B S w w' :=
  (markIntS_any v l B m w h.1 hl).mono fun _ _ ⟨h1, h2, h3⟩ => ⟨h1, ⟨h2, h.2⟩, turned_of h3 h.lt⟩
theorem heldIntS_own (v : Value) (n B S m : Nat) (w : World) (h : OwnR B S w 3 1 v n (cellsI (marksI m n))) (hl : m + n ≤ 10000000) :
    Calls Tryd.prog 20 #[v, .int .i64 (m : Int)] w fun e w' => e = .returned (.int .i64 ((m + n : Nat) : Int)) ∧ Below w.heap.size w w' :=
  (heldIntS_any v n m w (by have := h.reads; unfold Ints; rw [marksI_len]; exact this) hl).mono fun _ _ ⟨h1, h2⟩ => ⟨h1, h2 ▸ Below.refl _ _⟩
theorem eqIntS_own (a b : Value) (l : List Int) (w : World) (ha : Ints w a l) (hb : Ints w b l) (hl : l.length ≤ 1048576) :
    Calls Tryd.prog 15 #[a, b] w fun e w' => e = .returned (.bool true) ∧ Below w.heap.size w w' :=
  (eqIntS_yes a b l w ha hb hl).mono fun _ _ ⟨h1, m, h2⟩ => ⟨h1, h2 ▸ below_drewN (Below.refl _ _) m⟩
theorem markGraph_own (s : Int) (v : Value) (l : List Ed) (B S m : Nat) (w : World) (h : OwnE B S w v l) (hl : m + 2 * l.length ≤ 10000000) :
    Calls Tryd.prog 18 #[.agg #[.int .i64 s, v], .int .i64 (m : Int)] w fun e w' => e = .returned (.int .i64 ((m + 2 * l.length : Nat) : Int)) ∧ OwnR B S w' 111 2 v l.length (cellsE (marksE m l.length)) ∧ Turned B S w w' :=
  (markGraph_any s v l B m w h.1 hl).mono fun _ _ ⟨h1, h2, h3⟩ => ⟨h1, ⟨h2, h.2⟩, turned_of h3 h.lt⟩

theorem markIntA2S_own (v : Value) (l : List Ed) (B S m : Nat) (w : World) (h : OwnE B S w v l) (hl : m + 2 * l.length ≤ 10000000) :
    Calls Tryd.prog 61 #[v, .int .i64 (m : Int)] w fun e w' => e = .returned (.int .i64 ((m + 2 * l.length : Nat) : Int)) ∧ OwnR B S w' 111 2 v l.length (cellsE (marksE m l.length)) ∧ Turned B S w w' :=
  (markIntA2S_any v l B m w h.1 hl).mono fun _ _ ⟨h1, h2, h3⟩ => ⟨h1, ⟨h2, h.2⟩, turned_of h3 h.lt⟩
theorem eqIntA2S_own (a b : Value) (l : List Ed) (w : World) (ha : Edges w a l) (hb : Edges w b l) (hl : l.length ≤ 1048576) :
    Calls Tryd.prog 55 #[a, b] w fun e w' => e = .returned (.bool true) ∧ Below w.heap.size w w' :=
  (eqIntA2S_yes a b l w ha hb hl)

theorem szIntA2S_yes (v : Value) (l : List Ed) (r : Int) (w : World) (h : Edges w v l) (hl : ((l.length : Nat) : Int) ≤ r) (hr : r ≤ 1048576) :
    Calls Tryd.prog 34 #[v, .int .i64 r] w fun e w' => e = .returned (.int .i64 (r - (l.length : Int))) ∧ w = w' := by
  obtain ⟨A, c, rfl, -⟩ := h.form
  go_enter Tryd.func34, Tryd.ntmps34
  go_wp2_with fail
  go_ret
  exact ⟨rfl, rfl⟩
theorem szIntA2S_no (v : Value) (l : List Ed) (r : Int) (w : World) (h : Edges w v l) (hl : r < ((l.length : Nat) : Int)) (hr : 0 ≤ r) (hm : ((l.length : Nat) : Int) ≤ 9223372036854775807) :
    Calls Tryd.prog 34 #[v, .int .i64 r] w fun e w' => e = .returned (.int .i64 (-1)) ∧ w = w' := by
  obtain ⟨A, c, rfl, -⟩ := h.form
  go_enter Tryd.func34, Tryd.ntmps34
  go_wp2_with fail
  go_ret
  exact ⟨rfl, rfl⟩
theorem szGraph_yes (s : Int) (v : Value) (l : List Ed) (r : Int) (w : World) (h : Edges w v l) (hl : ((l.length : Nat) : Int) ≤ r) (hr : r ≤ 1048576) :
    Calls Tryd.prog 9 #[.agg #[.int .i64 s, v], .int .i64 r] w fun e w' => e = .returned (.int .i64 (r - (l.length : Int))) ∧ Below w.heap.size w w' := by
  obtain ⟨A, c, hv, -⟩ := h.form
  have HS := Lib.hid (szIntA2S_yes v l r _ (h.below ((Below.refl _ _).alloc (Nat.le_refl _) (.cells #[.int .i64 s, v] 24))) hl hr)
  subst hv
  clear h
  go_enter Tryd.func9, Tryd.ntmps9
  go_wp2_with (go_at_call 34; refine HS.out.mono ?_; rintro e w' ⟨rfl, rfl⟩)
  go_ret
  exact ⟨rfl, (Below.refl _ _).alloc (Nat.le_refl _) _⟩
theorem szGraph_no (s : Int) (v : Value) (l : List Ed) (r : Int) (w : World) (h : Edges w v l) (hl : r < ((l.length : Nat) : Int)) (hr : 0 ≤ r) (hm : ((l.length : Nat) : Int) ≤ 9223372036854775807) :
    Calls Tryd.prog 9 #[.agg #[.int .i64 s, v], .int .i64 r] w fun e w' => e = .returned (.int .i64 (-1)) ∧ Below w.heap.size w w' := by
  obtain ⟨A, c, hv, -⟩ := h.form
  have HS := Lib.hid (szIntA2S_no v l r _ (h.below ((Below.refl _ _).alloc (Nat.le_refl _) (.cells #[.int .i64 s, v] 24))) hl hr hm)
  subst hv
  clear h
  go_enter Tryd.func9, Tryd.ntmps9
  go_wp2_with (go_at_call 34; refine HS.out.mono ?_; rintro e w' ⟨rfl, rfl⟩)
  go_ret
  exact ⟨rfl, (Below.refl _ _).alloc (Nat.le_refl _) _⟩
end Go.Proofs.YtdhbaegkogklgaaDoor.owns

/- Slices of slices of integers that a call owns: the rows lie in blocks of their own. -/
namespace Go.Proofs.YtdhbaegkogklgaaDoor.grid
open Go.RowKit P2 words edges ints owns
set_option linter.unusedVariables false

theorem infoRow : (Tryd.prog.info? 25).map (fun i => (i.zero, i.size, i.bytes)) = some (some (.slice none 0 0), 1, 24) := by kernel_rfl
theorem tneI : (3 : TypeId) ≠ 25 := by decide
/-- rows of different types lie apart -/
theorem own_apart {w : World} {B B' : Nat} {t t' : TypeId} {size size' n n' : Nat} {v v' : Value} {xs xs' : List Value} (h : w.ownsRow B t size v n xs) (h' : w.ownsRow B' t' size' v' n' xs') (ht : t ≠ t') :
    ∀ k, v.ownBlock = some k → v'.ownBlock ≠ some k := by
  intro k hk hk'
  rcases h.2 with ⟨rfl, _⟩ | ⟨g, cap, cur, rfl, _, hg, _⟩
  · simp [Value.ownBlock] at hk
  · rcases h'.2 with ⟨rfl, _⟩ | ⟨g', cap', cur', rfl, _, hg', _⟩
    · simp [Value.ownBlock] at hk'
    · simp [Value.ownBlock] at hk hk'
      subst hk
      subst hk'
      rw [hg] at hg'
      simp at hg'
      exact ht hg'.2
/-- a slice of slices of the call's own -/
def OwnG (w : World) (B : Nat) (v : Value) (us : List Value) (rows : List (List Int)) : Prop :=
  w.ownsRow B 25 1 v rows.length us ∧ (∀ (i : Nat) u r, us[i]? = some u → rows[i]? = some r → w.ownsRow B 3 1 u r.length (cellsI r)) ∧
    (∀ (i j : Nat) u u' k, i < j → us[i]? = some u → us[j]? = some u' → u.ownBlock = some k → u'.ownBlock ≠ some k)
section
variable {w w' : World} {B : Nat} {v : Value} {us : List Value} {rows : List (List Int)}
theorem OwnG.len (h : OwnG w B v us rows) : us.length = rows.length := by have := h.1.1; omega
theorem OwnG.below (h : OwnG w B v us rows) (hb : Below w.heap.size w w') : OwnG w' B v us rows :=
  ⟨own_below h.1 hb, fun i u r hu hr => own_below (h.2.1 i u r hu hr) hb, h.2.2⟩
theorem OwnG.base (h : OwnG w B v us rows) {C : Nat} (hC : C ≤ B) : OwnG w C v us rows :=
  ⟨own_base h.1 hC, fun i u r hu hr => own_base (h.2.1 i u r hu hr) hC, h.2.2⟩
theorem OwnG.nil (w : World) (B : Nat) : OwnG w B (.slice none 0 0) [] [] :=
  ⟨World.ownsRow_nil _ _ _ _, fun i u r hu => by simp at hu, fun i j u u' k _ hu => by simp at hu⟩
theorem OwnG.row (h : OwnG w B v us rows) {i : Nat} {r : List Int} (hr : rows[i]? = some r) : ∃ u, us[i]? = some u ∧ w.ownsRow B 3 1 u r.length (cellsI r) := by
  have hi := (List.getElem?_eq_some_iff.1 hr).1
  obtain ⟨u, hu⟩ : ∃ u, us[i]? = some u := ⟨_, List.getElem?_eq_getElem (by rw [h.len]; exact hi)⟩
  exact ⟨u, hu, h.2.1 i u r hu hr⟩
/-- one row more, made since w -/
theorem OwnG.push {w5 w6 : World} {u v6 : Value} {r : List Int} {o : Obj} {m : Nat} (h : OwnG w B v us rows) (hb : Below w.heap.size w w5) (hB : B ≤ w.heap.size) (hu : w5.ownsRow w.heap.size 3 1 u r.length (cellsI r))
    (hown : w6.ownsRow B 25 1 v6 (rows.length + m) (us ++ [u])) (hm : m = 1) (hg : (w5.alloc o).grownBy w6 v.ownBlock) : OwnG w6 B v6 (us ++ [u]) (rows ++ [r]) := by
  subst hm
  have h5 := h.below hb
  have hlen := h.len
  have apart : ∀ {C : Nat} {x : Value} {q : List Int}, w5.ownsRow C 3 1 x q.length (cellsI q) → x.ownBlock = none ∨ x.ownBlock ≠ v.ownBlock := fun {C x q} ho => by
    cases hh : x.ownBlock with
    | none => exact .inl rfl
    | some k => exact .inr (fun e => own_apart ho h5.1 tneI k hh e.symm)
  refine ⟨by rw [List.length_append]; exact hown, ?_, ?_⟩
  · intro i u' r' hu' hr'
    by_cases hi : i < rows.length
    · rw [List.getElem?_append_left (by omega)] at hu'
      rw [List.getElem?_append_left hi] at hr'
      have ho := h5.2.1 i u' r' hu' hr'
      exact (ho.alloc o).kept hg (apart ho)
    · have hi' : i = rows.length := by
        have := (List.getElem?_eq_some_iff.1 hr').1
        simp at this; omega
      subst hi'
      rw [List.getElem?_append_right (by omega), hlen, Nat.sub_self] at hu'
      rw [List.getElem?_append_right (Nat.le_refl _), Nat.sub_self] at hr'
      simp at hu' hr'
      subst hu'
      subst hr'
      exact own_base ((hu.alloc o).kept hg (apart hu)) hB
  · intro i j x x' k hij hx hx' hk
    by_cases hj : j < us.length
    · rw [List.getElem?_append_left (by omega)] at hx
      rw [List.getElem?_append_left hj] at hx'
      exact h.2.2 i j x x' k hij hx hx' hk
    · have hj' : j = us.length := by
        have := (List.getElem?_eq_some_iff.1 hx').1
        simp at this; omega
      subst hj'
      rw [List.getElem?_append_left hij] at hx
      rw [List.getElem?_append_right (Nat.le_refl _), Nat.sub_self] at hx'
      simp at hx'
      subst hx'
      obtain ⟨r', hr'⟩ : ∃ r', rows[i]? = some r' := ⟨_, List.getElem?_eq_getElem (by omega)⟩
      have h1 := ((h.2.1 i x r' hx hr').lt k hk).2
      intro hk'
      have h2 := (hu.lt k hk').1
      omega
end
end Go.Proofs.YtdhbaegkogklgaaDoor.grid
