/- What can be reached within a set of nodes, as the model looks for it: round by round. -/
import Derived.Test.YtphlpipbhaiijaaB04
import Derived.Test.YtphlpipbhaiijaaProg
import Derived.Test.YtphlpipbhaiijaaB02
import Derived.Handy
import Derived.Maps.AppendAt
import Derived.StillTailTactics
namespace Go.Proofs.Ytphlpipbhaiijaa.reach
open Go.RowKit P2 words edges ints fns sets covs
set_option linter.unusedVariables false

/-- ways within q -/
inductive Rch (n : Nat) (J : Nat → Nat → Bool) (q : Nat → Bool) (x : Nat) : Nat → Prop
  | base : Rch n J q x x
  | step {a b : Nat} : Rch n J q x a → J a b = true → q b = true → b < n → Rch n J q x b
noncomputable def reachB (n : Nat) (J : Nat → Nat → Bool) (q : Nat → Bool) (x z : Nat) : Bool := @decide (Rch n J q x z) (Classical.propDecidable _)
theorem reachB_iff {n : Nat} {J : Nat → Nat → Bool} {q : Nat → Bool} {x z : Nat} : reachB n J q x z = true ↔ Rch n J q x z := by
  unfold reachB; exact @decide_eq_true_iff _ (Classical.propDecidable _)
theorem Rch.lt {n : Nat} {J : Nat → Nat → Bool} {q : Nat → Bool} {x z : Nat} (h : Rch n J q x z) (hx : x < n) : z < n := by
  cases h with
  | base => exact hx
  | step _ _ _ h => exact h
theorem Rch.inq {n : Nat} {J : Nat → Nat → Bool} {q : Nat → Bool} {x z : Nat} (h : Rch n J q x z) (hx : q x = true) : q z = true := by
  cases h with
  | base => exact hx
  | step _ _ h _ => exact h

theorem nw_congr {p p' : Nat → Bool} : ∀ {n : Nat}, (∀ z, z < n → p z = p' z) → nw p n = nw p' n
  | 0, _ => rfl
  | n + 1, h => by
    have ih := nw_congr (n := n) (fun z hz => h z (by omega))
    have h9 := h n (Nat.lt_succ_self n)
    cases hp : p n with
    | true => rw [nw_yes hp, nw_yes (h9.symm.trans hp), ih]
    | false => rw [nw_no hp, nw_no (h9.symm.trans hp), ih]
theorem nw_mono {p p' : Nat → Bool} : ∀ {n : Nat}, (∀ z, z < n → p z = true → p' z = true) → (nw p n).length ≤ (nw p' n).length
  | 0, _ => Nat.le_refl _
  | n + 1, h => by
    have ih := nw_mono (n := n) (fun z hz => h z (by omega))
    have h9 := h n (Nat.lt_succ_self n)
    cases hp : p n with
    | true => rw [nw_yes hp, nw_yes (h9 hp)]; simp; exact ih
    | false =>
      rw [nw_no hp]
      cases hq : p' n with
      | true => rw [nw_yes hq]; simp; omega
      | false => rw [nw_no hq]; exact ih
/-- a node more -/
def pput (p : Nat → Bool) (y z : Nat) : Bool := p z || decide (z = y)
theorem pput_len {p : Nat → Bool} {y : Nat} (hp : p y = false) : ∀ n, (nw (pput p y) n).length = (nw p n).length + (if y < n then 1 else 0)
  | 0 => rfl
  | n + 1 => by
    have ih := pput_len hp n
    by_cases e : n = y
    · subst e
      rw [nw_yes (p := pput p n) (by simp [pput]), nw_no hp, List.length_append, ih]
      simp
    · have h9 : pput p y n = p n := by simp [pput, e]
      cases hq : p n with
      | true =>
        rw [nw_yes (h9.trans hq), nw_yes hq, List.length_append, List.length_append, ih]
        simp only [List.length_singleton]
        split <;> split <;> omega
      | false =>
        rw [nw_no (h9.trans hq), nw_no hq, ih]
        split <;> split <;> omega
theorem pput_is {n : Nat} {p : Nat → Bool} {y : Nat} {L : List Int} (h : balls.PutI (nw p n) (y : Int) L) (hy : y < n) : L = nw (pput p y) n :=
  asc_ext h.1 (nw_asc _ _) fun e => by
    rw [h.2.1 e, mem_nw, mem_nw]
    constructor
    · rintro (rfl | ⟨j, hj, hp, rfl⟩)
      · exact ⟨y, hy, by simp [pput], rfl⟩
      · exact ⟨j, hj, by simp [pput, hp], rfl⟩
    · rintro ⟨j, hj, hp, rfl⟩
      rcases Bool.or_eq_true_iff.1 hp with h1 | h1
      · exact .inr ⟨j, hj, h1, rfl⟩
      · exact .inl (by have := of_decide_eq_true h1; omega)
theorem nw_at {p : Nat → Bool} {n k : Nat} {y : Int} (h : (nw p n)[k]? = some y) : ∃ z : Nat, y = (z : Int) ∧ z < n ∧ p z = true := by
  obtain ⟨z, h1, h2, rfl⟩ := mem_nw.1 (List.mem_of_getElem? h)
  exact ⟨z, rfl, h1, h2⟩
theorem at_nw {p : Nat → Bool} {n z : Nat} (h : p z = true) (hz : z < n) : ∃ k, k < (nw p n).length ∧ (nw p n)[k]? = some (z : Int) := by
  obtain ⟨k, hk⟩ := List.mem_iff_getElem?.1 (mem_nw.2 ⟨z, hz, h, rfl⟩ : (z : Int) ∈ nw p n)
  exact ⟨k, (List.getElem?_eq_some_iff.1 hk).1, hk⟩

section
variable (n : Nat) (J : Nat → Nat → Bool) (q : Nat → Bool) (x : Nat)
def Closed (p : Nat → Bool) : Prop := ∀ a b, a < n → b < n → p a = true → J a b = true → q b = true → p b = true
def Sound (p : Nat → Bool) : Prop := ∀ z, z < n → p z = true → Rch n J q x z
def Done (p : Nat → Bool) (y : Nat) : Prop := p y = true ∨ ∀ o, o < n → p o = true → J o y = false
/-- r rounds are done -/
def RoundO (r : Nat) (p : Nat → Bool) : Prop := p x = true ∧ Sound n J q x p ∧ (Closed n J q p ∨ r + 1 ≤ (nw p n).length)
/-- in a round, the nodes ahead of place i are done -/
def RoundI (r i : Nat) (p : Nat → Bool) : Prop :=
  p x = true ∧ Sound n J q x p ∧ (Closed n J q p ∨ r + 2 ≤ (nw p n).length ∨ (r + 1 ≤ (nw p n).length ∧ ∀ (j y : Nat), j < i → (nw q n)[j]? = some (y : Int) → Done n J p y))
end
section
variable {n : Nat} {J : Nat → Nat → Bool} {q : Nat → Bool} {x r i : Nat} {p : Nat → Bool}
theorem RoundO.first (hx : x < n) : RoundO n J q x 0 (fun z => decide (z = x)) := by
  refine ⟨by simp, fun z _ hz => by have := of_decide_eq_true hz; subst this; exact .base, .inr ?_⟩
  have := nw_mono (n := n) (p := fun z => pput (fun _ => false) x z) (p' := fun z => decide (z = x)) (fun z _ hz => by simpa [pput] using hz)
  have h2 := pput_len (p := fun _ => false) (y := x) rfl n
  rw [if_pos hx] at h2
  show 0 + 1 ≤ _
  have h3 : (nw (fun z => pput (fun _ => false) x z) n).length = (nw (fun _ => false) n).length + 1 := h2
  omega
theorem RoundO.start (h : RoundO n J q x r p) : RoundI n J q x r 0 p :=
  ⟨h.1, h.2.1, h.2.2.elim .inl (fun h => .inr (.inr ⟨h, fun j y hj => by omega⟩))⟩
theorem RoundI.done (h : RoundI n J q x r (nw q n).length p) : RoundO n J q x (r + 1) p := by
  refine ⟨h.1, h.2.1, ?_⟩
  rcases h.2.2 with h1 | h1 | ⟨_, h1⟩
  · exact .inl h1
  · exact .inr h1
  · refine .inl fun a b ha hb hpa hJ hq => ?_
    obtain ⟨k, hk, hkb⟩ := at_nw hq hb
    rcases h1 k b hk hkb with h2 | h2
    · exact h2
    · rw [h2 a ha hpa] at hJ; cases hJ
theorem RoundI.skip {y : Nat} (h : RoundI n J q x r i p) (hy : (nw q n)[i]? = some (y : Int)) (hd : Done n J p y) : RoundI n J q x r (i + 1) p := by
  refine ⟨h.1, h.2.1, ?_⟩
  rcases h.2.2 with h1 | h1 | ⟨h0, h1⟩
  · exact .inl h1
  · exact .inr (.inl h1)
  · refine .inr (.inr ⟨h0, fun j z hj hz => ?_⟩)
    by_cases e : j = i
    · subst e; rw [hy] at hz
      have h9 : (y : Int) = (z : Int) := by simpa using hz
      obtain rfl : y = z := by omega
      exact hd
    · exact h1 j z (by omega) hz
theorem RoundI.put {y o : Nat} (h : RoundI n J q x r i p) (hy : y < n) (hq : q y = true) (hp : p y = false) (ho : o < n) (hpo : p o = true) (hJ : J o y = true) : RoundI n J q x r i (pput p y) := by
  have hlen := pput_len hp n
  rw [if_pos hy] at hlen
  refine ⟨by simp [pput, h.1], fun z hz hpz => ?_, ?_⟩
  · rcases Bool.or_eq_true_iff.1 hpz with h1 | h1
    · exact h.2.1 z hz h1
    · have := of_decide_eq_true h1
      subst this
      exact .step (h.2.1 o ho hpo) hJ hq hy
  · rcases h.2.2 with h1 | h1 | ⟨h0, _⟩
    · have := h1 o y ho hy hpo hJ hq
      rw [hp] at this; cases this
    · exact .inr (.inl (by omega))
    · exact .inr (.inl (by omega))
theorem RoundO.all (h : RoundO n J q x (nw q n).length p) (hx : x < n) (hq : q x = true) : nw p n = nw (reachB n J q x) n := by
  have hcl : Closed n J q p := by
    rcases h.2.2 with h1 | h1
    · exact h1
    · have := nw_mono (n := n) (p := p) (p' := q) (fun z hz hpz => (h.2.1 z hz hpz).inq hq)
      omega
  have hin : ∀ z, Rch n J q x z → p z = true := by
    intro z hz
    induction hz with
    | base => exact h.1
    | step ha hJ hqb hb ih => exact hcl _ _ (ha.lt hx) hb ih hJ hqb
  refine nw_congr fun z hz => ?_
  cases hp : p z with
  | true => exact (reachB_iff.2 (h.2.1 z hz hp)).symm
  | false =>
    cases hr : reachB n J q x z with
    | false => rfl
    | true => rw [hin z (reachB_iff.1 hr)] at hp; cases hp
end
end Go.Proofs.Ytphlpipbhaiijaa.reach

/- What is connected within a set, and the neighbors in a filling: plain mathematics. -/
namespace Go.Proofs.Ytphlpipbhaiijaa.bags
open Go.RowKit P2 words edges ints fns sets covs reach
set_option linter.unusedVariables false

def J2 (l : List Ed) (a b : Nat) : Bool := adj l a b
/-- the nodes that ways in q connect with some of P -/
noncomputable def connB (n : Nat) (J : Nat → Nat → Bool) (q P : Nat → Bool) (z : Nat) : Bool := @decide (∃ x, x < n ∧ P x = true ∧ Rch n J q x z) (Classical.propDecidable _)
theorem connB_iff {n : Nat} {J : Nat → Nat → Bool} {q P : Nat → Bool} {z : Nat} : connB n J q P z = true ↔ ∃ x, x < n ∧ P x = true ∧ Rch n J q x z := by
  unfold connB; exact @decide_eq_true_iff _ (Classical.propDecidable _)
theorem connB_one {n : Nat} {J : Nat → Nat → Bool} {q : Nat → Bool} {x z : Nat} (hx : x < n) : connB n J q (fun y => decide (y = x)) z = reachB n J q x z := by
  rw [Bool.eq_iff_iff, connB_iff, reachB_iff]
  constructor
  · rintro ⟨y, hy, hp, hr⟩
    have := of_decide_eq_true hp
    subst this
    exact hr
  · intro h
    exact ⟨x, hx, by simp, h⟩
theorem Rch.mono {n : Nat} {J : Nat → Nat → Bool} {q q' : Nat → Bool} {x z : Nat} (h : Rch n J q x z) (hq : ∀ y, y < n → q y = true → q' y = true) : Rch n J q' x z := by
  induction h with
  | base => exact .base
  | step _ hJ hqb hb ih => exact .step ih hJ (hq _ hb hqb) hb
theorem Rch.trans {n : Nat} {J : Nat → Nat → Bool} {q : Nat → Bool} {x y z : Nat} (h : Rch n J q x y) (k : Rch n J q y z) : Rch n J q x z := by
  induction k with
  | base => exact h
  | step _ hJ hqb hb ih => exact .step ih hJ hqb hb
theorem Rch.ahead {n : Nat} {J : Nat → Nat → Bool} {q : Nat → Bool} {x y z : Nat} (hJ : J x y = true) (hy : y < n) (hq : q y = true) (k : Rch n J q y z) : Rch n J q x z :=
  Rch.trans (.step .base hJ hq hy) k
theorem Rch.symm {n : Nat} {J : Nat → Nat → Bool} {q : Nat → Bool} {x z : Nat} (hs : ∀ a b, J a b = J b a) (hx : x < n) (hqx : q x = true) (h : Rch n J q x z) : Rch n J q z x := by
  induction h with
  | base => exact .base
  | step ha hJ hqb hb ih => exact Rch.ahead ((hs _ _).trans hJ) (ha.lt hx) (ha.inq hqx) ih
/-- the closed neighborhood of a set -/
def arB (l : List Ed) (n : Nat) (c y : Nat) : Bool := (List.range n).any fun x => c.testBit x && ((x == y) || adj l x y)
theorem arB_iff {l : List Ed} {n c y : Nat} : arB l n c y = true ↔ ∃ x, x < n ∧ c.testBit x = true ∧ (x = y ∨ adj l x y = true) := by
  unfold arB
  rw [List.any_eq_true]
  simp only [List.mem_range, Bool.and_eq_true, Bool.or_eq_true, beq_iff_eq]
def arN (l : List Ed) (n c : Nat) : Nat := numOf (arB l n c) n
def arK (l : List Ed) (c : Nat) : Nat → Nat
  | 0 => 0
  | k + 1 => if c.testBit k = true then arK l c k ||| cloB l k else arK l c k
theorem arK_yes {l : List Ed} {c k : Nat} (h : c.testBit k = true) : arK l c (k + 1) = arK l c k ||| cloB l k := by rw [arK, if_pos h]
theorem arK_no {l : List Ed} {c k : Nat} (h : c.testBit k = false) : arK l c (k + 1) = arK l c k := by rw [arK, if_neg (by simp [h])]
theorem arK_bit {s : Int} {l : List Ed} (hg : P2.Good s l) (c y : Nat) : ∀ k, (arK l c k).testBit y = arB l k c y
  | 0 => by simp [arK, arB]
  | k + 1 => by
    have ih := arK_bit hg c y k
    have h2 : arB l (k + 1) c y = (arB l k c y || (c.testBit k && ((k == y) || adj l k y))) := by
      unfold arB; rw [List.range_succ, List.any_append]; simp
    rw [h2]
    cases hb : c.testBit k with
    | true => rw [arK_yes hb, Nat.testBit_or, ih, cloB_bit hg]; simp
    | false => rw [arK_no hb, ih]; simp
theorem arK_lt {s : Int} {l : List Ed} (hg : P2.Good s l) (c : Nat) {k : Nat} (hk : k ≤ 8) : arK l c k < 256 := by
  have := hg.2.1
  refine Nat.lt_pow_two_of_testBit (n := 8) _ fun i hi => ?_
  rw [arK_bit hg]
  cases h : arB l k c i with
  | false => rfl
  | true =>
    obtain ⟨x, hx, _, rfl | ha⟩ := arB_iff.1 h
    · omega
    · have := (adj_node hg ha).2; omega
theorem arK_all {n : Nat} {l : List Ed} (hg : P2.Good (n : Int) l) (c : Nat) : arK l c n = arN l n c := by
  apply Nat.eq_of_testBit_eq
  intro i
  unfold arN
  rw [arK_bit hg, numOf_bit]
  cases h : arB l n c i with
  | false => simp
  | true =>
    obtain ⟨x, hx, _, rfl | ha⟩ := arB_iff.1 h
    · simp [hx]
    · have := (adj_node hg ha).2
      have h9 : i < n := by omega
      simp [h9]
theorem num_ext {p p' : Nat → Bool} {n : Nat} (h : ∀ z, z < n → p z = p' z) : numOf p n = numOf p' n := by
  apply Nat.eq_of_testBit_eq
  intro i
  rw [numOf_bit, numOf_bit]
  by_cases hi : i < n
  · rw [h i hi]
  · simp [hi]
theorem num_inj {p p' : Nat → Bool} {n : Nat} (h : numOf p n = numOf p' n) : ∀ z, z < n → p z = p' z := fun z hz => by
  have h1 := numOf_bit p n z
  have h2 := numOf_bit p' n z
  rw [h, h2] at h1
  simpa [hz] using h1.symm
theorem num_and (p q : Nat → Bool) (n : Nat) : numOf p n &&& numOf q n = numOf (fun z => p z && q z) n := by
  apply Nat.eq_of_testBit_eq
  intro i
  rw [Nat.testBit_and, numOf_bit, numOf_bit, numOf_bit]
  by_cases hi : i < n <;> simp [hi]
/-- a round of the search -/
def mored (l : List Ed) (n : Nat) (q p : Nat → Bool) (y : Nat) : Bool := arB l n (numOf p n) y && q y
theorem mored_iff {l : List Ed} {n : Nat} {q p : Nat → Bool} {y : Nat} : mored l n q p y = true ↔ (∃ x, x < n ∧ p x = true ∧ (x = y ∨ adj l x y = true)) ∧ q y = true := by
  unfold mored
  rw [Bool.and_eq_true, arB_iff]
  constructor
  · rintro ⟨⟨x, hx, hp, h⟩, hq⟩
    rw [numOf_bit] at hp
    exact ⟨⟨x, hx, by simpa [hx] using hp, h⟩, hq⟩
  · rintro ⟨⟨x, hx, hp, h⟩, hq⟩
    exact ⟨⟨x, hx, by rw [numOf_bit]; simp [hx, hp], h⟩, hq⟩
/-- the search so far: p has the nodes found -/
def Conn (n : Nat) (l : List Ed) (q P p : Nat → Bool) : Prop := (∀ z, z < n → P z = true → p z = true) ∧ (∀ z, z < n → p z = true → connB n (J2 l) q P z = true) ∧ ∀ z, z < n → p z = true → q z = true
section
variable {n : Nat} {l : List Ed} {q P p : Nat → Bool}
theorem Conn.first (hP : ∀ z, z < n → P z = true → q z = true) : Conn n l q P P :=
  ⟨fun _ _ h => h, fun z hz h => connB_iff.2 ⟨z, hz, h, .base⟩, hP⟩
theorem Conn.sub (h : Conn n l q P p) : ∀ z, z < n → p z = true → mored l n q p z = true := fun z hz hp => mored_iff.2 ⟨⟨z, hz, hp, .inl rfl⟩, h.2.2 z hz hp⟩
theorem Conn.next (h : Conn n l q P p) : Conn n l q P (mored l n q p) := by
  refine ⟨fun z hz hp => h.sub z hz (h.1 z hz hp), fun z hz hm => ?_, fun z hz hm => (mored_iff.1 hm).2⟩
  obtain ⟨⟨x, hx, hp, he⟩, hq⟩ := mored_iff.1 hm
  obtain ⟨a, ha, hPa, hr⟩ := connB_iff.1 (h.2.1 x hx hp)
  rcases he with rfl | he
  · exact connB_iff.2 ⟨a, ha, hPa, hr⟩
  · exact connB_iff.2 ⟨a, ha, hPa, .step hr he hq hz⟩
theorem Conn.done (h : Conn n l q P p) (he : numOf (mored l n q p) n = numOf p n) : numOf p n = numOf (connB n (J2 l) q P) n := by
  have hi := num_inj he
  have hin : ∀ a z, a < n → P a = true → Rch n (J2 l) q a z → p z = true := by
    intro a z ha hPa hr
    induction hr with
    | base => exact h.1 a ha hPa
    | step hr hJ hqb hb ih => rw [← hi _ hb]; exact mored_iff.2 ⟨⟨_, hr.lt ha, ih, .inr hJ⟩, hqb⟩
  refine num_ext fun z hz => ?_
  rw [Bool.eq_iff_iff]
  constructor
  · exact h.2.1 z hz
  · intro hc
    obtain ⟨a, ha, hPa, hr⟩ := connB_iff.1 hc
    exact hin a z ha hPa hr
theorem Conn.grow (h : Conn n l q P p) (hne : numOf (mored l n q p) n ≠ numOf p n) : (nw p n).length < (nw (mored l n q p) n).length := by
  obtain ⟨z, hz, hm, hp⟩ : ∃ z, z < n ∧ mored l n q p z = true ∧ p z = false := by
    apply Classical.byContradiction
    intro hno
    refine hne (num_ext fun z hz => ?_)
    rw [Bool.eq_iff_iff]
    constructor
    · intro hm
      cases hp : p z with
      | true => rfl
      | false => exact absurd ⟨z, hz, hm, hp⟩ hno
    · exact h.sub z hz
  have h1 := pput_len hp n
  rw [if_pos hz] at h1
  have h2 := nw_mono (n := n) (p := pput p z) (p' := mored l n q p) (fun y hy hpy => by
    rcases Bool.or_eq_true_iff.1 hpy with h9 | h9
    · exact h.sub y hy h9
    · have := of_decide_eq_true h9
      subst this
      exact hm)
  omega
end

/-- the neighbors behind a node in a filling: G has the nodes gone ahead of it -/
noncomputable def laterB (n : Nat) (l : List Ed) (G : Nat → Bool) (x y : Nat) : Bool :=
  !G y && decide (y ≠ x) && (List.range n).any fun z => reachB n (J2 l) (pput G x) x z && adj l z y
theorem laterB_iff {n : Nat} {l : List Ed} {G : Nat → Bool} {x y : Nat} : laterB n l G x y = true ↔ G y = false ∧ y ≠ x ∧ ∃ z, z < n ∧ Rch n (J2 l) (pput G x) x z ∧ adj l z y = true := by
  unfold laterB
  rw [Bool.and_eq_true, Bool.and_eq_true, List.any_eq_true, decide_eq_true_iff]
  simp only [List.mem_range, Bool.and_eq_true, reachB_iff, Bool.not_eq_true']
  exact and_assoc
noncomputable def bagB (n : Nat) (l : List Ed) (G : Nat → Bool) (x : Nat) : Nat → Bool := pput (laterB n l G x) x
theorem bag_len {n : Nat} {l : List Ed} {G : Nat → Bool} {x : Nat} (hx : x < n) : (nw (bagB n l G x) n).length = (nw (laterB n l G x) n).length + 1 := by
  have h := pput_len (p := laterB n l G x) (y := x) (by
    cases h : laterB n l G x x with
    | false => rfl
    | true => exact absurd rfl (laterB_iff.1 h).2.1) n
  rw [if_pos hx] at h
  exact h
/-- as the program has it -/
theorem bag_is {n : Nat} {l : List Ed} {G : Nat → Bool} {x : Nat} (hx : x < n) (hgx : G x = false) {y : Nat} (hy : y < n) :
    (arB l n (numOf (connB n (J2 l) (pput G x) (fun y => decide (y = x))) n) y && !G y) = bagB n l G x y := by
  have hpp : bagB n l G x y = (laterB n l G x y || decide (y = x)) := rfl
  rw [Bool.eq_iff_iff, Bool.and_eq_true, arB_iff, hpp]
  rw [Bool.or_eq_true, laterB_iff, decide_eq_true_iff]
  constructor
  · rintro ⟨⟨z, hz, hb, he⟩, hG⟩
    rw [numOf_bit, connB_one hx] at hb
    have hr : Rch n (J2 l) (pput G x) x z := by
      rw [Bool.and_eq_true] at hb
      exact reachB_iff.1 hb.2
    by_cases e : y = x
    · exact .inr e
    · refine .inl ⟨by simpa using hG, e, ?_⟩
      rcases he with rfl | he
      · have := hr.inq (by simp [pput])
        rcases Bool.or_eq_true_iff.1 this with h1 | h1
        · rw [h1] at hG; simp at hG
        · exact absurd (of_decide_eq_true h1) e
      · exact ⟨z, hz, hr, he⟩
  · rintro (⟨hG, hne, z, hz, hr, ha⟩ | rfl)
    · refine ⟨⟨z, hz, ?_, .inr ha⟩, by simp [hG]⟩
      rw [numOf_bit, connB_one hx, reachB_iff.2 hr]; simp [hz]
    · refine ⟨⟨y, hx, ?_, .inl rfl⟩, by simp [hgx]⟩
      rw [numOf_bit, connB_one hx, reachB_iff.2 .base]; simp [hx]

/-- the model's search: S has the nodes seen, o those that are out; k of those seen are done, and i neighbors of the next one -/
structure Later (n : Nat) (l : List Ed) (G : Nat → Bool) (x k i : Nat) (S : List Nat) (o : Nat → Bool) : Prop where
  first : S[0]? = some x
  nodup : S.Nodup
  seen : ∀ z ∈ S, z < n ∧ Rch n (J2 l) (pput G x) x z
  done : ∀ j z y : Nat, j < k → S[j]? = some z → y < n → adj l z y = true → y ∈ S ∨ o y = true
  now : ∀ z y j : Nat, S[k]? = some z → j < i → (nw (fun y => adj l z y) n)[j]? = some (y : Int) → y ∈ S ∨ o y = true
  sound : ∀ y, o y = true → y < n ∧ G y = false ∧ y ≠ x ∧ ∃ z ∈ S, adj l z y = true
section
variable {n : Nat} {l : List Ed} {G : Nat → Bool} {x k i : Nat} {S : List Nat} {o : Nat → Bool}
theorem nodup_len : ∀ {S : List Nat}, S.Nodup → (∀ z ∈ S, z < n) → S.length ≤ n := fun {S} h hz => by
  have := h.length_le_of_subset (l₂ := List.range n) (fun z hm => List.mem_range.2 (hz z hm))
  simpa using this
theorem Later.len (h : Later n l G x k i S o) : S.length ≤ n := nodup_len h.nodup fun z hz => (h.seen z hz).1
theorem Later.start (hx : x < n) : Later n l G x 0 0 [x] (fun _ => false) where
  first := rfl
  nodup := by simp
  seen := fun z hz => by rw [List.mem_singleton] at hz; subst hz; exact ⟨hx, .base⟩
  done := fun j _ _ hj => by omega
  now := fun _ _ j _ hj => by omega
  sound := fun _ h => by cases h
theorem Later.seen_old {y : Nat} (h : Later n l G x k i S o) (hy : y ∈ S) : y = x ∨ G y = true := by
  have := (h.seen y hy).2.inq (by simp [pput])
  rcases Bool.or_eq_true_iff.1 this with h1 | h1
  · exact .inr h1
  · exact .inl (of_decide_eq_true h1)
/-- one that was seen -/
theorem Later.skip {z y : Nat} (h : Later n l G x k i S o) (hz : S[k]? = some z) (hy : (nw (fun y => adj l z y) n)[i]? = some (y : Int)) (hm : y ∈ S) : Later n l G x k (i + 1) S o :=
  { h with
    now := fun z' y' j hz' hj hy' => by
      by_cases e : j = i
      · subst e
        rw [hz] at hz'; cases hz'
        rw [hy] at hy'
        have : (y : Int) = (y' : Int) := by simpa using hy'
        obtain rfl : y = y' := by omega
        exact .inl hm
      · exact h.now z' y' j hz' (by omega) hy' }
theorem Later.next {z : Nat} (h : Later n l G x k i S o) (hz : S[k]? = some z) (hi : (nw (fun y => adj l z y) n).length ≤ i) : Later n l G x (k + 1) 0 S o :=
  { h with
    done := fun j z' y hj hz' hy ha => by
      by_cases e : j = k
      · subst e
        rw [hz] at hz'; cases hz'
        obtain ⟨m, hm, hmy⟩ := at_nw (p := fun y => adj l z y) ha hy
        exact h.now z y m hz (by omega) hmy
      · exact h.done j z' y (by omega) hz' hy ha
    now := fun _ _ j _ hj => by omega }
theorem Later.see {z y : Nat} (h : Later n l G x k i S o) (hz : S[k]? = some z) (hy : (nw (fun y => adj l z y) n)[i]? = some (y : Int)) (hm : y ∉ S) (hG : G y = true) : Later n l G x k (i + 1) (S ++ [y]) o := by
  obtain ⟨y', e', hyn, ha⟩ := nw_at hy
  obtain rfl : y = y' := by omega
  have hzS := List.mem_of_getElem? hz
  have hk := (List.getElem?_eq_some_iff.1 hz).1
  have old : ∀ j v, j ≤ k → (S ++ [y])[j]? = some v → S[j]? = some v := fun j v hj hv => by rwa [List.getElem?_append_left (by omega)] at hv
  exact {
    first := by rw [List.getElem?_append_left (by omega)]; exact h.first
    nodup := by
      rw [List.nodup_append]
      exact ⟨h.nodup, by simp, fun a ha b hb e => by rw [List.mem_singleton] at hb; rw [e, hb] at ha; exact hm ha⟩
    seen := fun v hv => by
      rcases List.mem_append.1 hv with hv | hv
      · exact h.seen v hv
      · rw [List.mem_singleton] at hv
        subst hv
        exact ⟨hyn, .step (h.seen z hzS).2 ha (by simp [pput, hG]) hyn⟩
    done := fun j v u hj hv hu hvu => by
      rcases h.done j v u hj (old j v (by omega) hv) hu hvu with h1 | h1
      · exact .inl (by simp [h1])
      · exact .inr h1
    now := fun v u j hv hj hu => by
      have hv' := old k v (Nat.le_refl _) hv
      by_cases e : j = i
      · subst e
        rw [hz] at hv'; cases hv'
        rw [hy] at hu
        have : (y : Int) = (u : Int) := by simpa using hu
        obtain rfl : y = u := by omega
        exact .inl (by simp)
      · rcases h.now v u j hv' (by omega) hu with h1 | h1
        · exact .inl (by simp [h1])
        · exact .inr h1
    sound := fun u hu => by
      obtain ⟨h1, h2, h3, v, hv, h4⟩ := h.sound u hu
      exact ⟨h1, h2, h3, v, by simp [hv], h4⟩ }
theorem Later.put {z y : Nat} (h : Later n l G x k i S o) (hz : S[k]? = some z) (hy : (nw (fun y => adj l z y) n)[i]? = some (y : Int)) (hm : y ∉ S) (hG : G y = false) : Later n l G x k (i + 1) S (pput o y) := by
  obtain ⟨y', e', hyn, ha⟩ := nw_at hy
  obtain rfl : y = y' := by omega
  have hzS := List.mem_of_getElem? hz
  have hxS : x ∈ S := List.mem_of_getElem? h.first
  exact { h with
    done := fun j v u hj hv hu hvu => by
      rcases h.done j v u hj hv hu hvu with h1 | h1
      · exact .inl h1
      · exact .inr (by simp [pput, h1])
    now := fun v u j hv hj hu => by
      by_cases e : j = i
      · subst e
        rw [hz] at hv; cases hv
        rw [hy] at hu
        have : (y : Int) = (u : Int) := by simpa using hu
        obtain rfl : y = u := by omega
        exact .inr (by simp [pput])
      · rcases h.now v u j hv (by omega) hu with h1 | h1
        · exact .inl h1
        · exact .inr (by simp [pput, h1])
    sound := fun u hu => by
      rcases Bool.or_eq_true_iff.1 hu with h1 | h1
      · exact h.sound u h1
      · have := of_decide_eq_true h1
        subst this
        exact ⟨hyn, hG, fun e => hm (e ▸ hxS), z, hzS, ha⟩ }
theorem Later.all (h : Later n l G x S.length i S o) (hx : x < n) : nw o n = nw (laterB n l G x) n := by
  have hcl : ∀ z, Rch n (J2 l) (pput G x) x z → z ∈ S := by
    intro z hr
    induction hr with
    | base => exact List.mem_of_getElem? h.first
    | step ha hJ hqb hb ih =>
      obtain ⟨j, hj⟩ := List.getElem?_of_mem ih
      rcases h.done j _ _ (List.getElem?_eq_some_iff.1 hj).1 hj hb hJ with h1 | h1
      · exact h1
      · obtain ⟨_, h2, h3, _⟩ := h.sound _ h1
        rcases Bool.or_eq_true_iff.1 hqb with h4 | h4
        · rw [h2] at h4; cases h4
        · exact absurd (of_decide_eq_true h4) h3
  refine reach.nw_congr fun y hy => ?_
  rw [Bool.eq_iff_iff, laterB_iff]
  constructor
  · intro ho
    obtain ⟨_, h2, h3, z, hz, h4⟩ := h.sound y ho
    exact ⟨h2, h3, z, (h.seen z hz).1, (h.seen z hz).2, h4⟩
  · rintro ⟨h2, h3, z, hz, hr, ha⟩
    obtain ⟨j, hj⟩ := List.getElem?_of_mem (hcl z hr)
    rcases h.done j z y (List.getElem?_eq_some_iff.1 hj).1 hj hy ha with h1 | h1
    · rcases h.seen_old h1 with h5 | h5
      · exact absurd h5 h3
      · rw [h2] at h5; cases h5
    · exact h1
end
end Go.Proofs.Ytphlpipbhaiijaa.bags

/- A Graph in the making: the variable that holds it, the row of its edges, the result's variable. -/
namespace Go.Proofs.Ytphlpipbhaiijaa.mids
open Go.RowKit P2 words edges

theorem own_ne {w : World} {B : Nat} {t t' : TypeId} {size n : Nat} {v : Value} {xs : List Value} {O : Nat} {cs : Array Value} (h : w.ownsRow B t size v n xs) (hb : Blk w O t' cs) (ht : t ≠ t') : v.ownBlock ≠ some O := by
  intro e
  rcases h.2 with ⟨rfl, _⟩ | ⟨g, cap, cur, rfl, _, hg, _⟩
  · simp [Value.ownBlock] at e
  · simp [Value.ownBlock] at e
    subst e
    unfold Blk at hb
    rw [hg] at hb
    simp at hb
    exact ht hb.2
theorem grown_blk {w w' : World} {B : Nat} {t t' : TypeId} {size n : Nat} {v : Value} {xs : List Value} {O : Nat} {cs : Array Value} {o : Obj} (h : w.ownsRow B t size v n xs) (hb : Blk w O t' cs) (ht : t ≠ t') (hg : (w.alloc o).grownBy w' v.ownBlock) : Blk w' O t' cs :=
  (hb.alloc o).grown hg (fun e => own_ne h hb ht e.symm)

/-- block O holds the Graph in the making, block R is the result's variable -/
def Mid (w wr : World) (R O : Nat) (n : Int) (l : List Ed) : Prop :=
  ∃ A c, Blk wr O 29 #[.int .i64 n, .slice A l.length c] ∧ wr.ownsRow w.heap.size 104 2 (.slice A l.length c) l.length (cellsE l) ∧
    Blk wr R 29 #[.int .i64 0, .slice none 0 0] ∧ Below w.heap.size w wr ∧ w.heap.size ≤ R ∧ w.heap.size ≤ O ∧ R ≠ O
theorem Mid.call {w wr w1 : World} {R O : Nat} {n : Int} {l : List Ed} (h : Mid w wr R O n l) (hb : Below wr.heap.size wr w1) : Mid w w1 R O n l := by
  obtain ⟨A, c, h1, h2, h3, h4, h5⟩ := h
  exact ⟨A, c, h1.below hb h1.lt, own_below h2 hb, h3.below hb h3.lt, h4.trans (hb.mono h4.size), h5⟩
theorem tne : (104 : TypeId) ≠ 29 := by decide
theorem Mid.push {w w1 w2 : World} {R O m : Nat} {n : Int} {l : List Ed} {a b : Int} {A : Option Addr} {c : Nat} {o : Obj} {v : Value}
    (hO : Blk w1 O 29 #[.int .i64 n, .slice A l.length c]) (hr : w1.ownsRow w.heap.size 104 2 (.slice A l.length c) l.length (cellsE l))
    (hR : Blk w1 R 29 #[.int .i64 0, .slice none 0 0]) (hb : Below w.heap.size w w1) (h5 : w.heap.size ≤ R ∧ w.heap.size ≤ O ∧ R ≠ O)
    (hown : w2.ownsRow w.heap.size 104 2 v (l.length + m) (cellsE l ++ [.int .i64 a, .int .i64 b])) (hm : m = 1) (hg : (w1.alloc o).grownBy w2 (Value.slice A l.length c).ownBlock) :
    ∃ A' c', v = .slice A' (l.length + 1) c' ∧ Mid w (w2.setCell ⟨O, 1, none⟩ (.slice A' (l.length + 1) c')) R O n (l ++ [(a, b)]) ∧ Blk w2 O 29 #[.int .i64 n, .slice A l.length c] := by
  subst hm
  obtain ⟨A', c', rfl⟩ := own_form hown
  have hlen : (l ++ [(a, b)]).length = l.length + 1 := by simp
  have hO2 := grown_blk hr hO tne hg
  have hR2 := grown_blk hr hR tne hg
  have hne := own_ne hown hO2 tne
  refine ⟨A', c', rfl, ⟨A', c', ?_, ?_, hR2.far h5.2.2 _, ?_, h5⟩, hO2⟩
  · rw [hlen]
    have := hO2.set_ 1 (.slice A' (l.length + 1) c')
    simpa using this
  · rw [hlen, cellsE_app]
    refine hown.kept (row := some O) ⟨rfl, rfl, rfl, by simp [World.setCell], fun k _ hk => Below.heap_setCell _ _ _ _ (fun e => hk (by simp [e]))⟩ (.inr hne)
  · exact ((hb.alloc (by have := hb.size; omega) o).grown hg (by have := hb.size; simp; omega) (fun k hk => (hr.lt k hk).1)).setCell h5.2.1 _
/-- other variables stay -/
theorem push_blk {w1 w2 : World} {B O X n : Nat} {t : TypeId} {v : Value} {xs : List Value} {cs : Array Value} {o : Obj} {u : Value} (hr : w1.ownsRow B 104 2 v n xs) (hX : Blk w1 X t cs) (ht : 104 ≠ t)
    (hg : (w1.alloc o).grownBy w2 v.ownBlock) (hne : X ≠ O) : Blk (w2.setCell ⟨O, 1, none⟩ u) X t cs :=
  (grown_blk hr hX ht hg).far hne _
/-- the end: the Graph is stored into the result's variable -/
theorem Mid.done {w wr : World} {R : Nat} {n : Int} {l : List Ed} {A : Option Addr} {c : Nat} (hr : wr.ownsRow w.heap.size 104 2 (.slice A l.length c) l.length (cellsE l))
    (hR : Blk wr R 29 #[.int .i64 0, .slice none 0 0]) (hb : Below w.heap.size w wr) (h5 : w.heap.size ≤ R) :
    ((wr.setCell ⟨R, 0, none⟩ (.int .i64 n)).setCell ⟨R, 1, none⟩ (.slice A l.length c)).ownsRow w.heap.size 104 2 (.slice A l.length c) l.length (cellsE l) ∧
      Below w.heap.size w ((wr.setCell ⟨R, 0, none⟩ (.int .i64 n)).setCell ⟨R, 1, none⟩ (.slice A l.length c)) := by
  have hk : ∀ (W : World) (j : Nat) (u : Value), W.grownBy (W.setCell ⟨R, j, none⟩ u) (some R) := fun W j u => ⟨rfl, rfl, rfl, by simp [World.setCell], fun k _ hk => Below.heap_setCell _ _ _ _ (fun e => hk (by simp [e]))⟩
  have hne := own_ne hr hR tne
  exact ⟨(hr.kept (hk _ _ _) (.inr hne)).kept (hk _ _ _) (.inr hne), (hb.setCell h5 _).setCell h5 _⟩
/-- the start: an empty row, the Graph in the making -/
theorem mid_new {w w1 : World} {R : Nat} (n : Int) (hR : Blk w1 R 29 #[.int .i64 0, .slice none 0 0]) (e1 : Below w.heap.size w w1) (h : w.heap.size ≤ R) :
    Mid w ((w1.alloc (.cells #[] 104)).alloc (.cells #[.int .i64 n, .slice (some ⟨w1.heap.size, 0, none⟩) 0 0] 29)) R (w1.heap.size + 1) n [] := by
  have hs := e1.size
  have hlt := hR.lt
  refine ⟨some ⟨w1.heap.size, 0, none⟩, 0, ?_, ?_, (hR.alloc _).alloc _, ?_, h, by omega, by omega⟩
  · simpa using Blk.new (w1.alloc (.cells #[] 104)) 29 #[.int .i64 n, .slice (some ⟨w1.heap.size, 0, none⟩) 0 0]
  · have := (World.ownsRow_lit (base := w1.heap.size) (e := 104) (size := 2) w1 #[] 0 (Nat.le_refl _) (Nat.zero_le _) (by simp)).alloc (.cells #[.int .i64 n, .slice (some ⟨w1.heap.size, 0, none⟩) 0 0] 29)
    exact own_base this hs
  · exact (e1.alloc hs _).alloc (by simp; omega) _
end Go.Proofs.Ytphlpipbhaiijaa.mids

/- The contract of the model's l5Later. -/
namespace Go.Proofs.Ytphlpipbhaiijaa.bags
open Go.RowKit P2 words edges ints good adjs fns sets apps covs neigh balls reach
set_option linter.unusedVariables false

theorem apart_or {u v : Value} (h : ∀ k, u.ownBlock = some k → v.ownBlock ≠ some k) : v.ownBlock = none ∨ v.ownBlock ≠ u.ownBlock := by
  cases hv : v.ownBlock with
  | none => exact .inl rfl
  | some q => exact .inr fun e => h q e.symm hv
theorem apart_grow {u u' v : Value} {H : Nat} (h : ∀ k, u.ownBlock = some k → v.ownBlock ≠ some k) (hl : u'.ownBlock = u.ownBlock ∨ u'.ownBlock = some H) (hv : ∀ k, v.ownBlock = some k → k < H) : ∀ k, u'.ownBlock = some k → v.ownBlock ≠ some k := fun k hk hk' => by
  rcases hl with e | e
  · exact h k (e.symm.trans hk) hk'
  · rw [e] at hk
    cases hk
    exact Nat.lt_irrefl _ (hv _ hk')
def nodesL (S : List Nat) : List Int := S.map fun x : Nat => (x : Int)
theorem mem_nodesL {S : List Nat} {y : Nat} : (y : Int) ∈ nodesL S ↔ y ∈ S := by
  unfold nodesL
  rw [List.mem_map]
  constructor
  · rintro ⟨z, hz, e⟩
    obtain rfl : z = y := by omega
    exact hz
  · intro h; exact ⟨y, h, rfl⟩
theorem nodesL_len (S : List Nat) : (nodesL S).length = S.length := by simp [nodesL]
theorem nodesL_at {S : List Nat} {k z : Nat} (h : S[k]? = some z) : (nodesL S)[k]? = some (z : Int) := by simp [nodesL, h]
theorem nodesL_app (S : List Nat) (y : Nat) : nodesL (S ++ [y]) = nodesL S ++ [(y : Int)] := by simp [nodesL]
def goneB (gl : List Int) (z : Nat) : Bool := decide ((z : Int) ∈ gl)
theorem nw_none (n : Nat) : nw (fun _ => false) n = [] := by
  induction n with
  | zero => rfl
  | succ n ih => rw [nw_no rfl, ih]

set_option maxHeartbeats 8000000 in
set_option maxRecDepth 100000 in
theorem l5Later_any (n x : Nat) (gl : List Int) (v u : Value) (l : List Ed) (w : World) (h : Edges w v l) (hl : l.length ≤ 1048576) (hu : Ints w u gl) (hgl : gl.length ≤ 1048576) (hn8 : n ≤ 8) (hx : x < n) :
    Calls Try.prog 126 #[.agg #[.int .i64 (n : Int), v], u, .int .i64 (x : Int)] w (RowI w (nw (laterB n l (goneB gl) x) n)) := by
  obtain ⟨i0, hi, hz0, hz1, hz2⟩ := info_parts infoInt
  obtain ⟨A, c, rfl, -⟩ := h.form
  obtain ⟨A2, c2, rfl, -⟩ := hu.form
  have H := Lib.hid h
  have HU := Lib.hid hu
  have b1 : Below w.heap.size w (w.alloc (.cells #[.int .i64 (n : Int), .slice A l.length c] 29)) := (Below.refl _ _).alloc (Nat.le_refl _) _
  have HB0 : Hid (Below w.heap.size w (((w.alloc (.cells #[.int .i64 (n : Int), .slice A l.length c] 29)).alloc (.cells #[] 3)).alloc (.cells #[.int .i64 (x : Int)] 3))) := (b1.alloc (by simp) _).alloc (by simp; omega) _
  have HG0 := Lib.hid (((Blk.new w 29 #[.int .i64 (n : Int), .slice A l.length c]).alloc (.cells #[] 3)).alloc (.cells #[.int .i64 (x : Int)] 3))
  have HO0 : Hid ((((w.alloc (.cells #[.int .i64 (n : Int), .slice A l.length c] 29)).alloc (.cells #[] 3)).alloc (.cells #[.int .i64 (x : Int)] 3)).ownsRow w.heap.size 3 1 (.slice (some ⟨w.heap.size + 1, 0, none⟩) 0 0) (nw (fun _ => false) n).length (cellsI (nw (fun _ => false) n))) := by
    show World.ownsRow _ _ _ _ _ _ _
    rw [nw_none]
    have h_ := (own_new0 (w.alloc (.cells #[.int .i64 (n : Int), .slice A l.length c] 29)) 3 1).alloc (.cells #[.int .i64 (x : Int)] 3)
    rw [World.size_alloc] at h_
    exact own_base h_ (by omega)
  have HS0 : Hid ((((w.alloc (.cells #[.int .i64 (n : Int), .slice A l.length c] 29)).alloc (.cells #[] 3)).alloc (.cells #[.int .i64 (x : Int)] 3)).ownsRow w.heap.size 3 1 (.slice (some ⟨w.heap.size + 1 + 1, 0, none⟩) 1 1) (nodesL [x]).length (cellsI (nodesL [x]))) := by
    have h_ := own_new1 ((w.alloc (.cells #[.int .i64 (n : Int), .slice A l.length c] 29)).alloc (.cells #[] 3)) 3 (x : Int)
    rw [World.size_alloc, World.size_alloc] at h_
    exact own_base h_ (by omega)
  have HL0 : Hid (Later n l (goneB gl) x 0 0 [x] (fun _ => false)) := Later.start hx
  have HA0 : Hid (∀ k, (Value.slice (some ⟨w.heap.size + 1 + 1, 0, none⟩) 1 1).ownBlock = some k → (Value.slice (some ⟨w.heap.size + 1, 0, none⟩) 0 0).ownBlock ≠ some k) := fun k hk hk' => by
    simp [Value.ownBlock] at hk hk'
    omega
  have HX := Lib.hid hx
  clear h hu b1
  go_enter Try.func126, Try.ntmps126
  go_wp2_with fail
  go_loopg [7, 8, 9] (n + 1) (fun g ov sv kv wr => ∃ (k : Nat) (S : List Nat) (o : Nat → Bool) (ow sw : Value), ow = ov ∧ sw = sv ∧ k + g = n + 1 ∧ k ≤ S.length ∧ kv = .int .i64 (k : Int) ∧ Hid (Later n l (goneB gl) x k 0 S o) ∧
    wr.ownsRow w.heap.size 3 1 ow (nw o n).length (cellsI (nw o n)) ∧ wr.ownsRow w.heap.size 3 1 sw (nodesL S).length (cellsI (nodesL S)) ∧ Hid (∀ k, sw.ownBlock = some k → ow.ownBlock ≠ some k) ∧
    Blk wr w.heap.size 29 #[.int .i64 (n : Int), .slice A l.length c] ∧ Below w.heap.size w wr)
  case atStart => exact ⟨0, [x], _, _, _, rfl, rfl, by omega, by simp, rfl, HL0, HO0.out, HS0.out, HA0, HG0.out, HB0.out⟩
  case round =>
    clear HB0 HG0 HO0 HS0 HL0 HA0
    obtain ⟨k, S, o, ow, sw, rfl, rfl, hkg, hkS, rfl, hlt, hro, hrs, hap, hgb, hB⟩ := hrel
    have hSl := hlt.out.len
    have hSn := nodesL_len S
    obtain ⟨A3, c3, rfl⟩ := own_form hrs
    by_cases hk : k < S.length
    · obtain ⟨z, hz⟩ : ∃ z, S[k]? = some z := ⟨_, List.getElem?_eq_getElem hk⟩
      have hzn := (hlt.out.seen z (List.mem_of_getElem? hz)).1
      have hk' : (k : Int) < ((nodesL S).length : Int) := by omega
      obtain ⟨g2, rfl⟩ : ∃ g2, gk = g2 + 1 := ⟨gk - 1, by omega⟩
      obtain ⟨_, _, hf, hcc⟩ := (show Ints wr (.slice A3 (nodesL S).length c3) (nodesL S) from Reads.of_own hrs).form
      cases hf
      obtain ⟨g3, o3, rfl, q3⟩ := hcc k _ (nodesL_at hz)
      obtain ⟨p0, p1, -, -⟩ := hgb.two
      have HNB := Lib.hid (neigh.l2Neighbors_any n (z : Int) (.slice A l.length c) l wr.drew (H.out.below hB.drew) hl hn8)
      have HRO := Lib.hid hro
      have HRS := Lib.hid hrs
      have HG := Lib.hid hgb
      have HB := Lib.hid hB
      have HZ := Lib.hid hz
      have HSN := Lib.hid hSn
      have HNL := nw_len (fun y => adj l (z : Int) y) n
      clear hro hrs hgb hB hz hcc hSn
      generalize hNN : nw (fun y => adj l (z : Int) y) n = N1 at HNB HNL
      have HN1 := Lib.hid hNN
      clear hNN
      go_wp2_with fail
      go_still_tail 5, (by kernel_rfl)
      change wpList _ _ _ _ _ wr.drew
      go_wp2_with fail
      refine HNB.out.mono ?_
      rintro e w3 ⟨A5, c5, rfl, o5, b5⟩
      have d5 : Below wr.heap.size wr w3 := (Below.refl _ _).drew.trans b5
      have HO5 := Lib.hid (own_base (B' := w.heap.size) o5 HB.out.size)
      have HRO3 := Lib.hid (own_below HRO.out d5)
      have HRS3 := Lib.hid (own_below HRS.out d5)
      have HG3 := Lib.hid (HG.out.below d5 HG.out.lt)
      have HB3 := Lib.hid (btrans HB.out d5)
      have HAP3 : Hid (∀ k, (Value.slice (some ⟨g3, o3, none⟩) (nodesL S).length c3).ownBlock = some k → (Value.slice A5 N1.length c5).ownBlock ≠ some k) := fun q hq hq' => by
        have h1 := (HRS.out.lt q hq).2
        have h2 := (o5.lt q hq').1
        have h3 : wr.heap.size = wr.drew.heap.size := rfl
        omega
      clear HNB o5 b5 d5 p0 p1 q3 HRO HRS HG
      go_wp2_with fail
      go_loopg [7, 8, 11] N1.length (fun g ov sv iv wi => ∃ (i : Nat) (S : List Nat) (o : Nat → Bool) (ow sw : Value), ow = ov ∧ sw = sv ∧ i + g = N1.length ∧ iv = .int .i64 (i : Int) ∧ Hid (Later n l (goneB gl) x k i S o ∧ S[k]? = some z) ∧
        wi.ownsRow w.heap.size 3 1 ow (nw o n).length (cellsI (nw o n)) ∧ wi.ownsRow w.heap.size 3 1 sw (nodesL S).length (cellsI (nodesL S)) ∧ wi.ownsRow w.heap.size 3 1 (.slice A5 N1.length c5) N1.length (cellsI N1) ∧
        Hid (∀ k, sw.ownBlock = some k → ow.ownBlock ≠ some k) ∧ Hid (∀ k, sw.ownBlock = some k → (Value.slice A5 N1.length c5).ownBlock ≠ some k) ∧
        Blk wi w.heap.size 29 #[.int .i64 (n : Int), .slice A l.length c] ∧ Below w.heap.size w wi)
      case atStart => exact ⟨0, S, o, _, _, rfl, rfl, by omega, rfl, ⟨hlt.out, HZ.out⟩, HRO3.out, HRS3.out, HO5.out, hap, HAP3, HG3.out, HB3.out⟩
      case round =>
        clear HRO3 HRS3 HG3 HB3 HAP3 HO5 hap hlt HZ HSN hk hk' hSl HB
        obtain ⟨i, S, o, ow, sw, rfl, rfl, hig, rfl, hlt, hro, hrs, hr5, hap, hap5, hgb, hB⟩ := hrel
        have hSl := hlt.out.1.len
        have hSn := nodesL_len S
        have hol := nw_len o n
        obtain ⟨A3, c3, rfl⟩ := own_form hrs
        obtain ⟨A4, c4, rfl⟩ := own_form hro
        cases gk with
        | zero =>
          obtain rfl : i = N1.length := by omega
          have HKS : Hid (k + 1 ≤ S.length) := (List.getElem?_eq_some_iff.1 hlt.out.2).1
          have HN : Hid (Later n l (goneB gl) x (k + 1) 0 S o) := hlt.out.1.next hlt.out.2 (by rw [HN1.out]; omega)
          have HRO := Lib.hid hro
          have HRS := Lib.hid hrs
          have HG := Lib.hid hgb
          have HB := Lib.hid hB
          clear hro hrs hr5 hgb hB hSn hSl hol
          go_wp2_with fail
          go_roundg g2
          case measure => omega
          case rel => exact ⟨k + 1, S, o, _, _, rfl, rfl, by omega, HKS.out, by go_num, HN, HRO.out, HRS.out, hap, HG.out, HB.out⟩
        | succ g4 =>
          have hit : (i : Int) < (N1.length : Int) := by omega
          obtain ⟨yv, hyv⟩ : ∃ yv, N1[i]? = some yv := ⟨_, List.getElem?_eq_getElem (by omega)⟩
          obtain ⟨y, rfl, hyn, hay⟩ := nw_at (by rw [HN1.out]; exact hyv : (nw (fun y => adj l (z : Int) y) n)[i]? = some yv)
          obtain ⟨_, _, hf, hcc⟩ := (show Ints wr (.slice A5 N1.length c5) N1 from Reads.of_own hr5).form
          cases hf
          obtain ⟨g5, o5, rfl, q5⟩ := hcc i _ hyv
          have HY : Hid ((nw (fun y => adj l (z : Int) y) n)[i]? = some (y : Int)) := by show _ = _; rw [HN1.out]; exact hyv
          have HH1 := Lib.hid (l1Has_any (.slice A3 (nodesL S).length c3) (nodesL S) (y : Int) wr (Reads.of_own hrs) (by omega))
          have HH2 := Lib.hid (l1Has_any (.slice A2 gl.length c2) gl (y : Int) wr (HU.out.below hB) hgl)
          have HPU := Lib.hid (l1Put_both (.slice A4 (nw o n).length c4) (nw o n) (y : Int) wr (Reads.of_own hro) (by omega) (covs.nw_asc _ _))
          have HLT := Lib.hid hlt.out
          have HLO := Lib.hid hro.lt
          have HLS := Lib.hid hrs.lt
          have HL5 := Lib.hid hr5.lt
          have HRO := Lib.hid hro
          have HR5 := Lib.hid hr5
          have HG := Lib.hid hgb
          have HB := Lib.hid hB
          have HSN := Lib.hid hSn
          have hsl8 : (nodesL S).length ≤ 8 := by omega
          have hsz := hB.size
          clear hro hr5 hgb hB hcc hyv hay hlt hSn
          by_cases hm : y ∈ S
          · rw [show decide ((y : Int) ∈ nodesL S) = true from decide_eq_true (mem_nodesL.2 hm)] at HH1
            have HN : Hid (Later n l (goneB gl) x k (i + 1) S o ∧ S[k]? = some z) := ⟨HLT.out.1.skip HLT.out.2 HY.out hm, HLT.out.2⟩
            have HRS := Lib.hid hrs
            clear hm hrs HPU HH2
            go_wp2_with fail
            refine HH1.out.mono ?_
            rintro e w' ⟨rfl, rfl⟩
            go_wp2_with fail
            go_roundg g4
            case measure => omega
            case rel => exact ⟨i + 1, S, o, _, _, rfl, rfl, by omega, by go_num, HN, HRO.out, HRS.out, HR5.out, hap, hap5, HG.out, HB.out⟩
          · rw [show decide ((y : Int) ∈ nodesL S) = false from decide_eq_false (fun hh => hm (mem_nodesL.1 hh))] at HH1
            cases hG : goneB gl y with
            | true =>
              rw [show decide ((y : Int) ∈ gl) = true from hG] at HH2
              have HN : Hid (Later n l (goneB gl) x k (i + 1) (S ++ [y]) o ∧ (S ++ [y])[k]? = some z) := ⟨HLT.out.1.see HLT.out.2 HY.out hm hG, by
                rw [List.getElem?_append_left (List.getElem?_eq_some_iff.1 HLT.out.2).1]; exact HLT.out.2⟩
              have HNA := Lib.hid (nodesL_app S y)
              clear hm hG HPU
              generalize nodesL S = m at *
              go_wp2_with fail
              refine HH1.out.mono ?_
              rintro e w' ⟨rfl, rfl⟩
              go_wp2_with fail
              refine HH2.out.mono ?_
              rintro e w' ⟨rfl, rfl⟩
              go_wp2_with (at_builtin; refine wpList_append_own_at _ rfl _ _ 25 rfl (w.heap.size) 3 i0 (.int .i64 0) 1 8 Try.underlying25 hi hz0 hz1 hz2 rfl (by decide) _ _ _ rfl (hrs.alloc _) ⟨wr.heap.size, 0, none⟩ 1 1 [.int .i64 ((y : Int))] rfl rfl (cell_one_new _ _ _) (fun x hx => by simp at hx; subst hx; rfl) (by unfold maxLen; omega) (by omega) (by simp; omega) ?_; intro v2 w2 hown2 hgrow2 _ hl2)
              have HROA := Lib.hid ((HRO.out.alloc (.cells #[.int .i64 (y : Int)] 3)).kept hgrow2 (apart_or hap.out))
              have HR5A := Lib.hid ((HR5.out.alloc (.cells #[.int .i64 (y : Int)] 3)).kept hgrow2 (apart_or hap5.out))
              have HAPA : Hid (∀ k, v2.ownBlock = some k → (Value.slice A4 (nw o n).length c4).ownBlock ≠ some k) := apart_grow hap.out hl2 (fun q hq => by have := (HLO.out q hq).2; simp; omega)
              have HAP5A : Hid (∀ k, v2.ownBlock = some k → (Value.slice (some ⟨g5, o5, none⟩) N1.length c5).ownBlock ≠ some k) := apart_grow hap5.out hl2 (fun q hq => by have := (HL5.out q hq).2; simp; omega)
              obtain ⟨hown3, hB2⟩ := push1 hrs hown2 hgrow2 HB.out.size
              rw [← HNA.out] at hown3
              have HB6 := Lib.hid (HB.out.trans hB2)
              have HG7 := Lib.hid ((HG.out.alloc (.cells #[.int .i64 (y : Int)] 3)).grown hgrow2 (fun e => mids.own_ne hrs HG.out (by decide) e.symm))
              have HO6 := Lib.hid hown3
              clear hgrow2 hown2 hown3 hB2 hl2 hrs
              go_roundg g4
              case measure => omega
              case rel => exact ⟨i + 1, S ++ [y], o, _, _, rfl, rfl, by omega, by go_num, HN, HROA.out, HO6.out, HR5A.out, HAPA, HAP5A, HG7.out, HB6.out⟩
            | false =>
              rw [show decide ((y : Int) ∈ gl) = false from hG] at HH2
              have HN : Hid (Later n l (goneB gl) x k (i + 1) S (pput o y) ∧ S[k]? = some z) := ⟨HLT.out.1.put HLT.out.2 HY.out hm hG, HLT.out.2⟩
              have HRS := Lib.hid hrs
              have HYN := Lib.hid hyn
              clear hm hG hrs
              go_wp2_with fail
              refine HH1.out.mono ?_
              rintro e w' ⟨rfl, rfl⟩
              go_wp2_with fail
              refine HH2.out.mono ?_
              rintro e w' ⟨rfl, rfl⟩
              go_wp2_with fail
              refine HPU.out.mono ?_
              rintro e w7 ⟨L, A7, c7, rfl, hp7, -, b7, h7⟩
              have HL := Lib.hid (pput_is hp7 HYN.out)
              have HO7 : Hid (w7.ownsRow w.heap.size 3 1 (.slice A7 L.length c7) L.length (cellsI L)) := by
                rcases h7 with ⟨rfl, e7, e8⟩ | h7
                · show World.ownsRow _ _ _ _ _ _ _
                  rw [e7, e8]; exact HRO.out
                · exact own_base h7 HB.out.size
              have HAP7 : Hid (∀ k, (Value.slice A3 (nodesL S).length c3).ownBlock = some k → (Value.slice A7 L.length c7).ownBlock ≠ some k) := by
                rcases h7 with ⟨rfl, e7, e8⟩ | h7
                · show ∀ k, _
                  rw [e7]; exact hap.out
                · intro q hq hq'
                  have h1 := (HLS.out q hq).2
                  have h2 := (h7.lt q hq').1
                  omega
              have HRS7 := Lib.hid (own_below HRS.out b7)
              have HR57 := Lib.hid (own_below HR5.out b7)
              have HG7 := Lib.hid (HG.out.below b7 HG.out.lt)
              have HB7 := Lib.hid (btrans HB.out b7)
              clear b7 hp7 h7
              go_wp2_with fail
              go_roundg g4
              case measure => omega
              case rel => exact ⟨i + 1, S, pput o y, _, _, rfl, rfl, by omega, by go_num, HN, by rw [← HL.out]; exact HO7.out, HRS7.out, HR57.out, by first | exact HAP7 | (rw [← HL.out]; exact HAP7), hap5, HG7.out, HB7.out⟩
    · have hk' : ¬ (k : Int) < ((nodesL S).length : Int) := by omega
      have dk : decide ((k : Int) < ((nodesL S).length : Int)) = false := decide_eq_false hk'
      have HALL : Hid (nw o n = nw (laterB n l (goneB gl) x) n) := by
        obtain rfl : k = S.length := by omega
        exact hlt.out.all HX.out
      obtain ⟨A4, c4, rfl⟩ := own_form hro
      have HR := Lib.hid hro
      have HB := Lib.hid hB
      clear hro hrs hgb hB hSl
      go_wp2_with fail
      go_ret
      rw [← HALL.out]
      exact ⟨A4, c4, rfl, HR.out, HB.out⟩
end Go.Proofs.Ytphlpipbhaiijaa.bags

/- Fronts of sets: plain mathematics. -/
namespace Go.Proofs.Ytphlpipbhaiijaa.fronts
open Go.RowKit P2 words edges ints fns sets covs reach bags
set_option linter.unusedVariables false

/-- a node of the front of a set -/
def frontB (l : List Ed) (n : Nat) (S : Nat → Bool) (x : Nat) : Bool := S x && (List.range n).any fun y => !S y && adj l x y
theorem frontB_iff {l : List Ed} {n : Nat} {S : Nat → Bool} {x : Nat} : frontB l n S x = true ↔ S x = true ∧ ∃ y, y < n ∧ S y = false ∧ adj l x y = true := by
  unfold frontB
  rw [Bool.and_eq_true, List.any_eq_true]
  simp only [List.mem_range, Bool.and_eq_true, Bool.not_eq_true']
theorem frontB_congr {l : List Ed} {n : Nat} {S T : Nat → Bool} (h : ∀ z, z < n → S z = T z) {x : Nat} (hx : x < n) : frontB l n S x = frontB l n T x := by
  rw [Bool.eq_iff_iff, frontB_iff, frontB_iff, h x hx]
  constructor
  · rintro ⟨h1, y, hy, h2, h3⟩; exact ⟨h1, y, hy, by rw [← h y hy]; exact h2, h3⟩
  · rintro ⟨h1, y, hy, h2, h3⟩; exact ⟨h1, y, hy, by rw [h y hy]; exact h2, h3⟩
/-- as the program reckons it -/
theorem front_bits {l : List Ed} {n : Nat} {S : Nat → Bool} {z : Nat} (hz : z < n) : (arB l n (numOf (fun y => !S y) n) z && S z) = frontB l n S z := by
  rw [Bool.eq_iff_iff, Bool.and_eq_true, arB_iff, frontB_iff]
  constructor
  · rintro ⟨⟨x, hx, hb, he⟩, hs⟩
    rw [numOf_bit, Bool.and_eq_true] at hb
    have hb2 : S x = false := by have := hb.2; simpa using this
    refine ⟨hs, x, hx, hb2, ?_⟩
    rcases he with rfl | he
    · rw [hs] at hb2; cases hb2
    · rw [adj_comm]; exact he
  · rintro ⟨hs, y, hy, hb, he⟩
    refine ⟨⟨y, hy, ?_, .inr (by rw [adj_comm]; exact he)⟩, hs⟩
    rw [numOf_bit]; simp [hy, hb]
/-- the front of a list, found by the first i of its nodes and k nodes for the next one -/
def FrK (n : Nat) (l : List Ed) (xs : List Int) (i k : Nat) (p : Nat → Bool) : Prop :=
  ∀ z, z < n → (p z = true ↔ (∃ j, j < i ∧ xs[j]? = some (z : Int) ∧ ∃ y : Nat, y < n ∧ goneB xs y = false ∧ adj l z y = true) ∨ (xs[i]? = some (z : Int) ∧ ∃ y : Nat, y < k ∧ goneB xs y = false ∧ adj l z y = true))
section
variable {n : Nat} {l : List Ed} {xs : List Int} {i k : Nat} {p : Nat → Bool}
theorem FrK.start (n : Nat) (l : List Ed) (xs : List Int) : FrK n l xs 0 0 (fun _ => false) := fun z _ => by
  constructor
  · intro h; cases h
  · rintro (⟨j, hj, _⟩ | ⟨_, y, hy, _⟩) <;> omega
theorem FrK.next (h : FrK n l xs i n p) : FrK n l xs (i + 1) 0 p := fun z hz => by
  rw [h z hz]
  constructor
  · rintro (⟨j, hj, h1, h2⟩ | ⟨h1, h2⟩)
    · exact .inl ⟨j, by omega, h1, h2⟩
    · exact .inl ⟨i, by omega, h1, h2⟩
  · rintro (⟨j, hj, h1, h2⟩ | ⟨_, y, hy, _⟩)
    · by_cases e : j = i
      · subst e; exact .inr ⟨h1, h2⟩
      · exact .inl ⟨j, by omega, h1, h2⟩
    · omega
theorem FrK.put {x : Nat} (h : FrK n l xs i k p) (hx : xs[i]? = some (x : Int)) (hg : goneB xs k = false) (ha : adj l x k = true) (hk : k < n) : FrK n l xs i (k + 1) (pput p x) := fun z hz => by
  unfold pput
  rw [Bool.or_eq_true, decide_eq_true_iff, h z hz]
  constructor
  · rintro ((h1 | ⟨h1, y, hy, h2⟩) | rfl)
    · exact .inl h1
    · exact .inr ⟨h1, y, by omega, h2⟩
    · exact .inr ⟨hx, k, by omega, hg, ha⟩
  · rintro (h1 | ⟨h1, y, hy, h2⟩)
    · exact .inl (.inl h1)
    · rw [hx] at h1
      have : (x : Int) = (z : Int) := by simpa using h1
      exact .inr (by omega)
theorem FrK.skip {x : Nat} (h : FrK n l xs i k p) (hx : xs[i]? = some (x : Int)) (hn : goneB xs k = true ∨ adj l x k = false) : FrK n l xs i (k + 1) p := fun z hz => by
  rw [h z hz]
  constructor
  · rintro (h1 | ⟨h1, y, hy, h2⟩)
    · exact .inl h1
    · exact .inr ⟨h1, y, by omega, h2⟩
  · rintro (h1 | ⟨h1, y, hy, h2, h3⟩)
    · exact .inl h1
    · refine .inr ⟨h1, y, ?_, h2, h3⟩
      by_cases e : y = k
      · subst e
        rw [hx] at h1
        have e2 : (x : Int) = (z : Int) := by simpa using h1
        rcases hn with hn | hn
        · rw [hn] at h2; cases h2
        · rw [e2, h3] at hn; cases hn
      · omega
theorem FrK.all (h : FrK n l xs xs.length 0 p) : nw p n = nw (frontB l n (goneB xs)) n := reach.nw_congr fun z hz => by
  rw [Bool.eq_iff_iff, h z hz, frontB_iff]
  constructor
  · rintro (⟨j, _, h1, h2⟩ | ⟨_, y, hy, _⟩)
    · exact ⟨decide_eq_true (List.mem_of_getElem? h1), h2⟩
    · omega
  · rintro ⟨h1, h2⟩
    obtain ⟨j, hj⟩ := List.getElem?_of_mem (of_decide_eq_true h1)
    exact .inl ⟨j, (List.getElem?_eq_some_iff.1 hj).1, hj, h2⟩
end
/-- a list as a number -/
theorem code_gone {xs : List Int} {n : Nat} (h : ∀ x ∈ xs, 0 ≤ x ∧ x < (n : Int)) : codeL xs = numOf (goneB xs) n := by
  apply Nat.eq_of_testBit_eq
  intro i
  rw [code_bit (fun x hx => (h x hx).1), numOf_bit]
  unfold goneB
  by_cases hi : i < n
  · simp [hi]
  · have : ¬ (i : Int) ∈ xs := fun hm => by have := h _ hm; omega
    simp [hi, this]
end Go.Proofs.Ytphlpipbhaiijaa.fronts

/- The contract of graphWhere: the Graph of the edges that a function value allows. -/
namespace Go.Proofs.Ytphlpipbhaiijaa.gws
open Go.RowKit P2 words edges fns

/-- what graphWhere holds of its Graph in the midst: its block, its edges -/
def Mid (w wr : World) (n : Nat) (l : List Ed) : Prop :=
  ∃ A c, Blk wr (w.heap.size + 1) 29 #[.int .i64 (n : Int), .slice A l.length c] ∧ wr.ownsRow (w.heap.size + 2) 104 2 (.slice A l.length c) l.length (cellsE l) ∧
    Blk wr w.heap.size 29 #[.int .i64 0, .slice none 0 0] ∧ Below w.heap.size w wr
theorem Mid.call {w wr w1 : World} {n : Nat} {l : List Ed} (h : Mid w wr n l) (hb : Below wr.heap.size wr w1) : Mid w w1 n l := by
  obtain ⟨A, c, h1, h2, h3, h4⟩ := h
  exact ⟨A, c, h1.below hb h1.lt, own_below h2 hb, h3.below hb h3.lt, h4.trans (hb.mono h4.size)⟩
theorem Mid.push {w w1 w2 : World} {n m : Nat} {l : List Ed} {e : Ed} {A : Option Addr} {c : Nat} {o : Obj} {v : Value}
    (hB1 : Blk w1 (w.heap.size + 1) 29 #[.int .i64 (n : Int), .slice A l.length c]) (hr : w1.ownsRow (w.heap.size + 2) 104 2 (.slice A l.length c) l.length (cellsE l))
    (hR : Blk w1 w.heap.size 29 #[.int .i64 0, .slice none 0 0]) (hb : Below w.heap.size w w1)
    (hown : w2.ownsRow (w.heap.size + 2) 104 2 v (l.length + m) (cellsE (l ++ [e]))) (hm : m = 1) (hg : (w1.alloc o).grownBy w2 (Value.slice A l.length c).ownBlock) :
    ∃ A' c', v = .slice A' (l ++ [e]).length c' ∧ Mid w (w2.setCell ⟨w.heap.size + 1, 1, none⟩ (.slice A' (l ++ [e]).length c')) n (l ++ [e]) ∧ Blk w2 (w.heap.size + 1) 29 #[.int .i64 (n : Int), .slice A l.length c] := by
  subst hm
  obtain ⟨A', c', rfl⟩ := own_form hown
  have hlen : (l ++ [e]).length = l.length + 1 := by simp
  rw [← hlen] at hown ⊢
  have hne : ∀ k, (Value.slice A l.length c).ownBlock = some k → w.heap.size + 2 ≤ k := fun k hk => (hr.lt k hk).1
  have hs1 : w.heap.size + 1 < w1.heap.size := hB1.lt
  have hblk : Blk w2 (w.heap.size + 1) 29 #[.int .i64 (n : Int), .slice A l.length c] := (hB1.alloc o).grown hg (fun hh => by have := hne _ hh.symm; omega)
  have hblk0 : Blk w2 w.heap.size 29 #[.int .i64 0, .slice none 0 0] := (hR.alloc o).grown hg (fun hh => by have := hne _ hh.symm; omega)
  refine ⟨A', c', rfl, ⟨A', c', ?_, ownsRow_setCell_below hown (by simp) _, hblk0.far (by simp) _, ?_⟩, hblk⟩
  · have := hblk.set_ 1 (.slice A' (l ++ [e]).length c')
    simpa using this
  · exact ((hb.alloc (by omega) o).grown hg (by simp; omega) (fun k hk => by have := hne k hk; omega)).setCell (by simp) _

end Go.Proofs.Ytphlpipbhaiijaa.gws
