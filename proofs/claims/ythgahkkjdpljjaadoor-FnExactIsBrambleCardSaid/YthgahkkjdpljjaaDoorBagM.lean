/- What is connected within a set, and the neighbors in a filling: plain mathematics. -/
import Derived.Test.YthgahkkjdpljjaaDoorReachM
namespace Go.Proofs.YthgahkkjdpljjaaDoor.bags
open Go.RowKit P2 words edges ints fns sets covs reach
set_option linter.unusedVariables false

def J2 (l : List Ed) (a b : Nat) : Bool := adj l a b
/-- the nodes that ways in q connect with some of P -/
noncomputable def connB (n : Nat) (J : Nat → Nat → Bool) (q P : Nat → Bool) (z : Nat) : Bool := @decide (∃ x, x < n ∧ P x = true ∧ Rch n J q x z) (Classical.propDecidable _)
theorem connB_iff {n : Nat} {J : Nat → Nat → Bool} {q P : Nat → Bool} {z : Nat} : connB n J q P z = true ↔ ∃ x, x < n ∧ P x = true ∧ Rch n J q x z := by
  unfold connB; exact @decide_eq_true_iff _ (Classical.propDecidable _)
theorem connB_one {n : Nat} {J : Nat → Nat → Bool} {q : Nat → Bool} {x z : Nat} (hx : x < n) : connB n J q (fun y => decide (y = x)) z = reachB n J q x z := by
  rw [Bool.eq_iff_iff, connB_iff, reachB_iff]
  constructor
  · rintro ⟨y, hy, hp, hr⟩
    have := of_decide_eq_true hp
    subst this
    exact hr
  · intro h
    exact ⟨x, hx, by simp, h⟩
theorem Rch.mono {n : Nat} {J : Nat → Nat → Bool} {q q' : Nat → Bool} {x z : Nat} (h : Rch n J q x z) (hq : ∀ y, y < n → q y = true → q' y = true) : Rch n J q' x z := by
  induction h with
  | base => exact .base
  | step _ hJ hqb hb ih => exact .step ih hJ (hq _ hb hqb) hb
theorem Rch.trans {n : Nat} {J : Nat → Nat → Bool} {q : Nat → Bool} {x y z : Nat} (h : Rch n J q x y) (k : Rch n J q y z) : Rch n J q x z := by
  induction k with
  | base => exact h
  | step _ hJ hqb hb ih => exact .step ih hJ hqb hb
theorem Rch.ahead {n : Nat} {J : Nat → Nat → Bool} {q : Nat → Bool} {x y z : Nat} (hJ : J x y = true) (hy : y < n) (hq : q y = true) (k : Rch n J q y z) : Rch n J q x z :=
  Rch.trans (.step .base hJ hq hy) k
theorem Rch.symm {n : Nat} {J : Nat → Nat → Bool} {q : Nat → Bool} {x z : Nat} (hs : ∀ a b, J a b = J b a) (hx : x < n) (hqx : q x = true) (h : Rch n J q x z) : Rch n J q z x := by
  induction h with
  | base => exact .base
  | step ha hJ hqb hb ih => exact Rch.ahead ((hs _ _).trans hJ) (ha.lt hx) (ha.inq hqx) ih
/-- the closed neighborhood of a set -/
def arB (l : List Ed) (n : Nat) (c y : Nat) : Bool := (List.range n).any fun x => c.testBit x && ((x == y) || adj l x y)
theorem arB_iff {l : List Ed} {n c y : Nat} : arB l n c y = true ↔ ∃ x, x < n ∧ c.testBit x = true ∧ (x = y ∨ adj l x y = true) := by
  unfold arB
  rw [List.any_eq_true]
  simp only [List.mem_range, Bool.and_eq_true, Bool.or_eq_true, beq_iff_eq]
def arN (l : List Ed) (n c : Nat) : Nat := numOf (arB l n c) n
def arK (l : List Ed) (c : Nat) : Nat → Nat
  | 0 => 0
  | k + 1 => if c.testBit k = true then arK l c k ||| cloB l k else arK l c k
theorem arK_yes {l : List Ed} {c k : Nat} (h : c.testBit k = true) : arK l c (k + 1) = arK l c k ||| cloB l k := by rw [arK, if_pos h]
theorem arK_no {l : List Ed} {c k : Nat} (h : c.testBit k = false) : arK l c (k + 1) = arK l c k := by rw [arK, if_neg (by simp [h])]
theorem arK_bit {s : Int} {l : List Ed} (hg : P2.Good s l) (c y : Nat) : ∀ k, (arK l c k).testBit y = arB l k c y
  | 0 => by simp [arK, arB]
  | k + 1 => by
    have ih := arK_bit hg c y k
    have h2 : arB l (k + 1) c y = (arB l k c y || (c.testBit k && ((k == y) || adj l k y))) := by
      unfold arB; rw [List.range_succ, List.any_append]; simp
    rw [h2]
    cases hb : c.testBit k with
    | true => rw [arK_yes hb, Nat.testBit_or, ih, cloB_bit hg]; simp
    | false => rw [arK_no hb, ih]; simp
theorem arK_lt {s : Int} {l : List Ed} (hg : P2.Good s l) (c : Nat) {k : Nat} (hk : k ≤ 8) : arK l c k < 256 := by
  have := hg.2.1
  refine Nat.lt_pow_two_of_testBit (n := 8) _ fun i hi => ?_
  rw [arK_bit hg]
  cases h : arB l k c i with
  | false => rfl
  | true =>
    obtain ⟨x, hx, _, rfl | ha⟩ := arB_iff.1 h
    · omega
    · have := (adj_node hg ha).2; omega
theorem arK_all {n : Nat} {l : List Ed} (hg : P2.Good (n : Int) l) (c : Nat) : arK l c n = arN l n c := by
  apply Nat.eq_of_testBit_eq
  intro i
  unfold arN
  rw [arK_bit hg, numOf_bit]
  cases h : arB l n c i with
  | false => simp
  | true =>
    obtain ⟨x, hx, _, rfl | ha⟩ := arB_iff.1 h
    · simp [hx]
    · have := (adj_node hg ha).2
      have h9 : i < n := by omega
      simp [h9]
theorem num_ext {p p' : Nat → Bool} {n : Nat} (h : ∀ z, z < n → p z = p' z) : numOf p n = numOf p' n := by
  apply Nat.eq_of_testBit_eq
  intro i
  rw [numOf_bit, numOf_bit]
  by_cases hi : i < n
  · rw [h i hi]
  · simp [hi]
theorem num_inj {p p' : Nat → Bool} {n : Nat} (h : numOf p n = numOf p' n) : ∀ z, z < n → p z = p' z := fun z hz => by
  have h1 := numOf_bit p n z
  have h2 := numOf_bit p' n z
  rw [h, h2] at h1
  simpa [hz] using h1.symm
theorem num_and (p q : Nat → Bool) (n : Nat) : numOf p n &&& numOf q n = numOf (fun z => p z && q z) n := by
  apply Nat.eq_of_testBit_eq
  intro i
  rw [Nat.testBit_and, numOf_bit, numOf_bit, numOf_bit]
  by_cases hi : i < n <;> simp [hi]
/-- a round of the search -/
def mored (l : List Ed) (n : Nat) (q p : Nat → Bool) (y : Nat) : Bool := arB l n (numOf p n) y && q y
theorem mored_iff {l : List Ed} {n : Nat} {q p : Nat → Bool} {y : Nat} : mored l n q p y = true ↔ (∃ x, x < n ∧ p x = true ∧ (x = y ∨ adj l x y = true)) ∧ q y = true := by
  unfold mored
  rw [Bool.and_eq_true, arB_iff]
  constructor
  · rintro ⟨⟨x, hx, hp, h⟩, hq⟩
    rw [numOf_bit] at hp
    exact ⟨⟨x, hx, by simpa [hx] using hp, h⟩, hq⟩
  · rintro ⟨⟨x, hx, hp, h⟩, hq⟩
    exact ⟨⟨x, hx, by rw [numOf_bit]; simp [hx, hp], h⟩, hq⟩
/-- the search so far: p has the nodes found -/
def Conn (n : Nat) (l : List Ed) (q P p : Nat → Bool) : Prop := (∀ z, z < n → P z = true → p z = true) ∧ (∀ z, z < n → p z = true → connB n (J2 l) q P z = true) ∧ ∀ z, z < n → p z = true → q z = true
section
variable {n : Nat} {l : List Ed} {q P p : Nat → Bool}
theorem Conn.first (hP : ∀ z, z < n → P z = true → q z = true) : Conn n l q P P :=
  ⟨fun _ _ h => h, fun z hz h => connB_iff.2 ⟨z, hz, h, .base⟩, hP⟩
theorem Conn.sub (h : Conn n l q P p) : ∀ z, z < n → p z = true → mored l n q p z = true := fun z hz hp => mored_iff.2 ⟨⟨z, hz, hp, .inl rfl⟩, h.2.2 z hz hp⟩
theorem Conn.next (h : Conn n l q P p) : Conn n l q P (mored l n q p) := by
  refine ⟨fun z hz hp => h.sub z hz (h.1 z hz hp), fun z hz hm => ?_, fun z hz hm => (mored_iff.1 hm).2⟩
  obtain ⟨⟨x, hx, hp, he⟩, hq⟩ := mored_iff.1 hm
  obtain ⟨a, ha, hPa, hr⟩ := connB_iff.1 (h.2.1 x hx hp)
  rcases he with rfl | he
  · exact connB_iff.2 ⟨a, ha, hPa, hr⟩
  · exact connB_iff.2 ⟨a, ha, hPa, .step hr he hq hz⟩
theorem Conn.done (h : Conn n l q P p) (he : numOf (mored l n q p) n = numOf p n) : numOf p n = numOf (connB n (J2 l) q P) n := by
  have hi := num_inj he
  have hin : ∀ a z, a < n → P a = true → Rch n (J2 l) q a z → p z = true := by
    intro a z ha hPa hr
    induction hr with
    | base => exact h.1 a ha hPa
    | step hr hJ hqb hb ih => rw [← hi _ hb]; exact mored_iff.2 ⟨⟨_, hr.lt ha, ih, .inr hJ⟩, hqb⟩
  refine num_ext fun z hz => ?_
  rw [Bool.eq_iff_iff]
  constructor
  · exact h.2.1 z hz
  · intro hc
    obtain ⟨a, ha, hPa, hr⟩ := connB_iff.1 hc
    exact hin a z ha hPa hr
theorem Conn.grow (h : Conn n l q P p) (hne : numOf (mored l n q p) n ≠ numOf p n) : (nw p n).length < (nw (mored l n q p) n).length := by
  obtain ⟨z, hz, hm, hp⟩ : ∃ z, z < n ∧ mored l n q p z = true ∧ p z = false := by
    apply Classical.byContradiction
    intro hno
    refine hne (num_ext fun z hz => ?_)
    rw [Bool.eq_iff_iff]
    constructor
    · intro hm
      cases hp : p z with
      | true => rfl
      | false => exact absurd ⟨z, hz, hm, hp⟩ hno
    · exact h.sub z hz
  have h1 := pput_len hp n
  rw [if_pos hz] at h1
  have h2 := nw_mono (n := n) (p := pput p z) (p' := mored l n q p) (fun y hy hpy => by
    rcases Bool.or_eq_true_iff.1 hpy with h9 | h9
    · exact h.sub y hy h9
    · have := of_decide_eq_true h9
      subst this
      exact hm)
  omega
end

/-- the neighbors behind a node in a filling: G has the nodes gone ahead of it -/
noncomputable def laterB (n : Nat) (l : List Ed) (G : Nat → Bool) (x y : Nat) : Bool :=
  !G y && decide (y ≠ x) && (List.range n).any fun z => reachB n (J2 l) (pput G x) x z && adj l z y
theorem laterB_iff {n : Nat} {l : List Ed} {G : Nat → Bool} {x y : Nat} : laterB n l G x y = true ↔ G y = false ∧ y ≠ x ∧ ∃ z, z < n ∧ Rch n (J2 l) (pput G x) x z ∧ adj l z y = true := by
  unfold laterB
  rw [Bool.and_eq_true, Bool.and_eq_true, List.any_eq_true, decide_eq_true_iff]
  simp only [List.mem_range, Bool.and_eq_true, reachB_iff, Bool.not_eq_true']
  exact and_assoc
noncomputable def bagB (n : Nat) (l : List Ed) (G : Nat → Bool) (x : Nat) : Nat → Bool := pput (laterB n l G x) x
theorem bag_len {n : Nat} {l : List Ed} {G : Nat → Bool} {x : Nat} (hx : x < n) : (nw (bagB n l G x) n).length = (nw (laterB n l G x) n).length + 1 := by
  have h := pput_len (p := laterB n l G x) (y := x) (by
    cases h : laterB n l G x x with
    | false => rfl
    | true => exact absurd rfl (laterB_iff.1 h).2.1) n
  rw [if_pos hx] at h
  exact h
/-- as the program has it -/
theorem bag_is {n : Nat} {l : List Ed} {G : Nat → Bool} {x : Nat} (hx : x < n) (hgx : G x = false) {y : Nat} (hy : y < n) :
    (arB l n (numOf (connB n (J2 l) (pput G x) (fun y => decide (y = x))) n) y && !G y) = bagB n l G x y := by
  have hpp : bagB n l G x y = (laterB n l G x y || decide (y = x)) := rfl
  rw [Bool.eq_iff_iff, Bool.and_eq_true, arB_iff, hpp]
  rw [Bool.or_eq_true, laterB_iff, decide_eq_true_iff]
  constructor
  · rintro ⟨⟨z, hz, hb, he⟩, hG⟩
    rw [numOf_bit, connB_one hx] at hb
    have hr : Rch n (J2 l) (pput G x) x z := by
      rw [Bool.and_eq_true] at hb
      exact reachB_iff.1 hb.2
    by_cases e : y = x
    · exact .inr e
    · refine .inl ⟨by simpa using hG, e, ?_⟩
      rcases he with rfl | he
      · have := hr.inq (by simp [pput])
        rcases Bool.or_eq_true_iff.1 this with h1 | h1
        · rw [h1] at hG; simp at hG
        · exact absurd (of_decide_eq_true h1) e
      · exact ⟨z, hz, hr, he⟩
  · rintro (⟨hG, hne, z, hz, hr, ha⟩ | rfl)
    · refine ⟨⟨z, hz, ?_, .inr ha⟩, by simp [hG]⟩
      rw [numOf_bit, connB_one hx, reachB_iff.2 hr]; simp [hz]
    · refine ⟨⟨y, hx, ?_, .inl rfl⟩, by simp [hgx]⟩
      rw [numOf_bit, connB_one hx, reachB_iff.2 .base]; simp [hx]

/-- the model's search: S has the nodes seen, o those that are out; k of those seen are done, and i neighbors of the next one -/
structure Later (n : Nat) (l : List Ed) (G : Nat → Bool) (x k i : Nat) (S : List Nat) (o : Nat → Bool) : Prop where
  first : S[0]? = some x
  nodup : S.Nodup
  seen : ∀ z ∈ S, z < n ∧ Rch n (J2 l) (pput G x) x z
  done : ∀ j z y : Nat, j < k → S[j]? = some z → y < n → adj l z y = true → y ∈ S ∨ o y = true
  now : ∀ z y j : Nat, S[k]? = some z → j < i → (nw (fun y => adj l z y) n)[j]? = some (y : Int) → y ∈ S ∨ o y = true
  sound : ∀ y, o y = true → y < n ∧ G y = false ∧ y ≠ x ∧ ∃ z ∈ S, adj l z y = true
section
variable {n : Nat} {l : List Ed} {G : Nat → Bool} {x k i : Nat} {S : List Nat} {o : Nat → Bool}
theorem nodup_len : ∀ {S : List Nat}, S.Nodup → (∀ z ∈ S, z < n) → S.length ≤ n := fun {S} h hz => by
  have := h.length_le_of_subset (l₂ := List.range n) (fun z hm => List.mem_range.2 (hz z hm))
  simpa using this
theorem Later.len (h : Later n l G x k i S o) : S.length ≤ n := nodup_len h.nodup fun z hz => (h.seen z hz).1
theorem Later.start (hx : x < n) : Later n l G x 0 0 [x] (fun _ => false) where
  first := rfl
  nodup := by simp
  seen := fun z hz => by rw [List.mem_singleton] at hz; subst hz; exact ⟨hx, .base⟩
  done := fun j _ _ hj => by omega
  now := fun _ _ j _ hj => by omega
  sound := fun _ h => by cases h
theorem Later.seen_old {y : Nat} (h : Later n l G x k i S o) (hy : y ∈ S) : y = x ∨ G y = true := by
  have := (h.seen y hy).2.inq (by simp [pput])
  rcases Bool.or_eq_true_iff.1 this with h1 | h1
  · exact .inr h1
  · exact .inl (of_decide_eq_true h1)
/-- one that was seen -/
theorem Later.skip {z y : Nat} (h : Later n l G x k i S o) (hz : S[k]? = some z) (hy : (nw (fun y => adj l z y) n)[i]? = some (y : Int)) (hm : y ∈ S) : Later n l G x k (i + 1) S o :=
  { h with
    now := fun z' y' j hz' hj hy' => by
      by_cases e : j = i
      · subst e
        rw [hz] at hz'; cases hz'
        rw [hy] at hy'
        have : (y : Int) = (y' : Int) := by simpa using hy'
        obtain rfl : y = y' := by omega
        exact .inl hm
      · exact h.now z' y' j hz' (by omega) hy' }
theorem Later.next {z : Nat} (h : Later n l G x k i S o) (hz : S[k]? = some z) (hi : (nw (fun y => adj l z y) n).length ≤ i) : Later n l G x (k + 1) 0 S o :=
  { h with
    done := fun j z' y hj hz' hy ha => by
      by_cases e : j = k
      · subst e
        rw [hz] at hz'; cases hz'
        obtain ⟨m, hm, hmy⟩ := at_nw (p := fun y => adj l z y) ha hy
        exact h.now z y m hz (by omega) hmy
      · exact h.done j z' y (by omega) hz' hy ha
    now := fun _ _ j _ hj => by omega }
theorem Later.see {z y : Nat} (h : Later n l G x k i S o) (hz : S[k]? = some z) (hy : (nw (fun y => adj l z y) n)[i]? = some (y : Int)) (hm : y ∉ S) (hG : G y = true) : Later n l G x k (i + 1) (S ++ [y]) o := by
  obtain ⟨y', e', hyn, ha⟩ := nw_at hy
  obtain rfl : y = y' := by omega
  have hzS := List.mem_of_getElem? hz
  have hk := (List.getElem?_eq_some_iff.1 hz).1
  have old : ∀ j v, j ≤ k → (S ++ [y])[j]? = some v → S[j]? = some v := fun j v hj hv => by rwa [List.getElem?_append_left (by omega)] at hv
  exact {
    first := by rw [List.getElem?_append_left (by omega)]; exact h.first
    nodup := by
      rw [List.nodup_append]
      exact ⟨h.nodup, by simp, fun a ha b hb e => by rw [List.mem_singleton] at hb; rw [e, hb] at ha; exact hm ha⟩
    seen := fun v hv => by
      rcases List.mem_append.1 hv with hv | hv
      · exact h.seen v hv
      · rw [List.mem_singleton] at hv
        subst hv
        exact ⟨hyn, .step (h.seen z hzS).2 ha (by simp [pput, hG]) hyn⟩
    done := fun j v u hj hv hu hvu => by
      rcases h.done j v u hj (old j v (by omega) hv) hu hvu with h1 | h1
      · exact .inl (by simp [h1])
      · exact .inr h1
    now := fun v u j hv hj hu => by
      have hv' := old k v (Nat.le_refl _) hv
      by_cases e : j = i
      · subst e
        rw [hz] at hv'; cases hv'
        rw [hy] at hu
        have : (y : Int) = (u : Int) := by simpa using hu
        obtain rfl : y = u := by omega
        exact .inl (by simp)
      · rcases h.now v u j hv' (by omega) hu with h1 | h1
        · exact .inl (by simp [h1])
        · exact .inr h1
    sound := fun u hu => by
      obtain ⟨h1, h2, h3, v, hv, h4⟩ := h.sound u hu
      exact ⟨h1, h2, h3, v, by simp [hv], h4⟩ }
theorem Later.put {z y : Nat} (h : Later n l G x k i S o) (hz : S[k]? = some z) (hy : (nw (fun y => adj l z y) n)[i]? = some (y : Int)) (hm : y ∉ S) (hG : G y = false) : Later n l G x k (i + 1) S (pput o y) := by
  obtain ⟨y', e', hyn, ha⟩ := nw_at hy
  obtain rfl : y = y' := by omega
  have hzS := List.mem_of_getElem? hz
  have hxS : x ∈ S := List.mem_of_getElem? h.first
  exact { h with
    done := fun j v u hj hv hu hvu => by
      rcases h.done j v u hj hv hu hvu with h1 | h1
      · exact .inl h1
      · exact .inr (by simp [pput, h1])
    now := fun v u j hv hj hu => by
      by_cases e : j = i
      · subst e
        rw [hz] at hv; cases hv
        rw [hy] at hu
        have : (y : Int) = (u : Int) := by simpa using hu
        obtain rfl : y = u := by omega
        exact .inr (by simp [pput])
      · rcases h.now v u j hv (by omega) hu with h1 | h1
        · exact .inl h1
        · exact .inr (by simp [pput, h1])
    sound := fun u hu => by
      rcases Bool.or_eq_true_iff.1 hu with h1 | h1
      · exact h.sound u h1
      · have := of_decide_eq_true h1
        subst this
        exact ⟨hyn, hG, fun e => hm (e ▸ hxS), z, hzS, ha⟩ }
theorem Later.all (h : Later n l G x S.length i S o) (hx : x < n) : nw o n = nw (laterB n l G x) n := by
  have hcl : ∀ z, Rch n (J2 l) (pput G x) x z → z ∈ S := by
    intro z hr
    induction hr with
    | base => exact List.mem_of_getElem? h.first
    | step ha hJ hqb hb ih =>
      obtain ⟨j, hj⟩ := List.getElem?_of_mem ih
      rcases h.done j _ _ (List.getElem?_eq_some_iff.1 hj).1 hj hb hJ with h1 | h1
      · exact h1
      · obtain ⟨_, h2, h3, _⟩ := h.sound _ h1
        rcases Bool.or_eq_true_iff.1 hqb with h4 | h4
        · rw [h2] at h4; cases h4
        · exact absurd (of_decide_eq_true h4) h3
  refine reach.nw_congr fun y hy => ?_
  rw [Bool.eq_iff_iff, laterB_iff]
  constructor
  · intro ho
    obtain ⟨_, h2, h3, z, hz, h4⟩ := h.sound y ho
    exact ⟨h2, h3, z, (h.seen z hz).1, (h.seen z hz).2, h4⟩
  · rintro ⟨h2, h3, z, hz, hr, ha⟩
    obtain ⟨j, hj⟩ := List.getElem?_of_mem (hcl z hr)
    rcases h.done j z y (List.getElem?_eq_some_iff.1 hj).1 hj hy ha with h1 | h1
    · rcases h.seen_old h1 with h5 | h5
      · exact absurd h5 h3
      · rw [h2] at h5; cases h5
    · exact h1
end
end Go.Proofs.YthgahkkjdpljjaaDoor.bags
