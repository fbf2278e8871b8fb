/- Programs of searchers, step by step: plain mathematics. -/
import Derived.Test.YtbjcfjgoedpgdaaBagM
import Derived.Test.YtbjcfjgoedpgdaaLater
import Derived.Test.YtbjcfjgoedpgdaaRet
namespace Go.Proofs.Ytbjcfjgoedpgdaa.moms
open Go.RowKit P2 words edges ints fns sets covs reach bags
set_option linter.unusedVariables false

/-- the node of a step -/
def xOf (st : Int) : Nat := (max st (-1 - st)).toNat
theorem xOf_pos {st : Int} (h : 0 ≤ st) : (xOf st : Int) = st := by unfold xOf; omega
theorem xOf_neg {st : Int} (h : st < 0) : (xOf st : Int) = -1 - st := by unfold xOf; omega
/-- a step that can be taken -/
def StepOk (n : Nat) (S : Nat → Bool) (st : Int) : Prop := xOf st < n ∧ S (xOf st) = decide (st < 0)
/-- a searcher more, or less -/
def flip (S : Nat → Bool) (x z : Nat) : Bool := S z != decide (z = x)
/-- what is unsafe behind it -/
noncomputable def spr (n : Nat) (l : List Ed) (S U : Nat → Bool) : Nat → Bool := connB n (J2 l) (fun z => !S z) (fun z => U z && !S z)
theorem connB_congr {n : Nat} {J : Nat → Nat → Bool} {q q' P P' : Nat → Bool} (hq : ∀ z, z < n → q z = q' z) (hP : ∀ z, z < n → P z = P' z) {z : Nat} : connB n J q P z = connB n J q' P' z := by
  have one : ∀ {q q' P P' : Nat → Bool}, (∀ z, z < n → q z = q' z) → (∀ z, z < n → P z = P' z) → connB n J q P z = true → connB n J q' P' z = true := fun {q q' P P'} hq hP h => by
    obtain ⟨x, hx, hp, hr⟩ := connB_iff.1 h
    exact connB_iff.2 ⟨x, hx, by rw [← hP x hx]; exact hp, bags.Rch.mono hr (fun y hy hqy => by rw [← hq y hy]; exact hqy)⟩
  rw [Bool.eq_iff_iff]
  exact ⟨one hq hP, one (fun z hz => (hq z hz).symm) (fun z hz => (hP z hz).symm)⟩
theorem spr_congr {n : Nat} {l : List Ed} {S S' U U' : Nat → Bool} (hS : ∀ z, z < n → S z = S' z) (hU : ∀ z, z < n → U z = U' z) (z : Nat) : spr n l S U z = spr n l S' U' z :=
  connB_congr (fun z hz => by rw [hS z hz]) (fun z hz => by rw [hS z hz, hU z hz])
theorem spr_free {n : Nat} {l : List Ed} {S U : Nat → Bool} {z : Nat} (h : spr n l S U z = true) : S z = false := by
  obtain ⟨x, hx, hp, hr⟩ := connB_iff.1 h
  rw [Bool.and_eq_true] at hp
  have := hr.inq hp.2
  simpa using this
/-- where searchers are, and which nodes are unsafe, after k steps -/
def momS (pl : List Int) : Nat → Nat → Bool
  | 0 => fun _ => false
  | k + 1 => flip (momS pl k) (xOf (pl.getD k 0))
noncomputable def momU (n : Nat) (l : List Ed) (pl : List Int) : Nat → Nat → Bool
  | 0 => fun _ => true
  | k + 1 => spr n l (momS pl (k + 1)) (momU n l pl k)
theorem momS_succ {pl : List Int} {k : Nat} {st : Int} (h : pl[k]? = some st) : momS pl (k + 1) = flip (momS pl k) (xOf st) := by
  rw [momS, List.getD_eq_getElem?_getD, h]; rfl
def ProgTo (n : Nat) (pl : List Int) (k : Nat) : Prop := ∀ (j : Nat) (st : Int), j < k → pl[j]? = some st → StepOk n (momS pl j) st
theorem ProgTo.zero (n : Nat) (pl : List Int) : ProgTo n pl 0 := fun j st hj => by omega
theorem ProgTo.succ {n : Nat} {pl : List Int} {k : Nat} {st : Int} (h : ProgTo n pl k) (hs : pl[k]? = some st) (ho : StepOk n (momS pl k) st) : ProgTo n pl (k + 1) := fun j s hj hjs => by
  by_cases e : j = k
  · subst e; rw [hs] at hjs; cases hjs; exact ho
  · exact h j s (by omega) hjs
def ProgP (n : Nat) (pl : List Int) : Prop := ProgTo n pl pl.length
/-- a program -/
def PrgOk (s : Int) (l : List Ed) (pl : List Int) : Prop := P2.Good s l ∧ pl.length ≤ 40 ∧ ProgP s.toNat pl
theorem not_prog {n : Nat} {pl : List Int} {k : Nat} {st : Int} (hs : pl[k]? = some st) (h : ¬ StepOk n (momS pl k) st) : ¬ ProgP n pl := fun hh => h (hh k st (List.getElem?_eq_some_iff.1 hs).1 hs)
/-- as the model takes a searcher away -/
theorem flip_off {n : Nat} {S : Nat → Bool} {x : Nat} (h : S x = true) : nw (flip S x) n = but (nw S n) (x : Int) := by
  refine asc_ext (nw_asc _ _) ?_ fun e => ?_
  · exact List.Pairwise.filter _ (nw_asc S n)
  · unfold but
    rw [List.mem_filter, mem_nw, mem_nw]
    constructor
    · rintro ⟨j, hj, hf, rfl⟩
      unfold flip at hf
      by_cases e : j = x
      · subst e; rw [h] at hf; simp at hf
      · refine ⟨⟨j, hj, by simpa [e] using hf, rfl⟩, ?_⟩
        simp only [bne_iff_ne, ne_eq]; omega
    · rintro ⟨⟨j, hj, hS, rfl⟩, hne⟩
      simp only [bne_iff_ne, ne_eq] at hne
      refine ⟨j, hj, ?_, rfl⟩
      unfold flip
      have e : j ≠ x := fun e => hne (by omega)
      simp [hS, e]
theorem flip_on {n : Nat} {S : Nat → Bool} {x : Nat} (h : S x = false) : nw (flip S x) n = nw (pput S x) n := reach.nw_congr fun z _ => by
  unfold flip pput
  by_cases e : z = x
  · subst e; rw [h]; simp
  · simp [e]
/-- the model's spreading: out of the first i of the unsafe nodes -/
def SpI (n : Nat) (l : List Ed) (S : Nat → Bool) (bl : List Int) (i : Nat) (p : Nat → Bool) : Prop :=
  ∀ z, z < n → (p z = true ↔ ∃ (j y : Nat), j < i ∧ bl[j]? = some (y : Int) ∧ S y = false ∧ reachB n (J2 l) (fun z => !S z) y z = true)
section
variable {n : Nat} {l : List Ed} {S U p : Nat → Bool} {bl : List Int} {i : Nat}
theorem SpI.start (n : Nat) (l : List Ed) (S : Nat → Bool) (bl : List Int) : SpI n l S bl 0 (fun _ => false) := fun z _ => by
  constructor
  · intro h; cases h
  · rintro ⟨j, y, hj, _⟩; omega
theorem SpI.skip {y : Nat} (h : SpI n l S bl i p) (hy : bl[i]? = some (y : Int)) (hs : S y = true) : SpI n l S bl (i + 1) p := fun z hz => by
  rw [h z hz]
  constructor
  · rintro ⟨j, y', hj, h1⟩; exact ⟨j, y', by omega, h1⟩
  · rintro ⟨j, y', hj, h1, h2, h3⟩
    refine ⟨j, y', ?_, h1, h2, h3⟩
    by_cases e : j = i
    · subst e
      rw [hy] at h1
      have : (y : Int) = (y' : Int) := by simpa using h1
      have e2 : y = y' := by omega
      rw [← e2, hs] at h2
      cases h2
    · omega
theorem SpI.take {y : Nat} {p' : Nat → Bool} (h : SpI n l S bl i p) (hy : bl[i]? = some (y : Int)) (hs : S y = false) (hp : ∀ z, z < n → (p' z = true ↔ p z = true ∨ reachB n (J2 l) (fun z => !S z) y z = true)) : SpI n l S bl (i + 1) p' := fun z hz => by
  rw [hp z hz, h z hz]
  constructor
  · rintro (⟨j, y', hj, h1⟩ | h1)
    · exact ⟨j, y', by omega, h1⟩
    · exact ⟨i, y, by omega, hy, hs, h1⟩
  · rintro ⟨j, y', hj, h1, h2, h3⟩
    by_cases e : j = i
    · subst e
      rw [hy] at h1
      have : (y : Int) = (y' : Int) := by simpa using h1
      have e2 : y = y' := by omega
      subst e2
      exact .inr h3
    · exact .inl ⟨j, y', by omega, h1, h2, h3⟩
theorem SpI.all (h : SpI n l S (nw U n) (nw U n).length p) : nw p n = nw (spr n l S U) n := reach.nw_congr fun z hz => by
  rw [Bool.eq_iff_iff, h z hz]
  unfold spr
  rw [connB_iff]
  constructor
  · rintro ⟨j, y, _, h1, h2, h3⟩
    obtain ⟨y', e, hy, hU⟩ := reach.nw_at h1
    have e2 : y = y' := by omega
    subst e2
    exact ⟨y, hy, by rw [hU, h2]; rfl, reachB_iff.1 h3⟩
  · rintro ⟨x, hx, hp, hr⟩
    rw [Bool.and_eq_true] at hp
    obtain ⟨j, hj, hjx⟩ := reach.at_nw hp.1 hx
    exact ⟨j, x, hj, hjx, by have := hp.2; simpa using this, reachB_iff.2 hr⟩
end
end Go.Proofs.Ytbjcfjgoedpgdaa.moms
