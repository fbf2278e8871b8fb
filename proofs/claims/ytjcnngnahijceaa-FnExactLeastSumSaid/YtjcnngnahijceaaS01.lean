/- Forcing: which nodes are coloured round by round: mathematics. -/
import Derived.Test.YtjcnngnahijceaaUpsB
import Derived.Test.YtjcnngnahijceaaSprM
import Derived.Test.YtjcnngnahijceaaFunc
import Derived.Handy
import Derived.Test.YtjcnngnahijceaaSpreI
import Derived.Test.YtjcnngnahijceaaGridR
import Derived.Deep.DeepCutAuto
import Derived.Deep.RegionHeld3
import Derived.Deep.QuietTactic
import Derived.Test.YtjcnngnahijceaaAround
namespace Go.Proofs.Ytjcnngnahijceaa.forc
open Go.RowKit P2 words edges ints good adjs fns sets rets covs bags bitsI ups
set_option linter.unusedVariables false

/-- a part of a set that has as many elements is the set -/
theorem sub_more {a b : Nat} (ha : a < 256) (hb : b < 256) (hs : ∀ k, a.testBit k = true → b.testBit k = true) (hne : a ≠ b) : onesN a < onesN b := by
  have hex : ∃ k, a.testBit k = false ∧ b.testBit k = true := by
    refine Classical.byContradiction fun hno => hne (Nat.eq_of_testBit_eq fun k => ?_)
    cases h1 : a.testBit k with
    | true => exact (hs k h1).symm
    | false =>
      cases h2 : b.testBit k with
      | false => rfl
      | true => exact absurd ⟨k, h1, h2⟩ hno
  obtain ⟨k, h1, h2⟩ := hex
  have hk : k < 8 := by
    by_cases e : k < 8
    · exact e
    · rw [Nat.testBit_lt_two_pow (Nat.lt_of_lt_of_le hb (by have h9 := Nat.pow_le_pow_right (show 0 < 2 by decide) (show 8 ≤ k by omega); simpa using h9))] at h2; cases h2
  have h3 := ones_put ha hk h1
  have h4 : onesN (a ||| 2 ^ k) ≤ onesN b := ones_mono fun j _ hj => by
    unfold bitB at hj ⊢
    rw [put_bit, Bool.or_eq_true, decide_eq_true_iff] at hj
    rcases hj with hj | rfl
    · exact hs j hj
    · exact h2
  omega
theorem num_ltN (p : Nat → Bool) (n : Nat) : numOf p n < 2 ^ n := Nat.lt_pow_two_of_testBit _ fun i hi => by rw [numOf_bit, decide_eq_false (by omega), Bool.false_and]
/-- the neighbors of a node that are not coloured -/
def lefB (l : List Ed) (c x z : Nat) : Bool := adj l (x : Int) (z : Int) && !c.testBit z
def lefN (n : Nat) (l : List Ed) (c x : Nat) : Nat := numOf (lefB l c x) n
def frcT (n : Nat) (l : List Ed) (sk : Bool) (c x : Nat) : Bool := (onesN (lefN n l c x) == 1) && (sk || c.testBit x)
def frcN (n : Nat) (l : List Ed) (sk : Bool) (c x : Nat) : Nat := if frcT n l sk c x = true then lefN n l c x else 0
theorem frc_yes {n : Nat} {l : List Ed} {sk : Bool} {c x : Nat} (h : frcT n l sk c x = true) : frcN n l sk c x = lefN n l c x := by unfold frcN; rw [if_pos h]
theorem frc_no {n : Nat} {l : List Ed} {sk : Bool} {c x : Nat} (h : frcT n l sk c x = false) : frcN n l sk c x = 0 := by unfold frcN; rw [if_neg (by simp [h])]
theorem lef_lt (n : Nat) (l : List Ed) (c x : Nat) : lefN n l c x < 2 ^ n := num_ltN _ _
theorem frc_lt (n : Nat) (l : List Ed) (sk : Bool) (c x : Nat) : frcN n l sk c x < 2 ^ n := by
  unfold frcN
  split
  · exact lef_lt n l c x
  · exact Nat.pow_pos (by decide)
/-- behind the first k nodes of a round -/
def onK (n : Nat) (l : List Ed) (sk : Bool) (c : Nat) : Nat → Nat
  | 0 => c
  | k + 1 => onK n l sk c k ||| frcN n l sk c k
/-- behind a round -/
def onN (n : Nat) (l : List Ed) (sk : Bool) (c : Nat) : Nat := onK n l sk c n
theorem onK_lt {n : Nat} {l : List Ed} {sk : Bool} {c : Nat} (hc : c < 2 ^ n) : ∀ k, onK n l sk c k < 2 ^ n
  | 0 => hc
  | k + 1 => Nat.or_lt_two_pow (onK_lt hc k) (frc_lt n l sk c k)
theorem onK_sub {n : Nat} {l : List Ed} {sk : Bool} {c j : Nat} (h : c.testBit j = true) : ∀ k, (onK n l sk c k).testBit j = true
  | 0 => h
  | k + 1 => by rw [onK, Nat.testBit_or, onK_sub h k]; rfl
theorem on_lt {n : Nat} {l : List Ed} {sk : Bool} {c : Nat} (hc : c < 2 ^ n) : onN n l sk c < 2 ^ n := onK_lt hc n
theorem on_more {n : Nat} {l : List Ed} {sk : Bool} {c : Nat} (hn : n ≤ 8) (hc : c < 2 ^ n) (h : onN n l sk c ≠ c) : onesN c < onesN (onN n l sk c) :=
  sub_more (Nat.lt_of_lt_of_le hc (pow_le hn)) (Nat.lt_of_lt_of_le (on_lt hc) (pow_le hn)) (fun k hk => onK_sub hk n) (Ne.symm h)
theorem on_same {n : Nat} {l : List Ed} {sk : Bool} {c : Nat} (hn : n ≤ 8) (hc : c < 2 ^ n) : onesN (onN n l sk c) = onesN c ↔ onN n l sk c = c :=
  ⟨fun h => Classical.byContradiction fun hne => by have := on_more hn hc hne; omega, fun h => by rw [h]⟩
/-- ahead of all rounds and behind each one that colours more -/
def rndL (n : Nat) (l : List Ed) (sk : Bool) : Nat → Nat → List Nat
  | 0, c => [c]
  | f + 1, c => if onN n l sk c = c then [c] else c :: rndL n l sk f (onN n l sk c)
/-- when no round colours more -/
def lastF (n : Nat) (l : List Ed) (sk : Bool) : Nat → Nat → Nat
  | 0, c => c
  | f + 1, c => if onN n l sk c = c then c else lastF n l sk f (onN n l sk c)
def rnds (n : Nat) (l : List Ed) (sk : Bool) (c : Nat) : List Nat := rndL n l sk 8 c
def lastN (n : Nat) (l : List Ed) (sk : Bool) (c : Nat) : Nat := lastF n l sk 8 c
theorem rnd_len (n : Nat) (l : List Ed) (sk : Bool) : ∀ f c, 1 ≤ (rndL n l sk f c).length ∧ (rndL n l sk f c).length ≤ f + 1
  | 0, c => ⟨Nat.le_refl _, Nat.le_refl _⟩
  | f + 1, c => by
    unfold rndL
    split
    · simp
    · have := rnd_len n l sk f (onN n l sk c)
      rw [List.length_cons]; omega
theorem rnd_last (n : Nat) (l : List Ed) (sk : Bool) : ∀ f c, (rndL n l sk f c)[(rndL n l sk f c).length - 1]? = some (lastF n l sk f c)
  | 0, c => rfl
  | f + 1, c => by
    unfold rndL lastF
    split
    · rfl
    · have h := rnd_last n l sk f (onN n l sk c)
      have h1 := (rnd_len n l sk f (onN n l sk c)).1
      rw [List.length_cons, Nat.add_sub_cancel]
      obtain ⟨m, hm⟩ : ∃ m, (rndL n l sk f (onN n l sk c)).length = m + 1 := ⟨(rndL n l sk f (onN n l sk c)).length - 1, by omega⟩
      rw [hm] at h ⊢
      simpa using h
theorem last_lt {n : Nat} {l : List Ed} {sk : Bool} : ∀ f {c : Nat}, c < 2 ^ n → lastF n l sk f c < 2 ^ n
  | 0, c, h => h
  | f + 1, c, h => by
    unfold lastF
    split
    · exact h
    · exact last_lt f (on_lt h)
theorem rnd_mem {n : Nat} {l : List Ed} {sk : Bool} : ∀ f {c : Nat}, c < 2 ^ n → ∀ d ∈ rndL n l sk f c, d < 2 ^ n
  | 0, c, h, d, hd => by simp [rndL] at hd; rw [hd]; exact h
  | f + 1, c, h, d, hd => by
    unfold rndL at hd
    split at hd
    · simp at hd; rw [hd]; exact h
    · rcases List.mem_cons.1 hd with e | hd
      · rw [e]; exact h
      · exact rnd_mem f (on_lt h) d hd
theorem last_ltN {n : Nat} {l : List Ed} {sk : Bool} {c : Nat} (hc : c < 2 ^ n) : lastN n l sk c < 2 ^ n := last_lt 8 hc
/-- what a loop over the rounds keeps -/
theorem rnd_stop {n : Nat} {l : List Ed} {sk : Bool} {f c : Nat} (h : onN n l sk c = c) : rndL n l sk f c = [c] ∧ lastF n l sk f c = c := by
  cases f with
  | zero => exact ⟨rfl, rfl⟩
  | succ f => unfold rndL lastF; rw [if_pos h, if_pos h]; exact ⟨rfl, rfl⟩
theorem rnd_go {n : Nat} {l : List Ed} {sk : Bool} {f c : Nat} (h : onN n l sk c ≠ c) : rndL n l sk (f + 1) c = c :: rndL n l sk f (onN n l sk c) ∧ lastF n l sk (f + 1) c = lastF n l sk f (onN n l sk c) := by
  constructor
  · rw [rndL, if_neg h]
  · rw [lastF, if_neg h]
/-- a fuel that lasts -/
theorem rnd_fuel {n : Nat} {l : List Ed} {sk : Bool} {f c : Nat} (hn : n ≤ 8) (hc : c < 2 ^ n) (hf : 8 ≤ onesN c + f) (h : onN n l sk c ≠ c) : ∃ g, f = g + 1 ∧ 8 ≤ onesN (onN n l sk c) + g := by
  have h1 := on_more hn hc h
  have h2 := ones_le (onN n l sk c)
  exact ⟨f - 1, by omega, by omega⟩
theorem full_on {n : Nat} {l : List Ed} {sk : Bool} : onN n l sk (2 ^ n - 1) = 2 ^ n - 1 := by
  apply Nat.eq_of_testBit_eq
  intro k
  have h1 : (2 ^ n - 1) < 2 ^ n := by have := Nat.pow_pos (n := n) (show 0 < 2 by decide); omega
  by_cases hk : k < n
  · have h2 : (2 ^ n - 1).testBit k = true := by rw [Nat.testBit_two_pow_sub_one]; simp [hk]
    rw [h2]; exact onK_sub h2 n
  · have h2 : ∀ z, z < 2 ^ n → z.testBit k = false := fun z hz => Nat.testBit_lt_two_pow (Nat.lt_of_lt_of_le hz (Nat.pow_le_pow_right (by decide) (by omega)))
    rw [h2 _ h1, h2 _ (on_lt h1)]
theorem full_last (n : Nat) (l : List Ed) (sk : Bool) : lastN n l sk (2 ^ n - 1) = 2 ^ n - 1 := (rnd_stop full_on).2
/-- the one node that is left -/
theorem one_bit {c : Nat} (h8 : c < 256) (h : onesN c = 1) : ∃ y, y < 8 ∧ c = 2 ^ y :=
  have : ∀ c : Fin 256, onesN c.1 = 1 → ∃ y : Fin 8, c.1 = 2 ^ y.1 := by decide +kernel
  let ⟨y, hy⟩ := this ⟨c, h8⟩ h
  ⟨y.1, y.2, hy⟩
end Go.Proofs.Ytjcnngnahijceaa.forc

/- Forcing: the number of the round in which a node is coloured, and forts: mathematics. -/
namespace Go.Proofs.Ytjcnngnahijceaa.forc
open Go.RowKit P2 words edges ints good adjs fns sets rets covs bags bitsI ups func
set_option linter.unusedVariables false

/-- behind k rounds -/
def orb (n : Nat) (l : List Ed) (sk : Bool) (c : Nat) : Nat → Nat
  | 0 => c
  | k + 1 => onN n l sk (orb n l sk c k)
theorem orb_lt {n : Nat} {l : List Ed} {sk : Bool} {c : Nat} (hc : c < 2 ^ n) : ∀ k, orb n l sk c k < 2 ^ n
  | 0 => hc
  | k + 1 => on_lt (orb_lt hc k)
theorem orb_from {n : Nat} {l : List Ed} {sk : Bool} (c : Nat) : ∀ k, orb n l sk (onN n l sk c) k = orb n l sk c (k + 1)
  | 0 => rfl
  | k + 1 => by show onN n l sk _ = onN n l sk _; rw [orb_from c k]
theorem orb_stop {n : Nat} {l : List Ed} {sk : Bool} {c : Nat} (h : onN n l sk c = c) : ∀ k, orb n l sk c k = c
  | 0 => rfl
  | k + 1 => by show onN n l sk _ = c; rw [orb_stop h k, h]
theorem rnd_orb {n : Nat} {l : List Ed} {sk : Bool} : ∀ (f c j : Nat), j < (rndL n l sk f c).length → (rndL n l sk f c)[j]? = some (orb n l sk c j)
  | 0, c, j, h => by
    have : j = 0 := by simp [rndL] at h; exact h
    subst this; rfl
  | f + 1, c, j, h => by
    unfold rndL at h ⊢
    split at h
    · rename_i e
      rw [if_pos e]
      have : j = 0 := by simpa using h
      subst this; rfl
    · rename_i e
      rw [if_neg e]
      cases j with
      | zero => rfl
      | succ j =>
        rw [List.getElem?_cons_succ, rnd_orb f _ j (by rw [List.length_cons] at h; omega), orb_from]
theorem rnd_len8 {n : Nat} {l : List Ed} {sk : Bool} (hn : n ≤ 8) : ∀ (f : Nat) {c : Nat}, c < 2 ^ n → (rndL n l sk f c).length + onesN c ≤ n + 1
  | 0, c, hc => by have := ones_topN hn hc; show 1 + _ ≤ _; omega
  | f + 1, c, hc => by
    unfold rndL
    split
    · have := ones_topN hn hc; rw [List.length_cons, List.length_nil]; omega
    · rename_i e
      have h1 := rnd_len8 (l := l) (sk := sk) hn f (c := onN n l sk c) (on_lt hc)
      have h2 := on_more hn hc e
      rw [List.length_cons]; omega
theorem rnd_tail {n : Nat} {l : List Ed} {sk : Bool} (hn : n ≤ 8) : ∀ (f : Nat) {c : Nat}, c < 2 ^ n → 8 ≤ onesN c + f → ∀ j, (rndL n l sk f c).length ≤ j + 1 → orb n l sk c j = lastF n l sk f c
  | 0, c, hc, hf, j, hj => by
    have h8 := ones_le (onN n l sk c)
    have : onN n l sk c = c := Classical.byContradiction fun e => by have := on_more hn hc e; omega
    exact orb_stop this j
  | f + 1, c, hc, hf, j, hj => by
    unfold rndL at hj
    unfold lastF
    split at hj
    · rename_i e
      rw [if_pos e]; exact orb_stop e j
    · rename_i e
      rw [if_neg e]
      have h2 := on_more hn hc e
      have h1 := (rnd_len n l sk f (onN n l sk c)).1
      rw [List.length_cons] at hj
      obtain ⟨i, rfl⟩ : ∃ i, j = i + 1 := ⟨j - 1, by omega⟩
      rw [← orb_from]
      exact rnd_tail hn f (on_lt hc) (by omega) i (by omega)
theorem last_orb {n : Nat} {l : List Ed} {sk : Bool} (hn : n ≤ 8) {c : Nat} (hc : c < 2 ^ n) : ∀ j, n ≤ j → orb n l sk c j = lastN n l sk c := fun j hj =>
  rnd_tail hn 8 hc (by omega) j (by have := rnd_len8 (l := l) (sk := sk) hn 8 hc; omega)
theorem last_fix {n : Nat} {l : List Ed} {sk : Bool} (hn : n ≤ 8) {c : Nat} (hc : c < 2 ^ n) : onN n l sk (lastN n l sk c) = lastN n l sk c := by
  rw [← last_orb hn hc n (Nat.le_refl _)]
  show orb n l sk c (n + 1) = _
  rw [last_orb hn hc n (Nat.le_refl _), last_orb hn hc (n + 1) (by omega)]
/-- the round in which a node is coloured, of the first r -/
def fstR (n : Nat) (l : List Ed) (c x : Nat) : Nat → Int
  | 0 => if c.testBit x = true then 0 else -1
  | r + 1 => if fstR n l c x r < 0 ∧ (orb n l false c (r + 1)).testBit x = true then ((r + 1 : Nat) : Int) else fstR n l c x r
theorem fst_is (n : Nat) (l : List Ed) (c x : Nat) : ∀ r, (fstR n l c x r = -1 ∧ ∀ j, j ≤ r → (orb n l false c j).testBit x = false) ∨ ∃ j : Nat, fstR n l c x r = (j : Int) ∧ j ≤ r ∧ (orb n l false c j).testBit x = true ∧ ∀ i, i < j → (orb n l false c i).testBit x = false
  | 0 => by
    unfold fstR
    by_cases h : c.testBit x = true
    · rw [if_pos h]; exact .inr ⟨0, rfl, Nat.le_refl _, h, fun i hi => by omega⟩
    · rw [if_neg h]
      refine .inl ⟨rfl, fun j hj => ?_⟩
      have : j = 0 := by omega
      subst this; rw [orb]; simpa using h
  | r + 1 => by
    rcases fst_is n l c x r with ⟨h1, h2⟩ | ⟨j, h1, h2, h3, h4⟩
    · unfold fstR
      by_cases h : (orb n l false c (r + 1)).testBit x = true
      · rw [if_pos ⟨by omega, h⟩]
        exact .inr ⟨r + 1, rfl, Nat.le_refl _, h, fun i hi => h2 i (by omega)⟩
      · rw [if_neg (fun hh => h hh.2)]
        refine .inl ⟨h1, fun j hj => ?_⟩
        by_cases e : j = r + 1
        · subst e; simpa using h
        · exact h2 j (by omega)
    · unfold fstR
      rw [if_neg (fun hh => by omega)]
      exact .inr ⟨j, h1, by omega, h3, h4⟩
theorem fst_idx {n : Nat} {l : List Ed} {c x : Nat} (hn : n ≤ 8) (hc : c < 2 ^ n) : idxF (fun d => Nat.testBit d x) (rnds n l false c) = fstR n l c x n := by
  have hl := rnd_len8 (l := l) (sk := false) hn 8 hc
  rcases fst_is n l c x n with ⟨h1, h2⟩ | ⟨j, h1, h2, h3, h4⟩
  · rw [h1]
    refine idxF_none fun i z hi hz => ?_
    have := rnd_orb (n := n) (l := l) (sk := false) 8 c i hi
    rw [show rndL n l false 8 c = rnds n l false c from rfl, hz] at this
    cases this
    exact h2 i (by change i < (rndL n l false 8 c).length at hi; omega)
  · rw [h1]
    have hj : j < (rnds n l false c).length := by
      refine Classical.byContradiction fun hno => ?_
      have hno' : (rndL n l false 8 c).length ≤ j := by change ¬ j < (rndL n l false 8 c).length at hno; omega
      have hl1 := (rnd_len n l false 8 c).1
      have e1 := rnd_tail hn 8 hc (by omega) j (by omega) (l := l) (sk := false)
      have e2 := rnd_tail hn 8 hc (by omega) ((rndL n l false 8 c).length - 1) (by omega) (l := l) (sk := false)
      have := h4 ((rndL n l false 8 c).length - 1) (by omega)
      rw [e2, ← e1, h3] at this; cases this
    refine idxF_at (y := orb n l false c j) (fun i z hi hz => ?_) (rnd_orb 8 c j hj) h3
    have := rnd_orb (n := n) (l := l) (sk := false) 8 c i (by change j < (rndL n l false 8 c).length at hj; omega)
    rw [show rndL n l false 8 c = rnds n l false c from rfl, hz] at this
    cases this
    exact h4 i hi
theorem fst_same {n : Nat} {l : List Ed} {c x r : Nat} (h : (orb n l false c (r + 1)).testBit x = false) : fstR n l c x (r + 1) = fstR n l c x r := by
  rw [fstR, if_neg (fun hh => by rw [h] at hh; exact absurd hh.2 (by decide))]
theorem fst_keep {n : Nat} {l : List Ed} {c x r : Nat} (h : ¬ fstR n l c x r < 0) : fstR n l c x (r + 1) = fstR n l c x r := by
  rw [fstR, if_neg (fun hh => h hh.1)]
theorem fst_new {n : Nat} {l : List Ed} {c x r : Nat} (h : fstR n l c x r < 0) (h2 : (orb n l false c (r + 1)).testBit x = true) : fstR n l c x (r + 1) = ((r + 1 : Nat) : Int) := by
  rw [fstR, if_pos ⟨h, h2⟩]
theorem fst_range (n : Nat) (l : List Ed) (c x r : Nat) : -1 ≤ fstR n l c x r ∧ fstR n l c x r ≤ (r : Int) := by
  rcases fst_is n l c x r with ⟨h1, h2⟩ | ⟨j, h1, h2, h3, h4⟩ <;> omega
def fstL (n : Nat) (l : List Ed) (c r : Nat) : List Int := (List.range n).map fun x => fstR n l c x r
theorem fstL_len (n : Nat) (l : List Ed) (c r : Nat) : (fstL n l c r).length = n := by simp [fstL]

/-- forts -/
def frtB (n : Nat) (l : List Ed) (c : Nat) : Bool := (List.range n).all (fun x => c.testBit x || !(insN l c x == 1)) && !(c == 0)
theorem frt_iff {n : Nat} {l : List Ed} {c : Nat} : frtB n l c = true ↔ (∀ x, x < n → c.testBit x = false → insN l c x ≠ 1) ∧ c ≠ 0 := by
  unfold frtB
  rw [Bool.and_eq_true, List.all_eq_true]
  constructor
  · rintro ⟨h1, h2⟩
    refine ⟨fun x hx hb => ?_, by simpa using h2⟩
    have := h1 x (List.mem_range.2 hx)
    rw [hb, Bool.false_or] at this
    simpa using this
  · rintro ⟨h1, h2⟩
    refine ⟨fun x hx => ?_, by simpa using h2⟩
    cases hb : c.testBit x with
    | true => rfl
    | false => simpa using h1 x (List.mem_range.1 hx) hb
theorem frt_stop {n : Nat} {l : List Ed} {c x : Nat} (hx : x < n) (hb : c.testBit x = false) (h : insN l c x = 1) : frtB n l c = false := by
  cases hf : frtB n l c with
  | false => rfl
  | true => exact absurd h ((frt_iff.1 hf).1 x hx hb)
theorem frt_end {n : Nat} {l : List Ed} {c : Nat} (h : ∀ x, x < n → ¬ (c.testBit x = false ∧ insN l c x = 1)) : frtB n l c = !(c == 0) := by
  cases hc : c == 0 with
  | true =>
    cases hf : frtB n l c with
    | false => rfl
    | true => exact absurd (by simpa using hc) (frt_iff.1 hf).2
  | false => exact frt_iff.2 ⟨fun x hx hb e => h x hx ⟨hb, e⟩, by simpa using hc⟩
end Go.Proofs.Ytjcnngnahijceaa.forc

/- Forcing: the contracts of the program's forcedBy, after, rounds and last. -/
namespace Go.Proofs.Ytjcnngnahijceaa.forc
open Go.RowKit P2 words edges ints good adjs fns sets rets covs bags bitsI ups func gridr
set_option linter.unusedVariables false

theorem lef_walk {n c x : Nat} {l : List Ed} (hg : P2.Good (n : Int) l) (hn : n ≤ 8) (hc : c < 2 ^ n) (hx : x < n) : bits .andNot .u64 (outN l n c x : Int) (IntKind.u64.wrap ((2 : Int) ^ x)) = (lefN n l c x : Int) := by
  have ho : outN l n c x < 256 := numOf_lt _ hn
  rw [wrap_pow (show x ≤ 8 by omega), ← num_one hx]
  refine andNot_num _ _ n (by omega) hn _ fun z hz => ?_
  unfold outN lefB
  rw [numOf_bit, cloB_bit hg]
  by_cases e : z = x
  · subst e
    rw [adj_self hg]; simp
    intro h; omega
  · have h9 : (x == z) = false := by simp; omega
    have h8 : decide (z = x) = false := decide_eq_false e
    rw [h9, h8]; simp
set_option maxHeartbeats 2000000 in
set_option maxRecDepth 100000 in
theorem forcedBy_any (n c x : Nat) (sk : Bool) (v : Value) (l : List Ed) (w : World) (h : Nums w v (clos l n)) (hg : P2.Good (n : Int) l) (hn : n ≤ 8) (hc : c < 2 ^ n) (hx : x < n) :
    Calls Try.prog 155 #[.agg #[.int .u64 (c : Int), .bool sk], v, .int .i64 (x : Int)] w fun e w' => e = .returned (.int .u64 (frcN n l sk c x : Int)) ∧ Below w.heap.size w w' := by
  obtain ⟨A, cc, rfl, hcl⟩ := h.form
  obtain ⟨g6, o6, rfl, c6⟩ := hcl x _ (clos_at hx)
  have hlen := clos_len l n
  rw [hlen]
  have hx' : (x : Int) < (n : Int) := by omega
  have hw1 := out_walk hg hn hc hx
  have hw2 := lef_walk hg hn hc hx
  have b0 : Below w.heap.size w (w.alloc (.cells #[.int .u64 (c : Int), .bool sk] 70)) := (Below.refl _ _).alloc (Nat.le_refl _) _
  have HB0 := Lib.hid b0
  have q6 := nearv.cell_keep c6 b0
  obtain ⟨p0, p1, -, -⟩ := (Blk.new w 70 #[.int .u64 (c : Int), .bool sk]).two
  have HO := Lib.hid (fun (W : World) => count_any (lefN n l c x) W (numOf_lt _ hn))
  have HH := Lib.hid (fun (W : World) => has_any c x W (by have := pow_le hn; omega) (by omega))
  by_cases hq : onesN (lefN n l c x) = 1
  · rw [hq] at HO
    cases sk with
    | true =>
      have HV : Hid (frcN n l true c x = lefN n l c x) := frc_yes (by unfold frcT; rw [hq]; rfl)
      clear hcl h hg hlen hc hq c6 b0 HH
      rw [HV.out]
      clear HV
      generalize lefN n l c x = y1 at *
      generalize outN l n c x = y2 at *
      generalize cloB l x = y3 at *
      go_enter Try.func155, Try.ntmps155
      go_wp2_with fail
      go_quiet (fail)
      go_wp2_with fail
      refine (HO.out _).mono ?_
      rintro e w' ⟨rfl, rfl⟩
      go_wp2_with fail
      go_ret
      exact ⟨rfl, below_drewN HB0.out _⟩
    | false =>
      cases hb : c.testBit x with
      | true =>
        have HV : Hid (frcN n l false c x = lefN n l c x) := frc_yes (by unfold frcT; rw [hq, hb]; rfl)
        rw [hb] at HH
        clear hcl h hg hlen hc hq c6 b0 hb
        rw [HV.out]
        clear HV
        generalize lefN n l c x = y1 at *
        generalize outN l n c x = y2 at *
        generalize cloB l x = y3 at *
        go_enter Try.func155, Try.ntmps155
        go_wp2_with fail
        go_quiet (fail)
        go_wp2_with fail
        refine (HO.out _).mono ?_
        rintro e w' ⟨rfl, rfl⟩
        go_wp2_with fail
        refine (HH.out _).mono ?_
        rintro e w' ⟨rfl, rfl⟩
        go_wp2_with fail
        go_ret
        exact ⟨rfl, below_drewN HB0.out _⟩
      | false =>
        have HV : Hid (frcN n l false c x = 0) := frc_no (by unfold frcT; rw [hb]; simp)
        rw [hb] at HH
        clear hcl h hg hlen hc hq c6 b0 hb
        rw [HV.out]
        clear HV
        generalize lefN n l c x = y1 at *
        generalize outN l n c x = y2 at *
        generalize cloB l x = y3 at *
        go_enter Try.func155, Try.ntmps155
        go_wp2_with fail
        go_quiet (fail)
        go_wp2_with fail
        refine (HO.out _).mono ?_
        rintro e w' ⟨rfl, rfl⟩
        go_wp2_with fail
        refine (HH.out _).mono ?_
        rintro e w' ⟨rfl, rfl⟩
        go_wp2_with fail
        go_ret
        exact ⟨rfl, below_drewN HB0.out _⟩
  · have hq' : (((onesN (lefN n l c x) : Nat) : Int) != 1) = true := by simp; omega
    have HV : Hid (frcN n l sk c x = 0) := frc_no (by unfold frcT; rw [beq_eq_false_iff_ne.2 hq]; rfl)
    clear hcl h hg hlen hc hq c6 b0 HH
    rw [HV.out]
    clear HV
    generalize onesN (lefN n l c x) = y0 at *
    generalize lefN n l c x = y1 at *
    generalize outN l n c x = y2 at *
    generalize cloB l x = y3 at *
    go_enter Try.func155, Try.ntmps155
    go_wp2_with fail
    go_quiet (fail)
    go_wp2_with fail
    refine (HO.out _).mono ?_
    rintro e w' ⟨rfl, rfl⟩
    go_wp2_with fail
    go_ret
    exact ⟨rfl, below_drewN HB0.out _⟩
set_option maxHeartbeats 4000000 in
set_option maxRecDepth 100000 in
theorem after_any (n c : Nat) (sk : Bool) (v : Value) (l : List Ed) (w : World) (h : Nums w v (clos l n)) (hg : P2.Good (n : Int) l) (hn : n ≤ 8) (hc : c < 2 ^ n) :
    Calls Try.prog 107 #[.agg #[.int .u64 (c : Int), .bool sk], v] w fun e w' => e = .returned (.agg #[.int .u64 (onN n l sk c : Int), .bool sk]) ∧ Below w.heap.size w w' := by
  obtain ⟨A, cc, rfl, -⟩ := h.form
  have hlen := clos_len l n
  have HFB := Lib.hid (fun (W : World) (hW : Below w.heap.size w W) (x : Nat) (hx : x < n) => forcedBy_any n c x sk (.slice A (clos l n).length cc) l W (h.below hW) hg hn hc hx)
  rw [hlen] at HFB ⊢
  have HOR : Hid (∀ k, k < n → bits .or .u64 (onK n l sk c k : Int) (frcN n l sk c k : Int) = (onK n l sk c (k + 1) : Int)) := fun k hk =>
    bits_or_u64_nat _ _ (by have := onK_lt (l := l) (sk := sk) hc k; have := pow_le hn; omega) (by have := frc_lt n l sk c k; have := pow_le hn; omega)
  clear h hg hlen
  go_enter Try.func107, Try.ntmps107
  go_wp2_with fail
  have g1 := ((Blk.new w 70 #[.int .u64 (c : Int), .bool sk]).alloc (.cells #[.int .u64 0, .bool false] 70)).alloc (.cells #[.int .u64 (c : Int), .bool sk] 70)
  have g2 := (Blk.new (w.alloc (.cells #[.int .u64 (c : Int), .bool sk] 70)) 70 #[.int .u64 0, .bool false]).alloc (.cells #[.int .u64 (c : Int), .bool sk] 70)
  have g3 := Blk.new ((w.alloc (.cells #[.int .u64 (c : Int), .bool sk] 70)).alloc (.cells #[.int .u64 0, .bool false] 70)) 70 #[.int .u64 (c : Int), .bool sk]
  rw [World.size_alloc] at g2
  rw [World.size_alloc, World.size_alloc] at g3
  have HG1 := Lib.hid g1
  have HG2 := Lib.hid g2
  have HG3 := Lib.hid g3
  have HB0 : Hid (Below w.heap.size w (((w.alloc (.cells #[.int .u64 (c : Int), .bool sk] 70)).alloc (.cells #[.int .u64 0, .bool false] 70)).alloc (.cells #[.int .u64 (c : Int), .bool sk] 70))) := (((Below.refl _ _).alloc (Nat.le_refl _) _).alloc (by simp) _).alloc (by simp; omega) _
  clear g1 g2 g3
  go_loopg [10] n (fun g iv wr => ∃ k : Nat, k + g = n ∧ iv = .int .i64 (k : Int) ∧ Blk wr w.heap.size 70 #[.int .u64 (c : Int), .bool sk] ∧ Blk wr (w.heap.size + 1) 70 #[.int .u64 0, .bool false] ∧ Blk wr (w.heap.size + 1 + 1) 70 #[.int .u64 (onK n l sk c k : Int), .bool sk] ∧ Below w.heap.size w wr)
  case atStart => exact ⟨0, by omega, rfl, HG1.out, HG2.out, HG3.out, HB0.out⟩
  case round =>
    clear HG1 HG2 HG3 HB0
    obtain ⟨k, hkg, rfl, hg1, hg2, hg3, hB⟩ := hrel
    have HG1 := Lib.hid hg1
    have HG2 := Lib.hid hg2
    have HG3 := Lib.hid hg3
    have HB := Lib.hid hB
    obtain ⟨p0, p1, -, -⟩ := hg1.two
    obtain ⟨m0, m1, y0, y1⟩ := hg2.two
    obtain ⟨k0, k1, z0, z1⟩ := hg3.two
    cases gk with
    | zero =>
      obtain rfl : k = n := by omega
      have HV : Hid (onK k l sk c k = onN k l sk c) := rfl
      clear hg1 hg2 hg3 hB
      go_wp2_with fail
      have HG6 : Hid (Blk ((wr.setCell ⟨w.heap.size + 1, 0, none⟩ (.int .u64 (onK k l sk c k : Int))).setCell ⟨w.heap.size + 1, 1, none⟩ (.bool sk)) (w.heap.size + 1) 70 #[.int .u64 (onK k l sk c k : Int), .bool sk]) := by
        have h_ := (HG2.out.set_ 0 (.int .u64 (onK k l sk c k : Int))).set_ 1 (.bool sk)
        show Blk _ _ _ _
        simpa using h_
      have HB6 := Lib.hid ((HB.out.setCell (p := ⟨w.heap.size + 1, 0, none⟩) (by simp) (.int .u64 (onK k l sk c k : Int))).setCell (p := ⟨w.heap.size + 1, 1, none⟩) (by simp) (.bool sk))
      obtain ⟨q0, q1, -, -⟩ := HG6.out.two
      refine bodyPost_ret (v := .agg #[.int .u64 (onK k l sk c k : Int), .bool sk]) (by simp [results, Try.results107, go_sem, q0, q1]) rfl ⟨by rw [HV.out], HB6.out⟩
    | succ g2 =>
      have hkn : k < n := by omega
      have hkn' : (k : Int) < (n : Int) := by omega
      have HF := Lib.hid (HFB.out wr.drew HB.out.drew k hkn)
      have hor := HOR.out k hkn
      clear hg1 hg2 hg3 hB
      generalize hq1 : onK n l sk c (k + 1) = N1 at *
      have HQ1 := Lib.hid hq1
      clear hq1
      generalize onK n l sk c k = N0 at *
      generalize frcN n l sk c k = N2 at *
      go_wp2_with fail
      go_region_with (go_at_call 155; (with_reducible refine HF.out.mono ?_); rintro e w3 ⟨rfl, b3⟩; have d3 : Below wr.heap.size wr w3 := btrans (Below.refl _ _).drew b3; obtain ⟨j0, j1, x0, x1⟩ := (HG3.out.below d3 HG3.out.lt).two; obtain ⟨i0, i1, -, -⟩ := (HG1.out.below d3 HG1.out.lt).two)
      all_goals
        have HG6 : Hid (Blk (w3.setCell ⟨w.heap.size + 1 + 1, 0, none⟩ (.int .u64 (N1 : Int))) (w.heap.size + 1 + 1) 70 #[.int .u64 (N1 : Int), .bool sk]) := by
          have h_ := (HG3.out.below d3 HG3.out.lt).set_ 0 (.int .u64 (N1 : Int))
          show Blk _ _ _ _
          simpa using h_
        have HG7 := Lib.hid ((HG1.out.below d3 HG1.out.lt).far (p := ⟨w.heap.size + 1 + 1, 0, none⟩) (by simp; omega) (.int .u64 (N1 : Int)))
        have HG8 := Lib.hid ((HG2.out.below d3 HG2.out.lt).far (p := ⟨w.heap.size + 1 + 1, 0, none⟩) (by simp) (.int .u64 (N1 : Int)))
        have HB6 := Lib.hid ((btrans HB.out d3).setCell (p := ⟨w.heap.size + 1 + 1, 0, none⟩) (by simp; omega) (.int .u64 (N1 : Int)))
        go_wp2_with fail
        go_roundg g2
        case measure => omega
        case rel => exact ⟨k + 1, by omega, by go_num, HG7.out, HG8.out, by rw [HQ1.out]; exact HG6.out, HB6.out⟩
end Go.Proofs.Ytjcnngnahijceaa.forc

/- Forcing: the contracts of the program's rounds and last. -/
namespace Go.Proofs.Ytjcnngnahijceaa.forc
open Go.RowKit P2 words edges ints good adjs fns sets rets covs bags bitsI ups func gridr
set_option linter.unusedVariables false

/-- colourings, as cells -/
def cellsC (sk : Bool) (L : List Nat) : List Value := L.flatMap fun d : Nat => [.int .u64 (d : Int), .bool sk]
theorem cellsC_app (sk : Bool) (L M : List Nat) : cellsC sk (L ++ M) = cellsC sk L ++ cellsC sk M := by simp [cellsC]
theorem infoC : (Try.prog.info? 70).map (fun i => (i.zero, i.size, i.bytes)) = some (some (.agg #[.int .u64 0, .bool false]), 2, 16) := by kernel_rfl
theorem pushC {w1 w2 : World} {B : Nat} {s v2 : Value} {m : List Nat} {d : Nat} {sk : Bool} {o : Obj} (hrow : w1.ownsRow B 70 2 s m.length (cellsC sk m)) (hown : w2.ownsRow B 70 2 v2 (m.length + 1) (cellsC sk m ++ [.int .u64 (d : Int), .bool sk]))
    (hg : (w1.alloc o).grownBy w2 s.ownBlock) (hB : B ≤ w1.heap.size) : w2.ownsRow B 70 2 v2 (m ++ [d]).length (cellsC sk (m ++ [d])) ∧ Below B w1 w2 :=
  ⟨by rw [cellsC_app, List.length_append]; exact hown, ((Below.refl B w1).alloc hB _).grown hg (by simp; omega) (fun j e => (hrow.lt j e).1)⟩
set_option maxHeartbeats 8000000 in
set_option maxRecDepth 100000 in
theorem rounds_any (n c : Nat) (sk : Bool) (v : Value) (l : List Ed) (w : World) (h : Nums w v (clos l n)) (hg : P2.Good (n : Int) l) (hn : n ≤ 8) (hc : c < 2 ^ n) :
    Calls Try.prog 58 #[.agg #[.int .u64 (c : Int), .bool sk], v] w fun e w' => ∃ A2 c2, e = .returned (.slice A2 (rnds n l sk c).length c2) ∧ w'.ownsRow w.heap.size 70 2 (.slice A2 (rnds n l sk c).length c2) (rnds n l sk c).length (cellsC sk (rnds n l sk c)) ∧ Below w.heap.size w w' := by
  obtain ⟨i0, hi, hz0, hz1, hz2⟩ := info_parts infoC
  obtain ⟨A, cc, rfl, -⟩ := h.form
  have hlen := clos_len l n
  have HAF := Lib.hid (fun (W : World) (hW : Below w.heap.size w W) (d : Nat) (hd : d < 2 ^ n) => after_any n d sk (.slice A (clos l n).length cc) l W (h.below hW) hg hn hd)
  rw [hlen] at HAF ⊢
  have HC := Lib.hid hc
  have H0 : Hid ([] ++ rndL n l sk 8 c = rnds n l sk c) := rfl
  have HRL : Hid ((rnds n l sk c).length ≤ 9) := (rnd_len n l sk 8 c).2
  generalize hR : rnds n l sk c = R at *
  clear hR
  clear h hg hlen hc
  go_enter Try.func58, Try.ntmps58
  go_wp2_with fail
  have HG0 := Lib.hid ((Blk.new w 70 #[.int .u64 (c : Int), .bool sk]).alloc (.cells #[.int .u64 (c : Int), .bool sk] 70))
  have HB0 : Hid (Below w.heap.size w ((w.alloc (.cells #[.int .u64 (c : Int), .bool sk] 70)).alloc (.cells #[.int .u64 (c : Int), .bool sk] 70))) := ((Below.refl _ _).alloc (Nat.le_refl _) _).alloc (by simp) _
  have o0 := World.ownsRow_lit (base := w.heap.size + 1) (e := 70) (size := 2) (w.alloc (.cells #[.int .u64 (c : Int), .bool sk] 70)) #[.int .u64 (c : Int), .bool sk] 1 (by simp) (by unfold maxLen; omega) rfl
  rw [World.size_alloc] at o0
  have HO0 := Lib.hid o0
  have HSZ : Hid (((w.alloc (.cells #[.int .u64 (c : Int), .bool sk] 70)).alloc (.cells #[.int .u64 (c : Int), .bool sk] 70)).heap.size = w.heap.size + 2) := by show _ = _; simp
  have HA1 := Lib.hid (HAF.out _ HB0.out c HC.out)
  clear o0
  generalize ((w.alloc (.cells #[.int .u64 (c : Int), .bool sk] 70)).alloc (.cells #[.int .u64 (c : Int), .bool sk] 70)) = w1 at *
  refine HA1.out.mono ?_
  rintro e w2 ⟨rfl, b2⟩
  have HG2 := Lib.hid (HG0.out.below b2 HG0.out.lt)
  have HB2 := Lib.hid (btrans HB0.out b2)
  have HO2 := Lib.hid (own_below HO0.out b2)
  have hz2' := b2.size
  have HZ2 : Hid (w.heap.size + 2 ≤ w2.heap.size) := by show _ ≤ _; rw [← HSZ.out]; exact hz2'
  clear b2 hz2' HG0 HB0 HO0 HA1 HSZ
  go_wp2_with fail
  have HGN := Lib.hid (Blk.new w2 70 #[.int .u64 (onN n l sk c : Int), .bool sk])
  have HG3 := Lib.hid (HG2.out.alloc (.cells #[.int .u64 (onN n l sk c : Int), .bool sk] 70))
  have HB3 := Lib.hid (HB2.out.alloc HB2.out.size (.cells #[.int .u64 (onN n l sk c : Int), .bool sk] 70))
  have HO3 := Lib.hid (HO2.out.alloc (.cells #[.int .u64 (onN n l sk c : Int), .bool sk] 70))
  have HNE : Hid (w.heap.size < w2.heap.size ∧ ∀ q, (Value.slice (some ⟨w.heap.size + 1, 0, none⟩) 1 1).ownBlock = some q → q ≠ w2.heap.size) := ⟨by have := HZ2.out; omega, fun q hq => by
    have := (HO2.out.lt q hq).2; omega⟩
  clear HG2 HB2 HO2
  go_loopg [5, 6] 8 (fun g av nv wr => ∃ (d nb : Nat) (M : List Nat) (ow : Value), ow = av ∧ nv = .pointer (some ⟨nb, 0, none⟩) ∧ Hid (d < 2 ^ n) ∧ Hid (8 ≤ onesN d + g) ∧ Hid (∃ pre, M = pre ++ [d] ∧ pre ++ rndL n l sk g d = R) ∧ wr.ownsRow (w.heap.size + 1) 70 2 ow M.length (cellsC sk M) ∧ Blk wr w.heap.size 70 #[.int .u64 (d : Int), .bool sk] ∧ Blk wr nb 70 #[.int .u64 (onN n l sk d : Int), .bool sk] ∧ Hid (w.heap.size < nb ∧ ∀ q, ow.ownBlock = some q → q ≠ nb) ∧ Below w.heap.size w wr)
  case atStart => exact ⟨c, w2.heap.size, [c], _, rfl, rfl, HC, Lib.hid (by omega), ⟨[], rfl, H0.out⟩, HO3.out, HG3.out, HGN.out, HNE, HB3.out⟩
  case round =>
    clear HG3 HGN HB3 HO3 HNE H0
    obtain ⟨d, nb, M, ow, rfl, rfl, hdn, hms, hrs, hrow, hg0, hgn, hne, hB⟩ := hrel
    obtain ⟨A4, c4, rfl⟩ := own_form hrow
    have HR := Lib.hid hrow
    have HG := Lib.hid hg0
    have HN := Lib.hid hgn
    have HB := Lib.hid hB
    obtain ⟨p0, p1, y0, y1⟩ := hg0.two
    obtain ⟨m0, m1, -, -⟩ := hgn.two
    clear hrow hg0 hgn hB
    by_cases he : onN n l sk d = d
    · have HV : Hid (R = M) := by
        obtain ⟨pre, h1, h2⟩ := hrs.out
        show _ = _; rw [← h2, (rnd_stop he).1, h1]
      rw [he] at m0
      clear he
      go_wp2_with fail
      go_ret
      rw [HV.out]
      exact ⟨A4, c4, rfl, own_base HR.out (by omega), HB.out⟩
    · obtain ⟨g2, rfl, hms2⟩ := rnd_fuel hn hdn.out hms.out he
      have HMS := Lib.hid hms2
      have HD : Hid (onN n l sk d < 2 ^ n) := on_lt hdn.out
      have HRS : Hid (∃ pre, M ++ [onN n l sk d] = pre ++ [onN n l sk d] ∧ pre ++ rndL n l sk g2 (onN n l sk d) = R) := by
        obtain ⟨pre, h1, h2⟩ := hrs.out
        have hxx := rnd_go (f := g2) he
        exact ⟨M, rfl, by rw [← h2, hxx.1, h1]; simp⟩
      have hpl : M.length ≤ 9 := by
        obtain ⟨pre, h1, h2⟩ := hrs.out
        have h3 := congrArg List.length h2
        have h4 := (rnd_len n l sk (g2 + 1) d).1
        have := HRL.out
        rw [List.length_append] at h3
        rw [h1, List.length_append, List.length_singleton]; omega
      have he2 : (onN n l sk d == d) = false := by rw [beq_eq_false_iff_ne]; exact he
      have he1 : ((onN n l sk d : Int) == (d : Int)) = false := by rw [beq_eq_false_iff_ne]; omega
      have he3 : ((onN n l sk d : Int) != (d : Int)) = true := by rw [bne_iff_ne]; omega
      have hlt0 := HG.out.lt
      have hne0 : some w.heap.size ≠ (Value.slice A4 M.length c4).ownBlock := fun e => by have := (HR.out.lt _ e.symm).1; omega
      have hne1 : some nb ≠ (Value.slice A4 M.length c4).ownBlock := fun e => hne.out.2 nb e.symm rfl
      have HA2 := Lib.hid (fun (W : World) (hW : Below w.heap.size w W) => HAF.out W hW (onN n l sk d) HD.out)
      clear hms2 he hrs
      generalize hN2 : onN n l sk d = d2 at *
      have HN2 := Lib.hid hN2
      clear hN2
      go_wp2_with
        (at_builtin
         go_loud (refine wpList_append_own _ rfl _ _ 68 rfl (w.heap.size + 1) 70 i0 (.agg #[.int .u64 0, .bool false]) 2 16 Try.underlying68 hi hz0 hz1 hz2 rfl (by decide) _ _ _ rfl (HR.out.alloc _) ⟨wr.heap.size, 0, none⟩ 1 1 [.int .u64 (d2 : Int), .bool sk] rfl rfl (cell_two_new _ _ _ _) (fun x hx => by simp at hx; rcases hx with rfl | rfl <;> rfl) (by unfold maxLen; omega) (by omega) (by simp; omega) ?_)
         intro v2 w8 hown2 hgrow2 _
         have HG8 := Lib.hid ((HG.out.alloc (.cells #[.int .u64 (d2 : Int), .bool sk] 70)).grown hgrow2 hne0)
         have HN8 := Lib.hid ((HN.out.alloc (.cells #[.int .u64 (d2 : Int), .bool sk] 70)).grown hgrow2 hne1)
         obtain ⟨hown3, hB8⟩ := pushC HR.out hown2 hgrow2 (by omega)
         have HR8 := Lib.hid hown3
         have HB8 := Lib.hid (HB.out.trans (hB8.mono (by omega)))
         have HNB8 : Hid (∀ q, v2.ownBlock = some q → q < w8.heap.size) := fun q hq => by have := (hown3.lt q hq).2; omega
         clear hown2 hgrow2 hown3 hB8 p0 p1 y0 y1 m0 m1
         have HG9 : Hid (Blk ((w8.setCell ⟨w.heap.size, 0, none⟩ (.int .u64 (d2 : Int))).setCell ⟨w.heap.size, 1, none⟩ (.bool sk)) w.heap.size 70 #[.int .u64 (d2 : Int), .bool sk]) := by
           have h_ := (HG8.out.set_ 0 (.int .u64 (d2 : Int))).set_ 1 (.bool sk)
           show Blk _ _ _ _
           simpa using h_
         have hnb : nb ≠ w.heap.size := by have := hne.out.1; omega
         have HN9 : Hid (Blk ((w8.setCell ⟨w.heap.size, 0, none⟩ (.int .u64 (d2 : Int))).setCell ⟨w.heap.size, 1, none⟩ (.bool sk)) nb 70 #[.int .u64 (d2 : Int), .bool sk]) := (HN8.out.far (p := ⟨w.heap.size, 0, none⟩) hnb (.int .u64 (d2 : Int))).far (p := ⟨w.heap.size, 1, none⟩) hnb (.bool sk)
         have HG10 := Lib.hid (HG9.out.alloc (.cells #[.int .u64 (d2 : Int), .bool sk] 70))
         obtain ⟨p0, p1, y0, y1⟩ := HG8.out.two
         obtain ⟨m0, m1, -, -⟩ := HN8.out.two
         obtain ⟨p2, p3, -, -⟩ := HG9.out.two
         obtain ⟨m2, m3, -, -⟩ := HN9.out.two
         obtain ⟨p4, p5, -, -⟩ := HG10.out.two)
      have HSE : Hid (((w8.setCell ⟨w.heap.size, 0, none⟩ (.int .u64 (d2 : Int))).setCell ⟨w.heap.size, 1, none⟩ (.bool sk)).heap.size = w8.heap.size) := by show _ = _; simp
      have HK10 : Hid (Blk (((w8.setCell ⟨w.heap.size, 0, none⟩ (.int .u64 (d2 : Int))).setCell ⟨w.heap.size, 1, none⟩ (.bool sk)).alloc (.cells #[.int .u64 (d2 : Int), .bool sk] 70)) w8.heap.size 70 #[.int .u64 (d2 : Int), .bool sk]) := by
        have h_ := Blk.new ((w8.setCell ⟨w.heap.size, 0, none⟩ (.int .u64 (d2 : Int))).setCell ⟨w.heap.size, 1, none⟩ (.bool sk)) 70 #[.int .u64 (d2 : Int), .bool sk]
        rw [HSE.out] at h_
        exact h_
      have hneR : v2.ownBlock = none ∨ v2.ownBlock ≠ some w.heap.size := by
        cases hv : v2.ownBlock with
        | none => exact .inl rfl
        | some q => exact .inr fun e => by cases e; have := (HR8.out.lt _ hv).1; omega
      have HR10 := Lib.hid ((HR8.out.kept (gset (gset (World.grownBy.refl w8 (some w.heap.size)) 0 (.int .u64 (d2 : Int))) 1 (.bool sk)) hneR).alloc (.cells #[.int .u64 (d2 : Int), .bool sk] 70))
      have HB10 := Lib.hid (((HB8.out.setCell (p := ⟨w.heap.size, 0, none⟩) (Nat.le_refl _) (.int .u64 (d2 : Int))).setCell (p := ⟨w.heap.size, 1, none⟩) (Nat.le_refl _) (.bool sk)).alloc (by rw [HSE.out]; exact HB8.out.size) (.cells #[.int .u64 (d2 : Int), .bool sk] 70))
      have HLT8 : Hid (w.heap.size < w8.heap.size) := HG8.out.lt
      clear p0 p1 y0 y1 m0 m1 p2 p3 m2 m3 p4 p5 HG8 HN8 HG9 HN9 hneR HR8 HB8
      generalize ((w8.setCell ⟨w.heap.size, 0, none⟩ (.int .u64 (d2 : Int))).setCell ⟨w.heap.size, 1, none⟩ (.bool sk)).alloc (.cells #[.int .u64 (d2 : Int), .bool sk] 70) = w10 at *
      refine (HA2.out w10 HB10.out).mono ?_
      rintro e w11 ⟨rfl, b11⟩
      have HG11 := Lib.hid (HG10.out.below b11 HG10.out.lt)
      have HK11 := Lib.hid (HK10.out.below b11 HK10.out.lt)
      have HR11 := Lib.hid (own_below HR10.out b11)
      have HB11 := Lib.hid (btrans HB10.out b11)
      clear b11 HG10 HK10 HR10 HB10 HA2
      obtain ⟨m0, m1, y0, y1⟩ := HK11.out.two
      generalize hN3 : onN n l sk d2 = d3 at *
      have HN3 := Lib.hid hN3
      clear hN3
      go_wp2_with fail
      have HK12 : Hid (Blk ((w11.setCell ⟨w8.heap.size, 0, none⟩ (.int .u64 (d3 : Int))).setCell ⟨w8.heap.size, 1, none⟩ (.bool sk)) w8.heap.size 70 #[.int .u64 (d3 : Int), .bool sk]) := by
        have h_ := (HK11.out.set_ 0 (.int .u64 (d3 : Int))).set_ 1 (.bool sk)
        show Blk _ _ _ _
        simpa using h_
      have HG12 := Lib.hid ((HG11.out.far (p := ⟨w8.heap.size, 0, none⟩) (by have := HLT8.out; show w.heap.size ≠ w8.heap.size; omega) (.int .u64 (d3 : Int))).far (p := ⟨w8.heap.size, 1, none⟩) (by have := HLT8.out; show w.heap.size ≠ w8.heap.size; omega) (.bool sk))
      have hneR : v2.ownBlock = none ∨ v2.ownBlock ≠ some w8.heap.size := by
        cases hv : v2.ownBlock with
        | none => exact .inl rfl
        | some q => exact .inr fun e => by cases e; have := HNB8.out _ hv; omega
      have HR12 := Lib.hid (HR11.out.kept (gset (gset (World.grownBy.refl w11 (some w8.heap.size)) 0 (.int .u64 (d3 : Int))) 1 (.bool sk)) hneR)
      have HB12 := Lib.hid ((HB11.out.setCell (p := ⟨w8.heap.size, 0, none⟩) (Nat.le_of_lt HLT8.out) (.int .u64 (d3 : Int))).setCell (p := ⟨w8.heap.size, 1, none⟩) (Nat.le_of_lt HLT8.out) (.bool sk))
      go_roundg g2
      case measure => omega
      case rel => exact ⟨d2, w8.heap.size, M ++ [d2], _, rfl, rfl, HD, HMS, HRS, HR12.out, HG12.out, by rw [HN3.out]; exact HK12.out, ⟨HLT8.out, fun q hq => by have := HNB8.out q hq; omega⟩, HB12.out⟩
end Go.Proofs.Ytjcnngnahijceaa.forc

/- Forcing: the contracts of the program's last, of its three beginnings, of colouredFrom, and of ForceOnce, ForceAll, PowerAll, SkewAll, IsForcing and FortOutside. -/
namespace Go.Proofs.Ytjcnngnahijceaa.forc
open Go.RowKit P2 words edges ints good adjs fns sets rets covs bags bitsI ups func gridr
set_option linter.unusedVariables false

theorem cellsC_at {sk : Bool} : ∀ {L : List Nat} {i d : Nat}, L[i]? = some d → (cellsC sk L)[i * 2]? = some (.int .u64 (d : Int)) ∧ (cellsC sk L)[i * 2 + 1]? = some (.bool sk)
  | [], i, d, h => by simp at h
  | a :: L, 0, d, h => by
    obtain rfl : a = d := by simpa using h
    exact ⟨rfl, rfl⟩
  | a :: L, i + 1, d, h => by
    have ih := cellsC_at (sk := sk) (L := L) (i := i) (d := d) (by simpa using h)
    rw [show (i + 1) * 2 = i * 2 + 1 + 1 from by omega]
    show (Value.int _ _ :: Value.bool _ :: cellsC sk L)[i * 2 + 1 + 1]? = _ ∧ (Value.int _ _ :: Value.bool _ :: cellsC sk L)[i * 2 + 1 + 1 + 1]? = _
    rw [List.getElem?_cons_succ, List.getElem?_cons_succ, List.getElem?_cons_succ, List.getElem?_cons_succ]
    exact ih
/-- the colouring behind a begin of a kind: 0 plain, 1 power, 2 skew -/
def bgN (n : Nat) (l : List Ed) (kind c : Nat) : Nat := if kind = 1 then arN l n c else c
def bgS (kind : Nat) : Bool := kind == 2
def rchN (n : Nat) (l : List Ed) (kind c : Nat) : Nat := lastN n l (bgS kind) (bgN n l kind c)
theorem ar_lt {n : Nat} {l : List Ed} (c : Nat) : arN l n c < 2 ^ n := num_ltN _ _
theorem bg_lt {n : Nat} {l : List Ed} {kind c : Nat} (hc : c < 2 ^ n) : bgN n l kind c < 2 ^ n := by
  unfold bgN
  split
  · exact ar_lt c
  · exact hc
theorem rch_lt {n : Nat} {l : List Ed} {kind c : Nat} (hc : c < 2 ^ n) : rchN n l kind c < 2 ^ n := last_ltN (bg_lt hc)
set_option maxHeartbeats 1000000 in
set_option maxRecDepth 100000 in
theorem beginPlain_any (n c : Nat) (v : Value) (l : List Ed) (w : World) (h : Nums w v (clos l n)) (hg : P2.Good (n : Int) l) (hn : n ≤ 8) (hc : c < 2 ^ n) :
    Calls Try.prog 57 #[v, .int .u64 (c : Int)] w fun e w' => e = .returned (.agg #[.int .u64 (bgN n l 0 c : Int), .bool (bgS 0)]) ∧ Below w.heap.size w w' := by
  have HB0 : Hid (Below w.heap.size w (w.alloc (.cells #[.int .u64 0, .bool false] 70))) := (Below.refl _ _).alloc (Nat.le_refl _) _
  obtain ⟨p0, p1, y0, y1⟩ := (Blk.new w 70 #[.int .u64 0, .bool false]).two
  clear h hg hc
  go_enter Try.func57, Try.ntmps57
  go_wp2_with fail
  obtain ⟨q0, q1, -, -⟩ := (Blk.new w 70 #[.int .u64 ((c : Nat) : Int), .bool false]).two
  refine bodyPost_ret (v := .agg #[.int .u64 ((c : Nat) : Int), .bool false]) (by simp [results, Try.results57, go_sem, q0, q1]) rfl ⟨rfl, (Below.refl _ _).alloc (Nat.le_refl _) _⟩
/-- a function value that begins in one of the three ways -/
structure FnBeg (f : FuncId) (n : Nat) (l : List Ed) (kind : Nat) : Prop where
  enter : ∀ (args : Array Value) (W : World), (callFunc f args).run Try.prog W = .ok (.enter f args) W
  call : ∀ (W : World) (v : Value) (c : Nat), Nums W v (clos l n) → c < 2 ^ n → Calls Try.prog f #[v, .int .u64 (c : Int)] W fun e W' => e = .returned (.agg #[.int .u64 (bgN n l kind c : Int), .bool (bgS kind)]) ∧ Below W.heap.size W W'
end Go.Proofs.Ytjcnngnahijceaa.forc
