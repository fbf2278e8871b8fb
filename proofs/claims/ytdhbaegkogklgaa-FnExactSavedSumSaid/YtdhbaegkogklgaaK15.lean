/- Guards: the contracts of the program's hasGuards and GuardSets. -/
import Derived.Handy
import Derived.Test.YtdhbaegkogklgaaK14
import Derived.Test.YtdhbaegkogklgaaK01
import Derived.Deep.DeepCutAuto
import Derived.Deep.RegionHeld3
import Derived.Deep.QuietTactic
import Derived.Test.YtdhbaegkogklgaaK04
import Derived.Test.YtdhbaegkogklgaaK08
import Derived.Test.YtdhbaegkogklgaaK07
import Derived.Test.YtdhbaegkogklgaaK11
import Derived.Test.YtdhbaegkogklgaaK10
namespace Go.Proofs.Ytdhbaegkogklgaa.ups
open Go.RowKit P2 words edges ints owns good adjs fns sets rets covs bitsI func grid gridl
set_option linter.unusedVariables false

/-- a valid Graph and a number of guards in it -/
def GrdOk (s : Int) (l : List Ed) (k : Int) : Prop := P2.Good s l ∧ 0 ≤ k ∧ k ≤ s
def gsL (s k : Int) : List (List Int) := rowN (setsK s.toNat k.toNat)
theorem gs_len (s k : Int) (l : List Ed) : gridl.tot (gdG (GrdOk s l k) (gsL s k)) ≤ 1048576 ∧ (gdG (GrdOk s l k) (gsL s k)).length ≤ 1048576 := by
  by_cases h : GrdOk s l k
  · rw [gdG_yes h]
    have h8 := h.1.2.1
    have hk := h.2.2
    have h1 := setsK_len (n := s.toNat) (k := k.toNat) (by omega) (by omega)
    have h2 : ∀ r ∈ gsL s k, r.length ≤ 8 := fun r hr => by
      obtain ⟨c, hc, rfl⟩ := List.mem_map.1 hr
      exact nw_len _ _
    have h3 : gridl.tot (gsL s k) ≤ (gsL s k).length * 8 := by
      unfold gridl.tot
      generalize gsL s k = rows at h2 ⊢
      induction rows with
      | nil => simp
      | cons r rs ih =>
        have := ih (fun r hr => h2 r (List.mem_cons_of_mem _ hr))
        have := h2 r List.mem_cons_self
        simp only [List.map_cons, List.sum_cons, List.length_cons]
        omega
    have h4 : (gsL s k).length = (setsK s.toNat k.toNat).length := rowN_len _
    omega
  · rw [gdG_no h]; simp [gridl.tot]
end Go.Proofs.Ytdhbaegkogklgaa.ups

/- Forcing: which nodes are coloured round by round: mathematics. -/
namespace Go.Proofs.Ytdhbaegkogklgaa.forc
open Go.RowKit P2 words edges ints good adjs fns sets rets covs bags bitsI ups
set_option linter.unusedVariables false

/-- a part of a set that has as many elements is the set -/
theorem sub_more {a b : Nat} (ha : a < 256) (hb : b < 256) (hs : ∀ k, a.testBit k = true → b.testBit k = true) (hne : a ≠ b) : onesN a < onesN b := by
  have hex : ∃ k, a.testBit k = false ∧ b.testBit k = true := by
    refine Classical.byContradiction fun hno => hne (Nat.eq_of_testBit_eq fun k => ?_)
    cases h1 : a.testBit k with
    | true => exact (hs k h1).symm
    | false =>
      cases h2 : b.testBit k with
      | false => rfl
      | true => exact absurd ⟨k, h1, h2⟩ hno
  obtain ⟨k, h1, h2⟩ := hex
  have hk : k < 8 := by
    by_cases e : k < 8
    · exact e
    · rw [Nat.testBit_lt_two_pow (Nat.lt_of_lt_of_le hb (by have h9 := Nat.pow_le_pow_right (show 0 < 2 by decide) (show 8 ≤ k by omega); simpa using h9))] at h2; cases h2
  have h3 := ones_put ha hk h1
  have h4 : onesN (a ||| 2 ^ k) ≤ onesN b := ones_mono fun j _ hj => by
    unfold bitB at hj ⊢
    rw [put_bit, Bool.or_eq_true, decide_eq_true_iff] at hj
    rcases hj with hj | rfl
    · exact hs j hj
    · exact h2
  omega
theorem num_ltN (p : Nat → Bool) (n : Nat) : numOf p n < 2 ^ n := Nat.lt_pow_two_of_testBit _ fun i hi => by rw [numOf_bit, decide_eq_false (by omega), Bool.false_and]
/-- the neighbors of a node that are not coloured -/
def lefB (l : List Ed) (c x z : Nat) : Bool := adj l (x : Int) (z : Int) && !c.testBit z
def lefN (n : Nat) (l : List Ed) (c x : Nat) : Nat := numOf (lefB l c x) n
def frcT (n : Nat) (l : List Ed) (sk : Bool) (c x : Nat) : Bool := (onesN (lefN n l c x) == 1) && (sk || c.testBit x)
def frcN (n : Nat) (l : List Ed) (sk : Bool) (c x : Nat) : Nat := if frcT n l sk c x = true then lefN n l c x else 0
theorem frc_yes {n : Nat} {l : List Ed} {sk : Bool} {c x : Nat} (h : frcT n l sk c x = true) : frcN n l sk c x = lefN n l c x := by unfold frcN; rw [if_pos h]
theorem frc_no {n : Nat} {l : List Ed} {sk : Bool} {c x : Nat} (h : frcT n l sk c x = false) : frcN n l sk c x = 0 := by unfold frcN; rw [if_neg (by simp [h])]
theorem lef_lt (n : Nat) (l : List Ed) (c x : Nat) : lefN n l c x < 2 ^ n := num_ltN _ _
theorem frc_lt (n : Nat) (l : List Ed) (sk : Bool) (c x : Nat) : frcN n l sk c x < 2 ^ n := by
  unfold frcN
  split
  · exact lef_lt n l c x
  · exact Nat.pow_pos (by decide)
/-- behind the first k nodes of a round -/
def onK (n : Nat) (l : List Ed) (sk : Bool) (c : Nat) : Nat → Nat
  | 0 => c
  | k + 1 => onK n l sk c k ||| frcN n l sk c k
/-- behind a round -/
def onN (n : Nat) (l : List Ed) (sk : Bool) (c : Nat) : Nat := onK n l sk c n
theorem onK_lt {n : Nat} {l : List Ed} {sk : Bool} {c : Nat} (hc : c < 2 ^ n) : ∀ k, onK n l sk c k < 2 ^ n
  | 0 => hc
  | k + 1 => Nat.or_lt_two_pow (onK_lt hc k) (frc_lt n l sk c k)
theorem onK_sub {n : Nat} {l : List Ed} {sk : Bool} {c j : Nat} (h : c.testBit j = true) : ∀ k, (onK n l sk c k).testBit j = true
  | 0 => h
  | k + 1 => by rw [onK, Nat.testBit_or, onK_sub h k]; rfl
theorem on_lt {n : Nat} {l : List Ed} {sk : Bool} {c : Nat} (hc : c < 2 ^ n) : onN n l sk c < 2 ^ n := onK_lt hc n
theorem on_more {n : Nat} {l : List Ed} {sk : Bool} {c : Nat} (hn : n ≤ 8) (hc : c < 2 ^ n) (h : onN n l sk c ≠ c) : onesN c < onesN (onN n l sk c) :=
  sub_more (Nat.lt_of_lt_of_le hc (pow_le hn)) (Nat.lt_of_lt_of_le (on_lt hc) (pow_le hn)) (fun k hk => onK_sub hk n) (Ne.symm h)
theorem on_same {n : Nat} {l : List Ed} {sk : Bool} {c : Nat} (hn : n ≤ 8) (hc : c < 2 ^ n) : onesN (onN n l sk c) = onesN c ↔ onN n l sk c = c :=
  ⟨fun h => Classical.byContradiction fun hne => by have := on_more hn hc hne; omega, fun h => by rw [h]⟩
/-- ahead of all rounds and behind each one that colours more -/
def rndL (n : Nat) (l : List Ed) (sk : Bool) : Nat → Nat → List Nat
  | 0, c => [c]
  | f + 1, c => if onN n l sk c = c then [c] else c :: rndL n l sk f (onN n l sk c)
/-- when no round colours more -/
def lastF (n : Nat) (l : List Ed) (sk : Bool) : Nat → Nat → Nat
  | 0, c => c
  | f + 1, c => if onN n l sk c = c then c else lastF n l sk f (onN n l sk c)
def rnds (n : Nat) (l : List Ed) (sk : Bool) (c : Nat) : List Nat := rndL n l sk 8 c
def lastN (n : Nat) (l : List Ed) (sk : Bool) (c : Nat) : Nat := lastF n l sk 8 c
theorem rnd_len (n : Nat) (l : List Ed) (sk : Bool) : ∀ f c, 1 ≤ (rndL n l sk f c).length ∧ (rndL n l sk f c).length ≤ f + 1
  | 0, c => ⟨Nat.le_refl _, Nat.le_refl _⟩
  | f + 1, c => by
    unfold rndL
    split
    · simp
    · have := rnd_len n l sk f (onN n l sk c)
      rw [List.length_cons]; omega
theorem rnd_last (n : Nat) (l : List Ed) (sk : Bool) : ∀ f c, (rndL n l sk f c)[(rndL n l sk f c).length - 1]? = some (lastF n l sk f c)
  | 0, c => rfl
  | f + 1, c => by
    unfold rndL lastF
    split
    · rfl
    · have h := rnd_last n l sk f (onN n l sk c)
      have h1 := (rnd_len n l sk f (onN n l sk c)).1
      rw [List.length_cons, Nat.add_sub_cancel]
      obtain ⟨m, hm⟩ : ∃ m, (rndL n l sk f (onN n l sk c)).length = m + 1 := ⟨(rndL n l sk f (onN n l sk c)).length - 1, by omega⟩
      rw [hm] at h ⊢
      simpa using h
theorem last_lt {n : Nat} {l : List Ed} {sk : Bool} : ∀ f {c : Nat}, c < 2 ^ n → lastF n l sk f c < 2 ^ n
  | 0, c, h => h
  | f + 1, c, h => by
    unfold lastF
    split
    · exact h
    · exact last_lt f (on_lt h)
theorem rnd_mem {n : Nat} {l : List Ed} {sk : Bool} : ∀ f {c : Nat}, c < 2 ^ n → ∀ d ∈ rndL n l sk f c, d < 2 ^ n
  | 0, c, h, d, hd => by simp [rndL] at hd; rw [hd]; exact h
  | f + 1, c, h, d, hd => by
    unfold rndL at hd
    split at hd
    · simp at hd; rw [hd]; exact h
    · rcases List.mem_cons.1 hd with e | hd
      · rw [e]; exact h
      · exact rnd_mem f (on_lt h) d hd
theorem last_ltN {n : Nat} {l : List Ed} {sk : Bool} {c : Nat} (hc : c < 2 ^ n) : lastN n l sk c < 2 ^ n := last_lt 8 hc
/-- what a loop over the rounds keeps -/
theorem rnd_stop {n : Nat} {l : List Ed} {sk : Bool} {f c : Nat} (h : onN n l sk c = c) : rndL n l sk f c = [c] ∧ lastF n l sk f c = c := by
  cases f with
  | zero => exact ⟨rfl, rfl⟩
  | succ f => unfold rndL lastF; rw [if_pos h, if_pos h]; exact ⟨rfl, rfl⟩
theorem rnd_go {n : Nat} {l : List Ed} {sk : Bool} {f c : Nat} (h : onN n l sk c ≠ c) : rndL n l sk (f + 1) c = c :: rndL n l sk f (onN n l sk c) ∧ lastF n l sk (f + 1) c = lastF n l sk f (onN n l sk c) := by
  constructor
  · rw [rndL, if_neg h]
  · rw [lastF, if_neg h]
/-- a fuel that lasts -/
theorem rnd_fuel {n : Nat} {l : List Ed} {sk : Bool} {f c : Nat} (hn : n ≤ 8) (hc : c < 2 ^ n) (hf : 8 ≤ onesN c + f) (h : onN n l sk c ≠ c) : ∃ g, f = g + 1 ∧ 8 ≤ onesN (onN n l sk c) + g := by
  have h1 := on_more hn hc h
  have h2 := ones_le (onN n l sk c)
  exact ⟨f - 1, by omega, by omega⟩
theorem full_on {n : Nat} {l : List Ed} {sk : Bool} : onN n l sk (2 ^ n - 1) = 2 ^ n - 1 := by
  apply Nat.eq_of_testBit_eq
  intro k
  have h1 : (2 ^ n - 1) < 2 ^ n := by have := Nat.pow_pos (n := n) (show 0 < 2 by decide); omega
  by_cases hk : k < n
  · have h2 : (2 ^ n - 1).testBit k = true := by rw [Nat.testBit_two_pow_sub_one]; simp [hk]
    rw [h2]; exact onK_sub h2 n
  · have h2 : ∀ z, z < 2 ^ n → z.testBit k = false := fun z hz => Nat.testBit_lt_two_pow (Nat.lt_of_lt_of_le hz (Nat.pow_le_pow_right (by decide) (by omega)))
    rw [h2 _ h1, h2 _ (on_lt h1)]
theorem full_last (n : Nat) (l : List Ed) (sk : Bool) : lastN n l sk (2 ^ n - 1) = 2 ^ n - 1 := (rnd_stop full_on).2
/-- the one node that is left -/
theorem one_bit {c : Nat} (h8 : c < 256) (h : onesN c = 1) : ∃ y, y < 8 ∧ c = 2 ^ y :=
  have : ∀ c : Fin 256, onesN c.1 = 1 → ∃ y : Fin 8, c.1 = 2 ^ y.1 := by decide +kernel
  let ⟨y, hy⟩ := this ⟨c, h8⟩ h
  ⟨y.1, y.2, hy⟩
end Go.Proofs.Ytdhbaegkogklgaa.forc

/- Forcing: the number of the round in which a node is coloured, and forts: mathematics. -/
namespace Go.Proofs.Ytdhbaegkogklgaa.forc
open Go.RowKit P2 words edges ints good adjs fns sets rets covs bags bitsI ups func
set_option linter.unusedVariables false

/-- behind k rounds -/
def orb (n : Nat) (l : List Ed) (sk : Bool) (c : Nat) : Nat → Nat
  | 0 => c
  | k + 1 => onN n l sk (orb n l sk c k)
theorem orb_lt {n : Nat} {l : List Ed} {sk : Bool} {c : Nat} (hc : c < 2 ^ n) : ∀ k, orb n l sk c k < 2 ^ n
  | 0 => hc
  | k + 1 => on_lt (orb_lt hc k)
theorem orb_from {n : Nat} {l : List Ed} {sk : Bool} (c : Nat) : ∀ k, orb n l sk (onN n l sk c) k = orb n l sk c (k + 1)
  | 0 => rfl
  | k + 1 => by show onN n l sk _ = onN n l sk _; rw [orb_from c k]
theorem orb_stop {n : Nat} {l : List Ed} {sk : Bool} {c : Nat} (h : onN n l sk c = c) : ∀ k, orb n l sk c k = c
  | 0 => rfl
  | k + 1 => by show onN n l sk _ = c; rw [orb_stop h k, h]
theorem rnd_orb {n : Nat} {l : List Ed} {sk : Bool} : ∀ (f c j : Nat), j < (rndL n l sk f c).length → (rndL n l sk f c)[j]? = some (orb n l sk c j)
  | 0, c, j, h => by
    have : j = 0 := by simp [rndL] at h; exact h
    subst this; rfl
  | f + 1, c, j, h => by
    unfold rndL at h ⊢
    split at h
    · rename_i e
      rw [if_pos e]
      have : j = 0 := by simpa using h
      subst this; rfl
    · rename_i e
      rw [if_neg e]
      cases j with
      | zero => rfl
      | succ j =>
        rw [List.getElem?_cons_succ, rnd_orb f _ j (by rw [List.length_cons] at h; omega), orb_from]
theorem rnd_len8 {n : Nat} {l : List Ed} {sk : Bool} (hn : n ≤ 8) : ∀ (f : Nat) {c : Nat}, c < 2 ^ n → (rndL n l sk f c).length + onesN c ≤ n + 1
  | 0, c, hc => by have := ones_topN hn hc; show 1 + _ ≤ _; omega
  | f + 1, c, hc => by
    unfold rndL
    split
    · have := ones_topN hn hc; rw [List.length_cons, List.length_nil]; omega
    · rename_i e
      have h1 := rnd_len8 (l := l) (sk := sk) hn f (c := onN n l sk c) (on_lt hc)
      have h2 := on_more hn hc e
      rw [List.length_cons]; omega
theorem rnd_tail {n : Nat} {l : List Ed} {sk : Bool} (hn : n ≤ 8) : ∀ (f : Nat) {c : Nat}, c < 2 ^ n → 8 ≤ onesN c + f → ∀ j, (rndL n l sk f c).length ≤ j + 1 → orb n l sk c j = lastF n l sk f c
  | 0, c, hc, hf, j, hj => by
    have h8 := ones_le (onN n l sk c)
    have : onN n l sk c = c := Classical.byContradiction fun e => by have := on_more hn hc e; omega
    exact orb_stop this j
  | f + 1, c, hc, hf, j, hj => by
    unfold rndL at hj
    unfold lastF
    split at hj
    · rename_i e
      rw [if_pos e]; exact orb_stop e j
    · rename_i e
      rw [if_neg e]
      have h2 := on_more hn hc e
      have h1 := (rnd_len n l sk f (onN n l sk c)).1
      rw [List.length_cons] at hj
      obtain ⟨i, rfl⟩ : ∃ i, j = i + 1 := ⟨j - 1, by omega⟩
      rw [← orb_from]
      exact rnd_tail hn f (on_lt hc) (by omega) i (by omega)
theorem last_orb {n : Nat} {l : List Ed} {sk : Bool} (hn : n ≤ 8) {c : Nat} (hc : c < 2 ^ n) : ∀ j, n ≤ j → orb n l sk c j = lastN n l sk c := fun j hj =>
  rnd_tail hn 8 hc (by omega) j (by have := rnd_len8 (l := l) (sk := sk) hn 8 hc; omega)
theorem last_fix {n : Nat} {l : List Ed} {sk : Bool} (hn : n ≤ 8) {c : Nat} (hc : c < 2 ^ n) : onN n l sk (lastN n l sk c) = lastN n l sk c := by
  rw [← last_orb hn hc n (Nat.le_refl _)]
  show orb n l sk c (n + 1) = _
  rw [last_orb hn hc n (Nat.le_refl _), last_orb hn hc (n + 1) (by omega)]
/-- the round in which a node is coloured, of the first r -/
def fstR (n : Nat) (l : List Ed) (c x : Nat) : Nat → Int
  | 0 => if c.testBit x = true then 0 else -1
  | r + 1 => if fstR n l c x r < 0 ∧ (orb n l false c (r + 1)).testBit x = true then ((r + 1 : Nat) : Int) else fstR n l c x r
theorem fst_is (n : Nat) (l : List Ed) (c x : Nat) : ∀ r, (fstR n l c x r = -1 ∧ ∀ j, j ≤ r → (orb n l false c j).testBit x = false) ∨ ∃ j : Nat, fstR n l c x r = (j : Int) ∧ j ≤ r ∧ (orb n l false c j).testBit x = true ∧ ∀ i, i < j → (orb n l false c i).testBit x = false
  | 0 => by
    unfold fstR
    by_cases h : c.testBit x = true
    · rw [if_pos h]; exact .inr ⟨0, rfl, Nat.le_refl _, h, fun i hi => by omega⟩
    · rw [if_neg h]
      refine .inl ⟨rfl, fun j hj => ?_⟩
      have : j = 0 := by omega
      subst this; rw [orb]; simpa using h
  | r + 1 => by
    rcases fst_is n l c x r with ⟨h1, h2⟩ | ⟨j, h1, h2, h3, h4⟩
    · unfold fstR
      by_cases h : (orb n l false c (r + 1)).testBit x = true
      · rw [if_pos ⟨by omega, h⟩]
        exact .inr ⟨r + 1, rfl, Nat.le_refl _, h, fun i hi => h2 i (by omega)⟩
      · rw [if_neg (fun hh => h hh.2)]
        refine .inl ⟨h1, fun j hj => ?_⟩
        by_cases e : j = r + 1
        · subst e; simpa using h
        · exact h2 j (by omega)
    · unfold fstR
      rw [if_neg (fun hh => by omega)]
      exact .inr ⟨j, h1, by omega, h3, h4⟩
theorem fst_idx {n : Nat} {l : List Ed} {c x : Nat} (hn : n ≤ 8) (hc : c < 2 ^ n) : idxF (fun d => Nat.testBit d x) (rnds n l false c) = fstR n l c x n := by
  have hl := rnd_len8 (l := l) (sk := false) hn 8 hc
  rcases fst_is n l c x n with ⟨h1, h2⟩ | ⟨j, h1, h2, h3, h4⟩
  · rw [h1]
    refine idxF_none fun i z hi hz => ?_
    have := rnd_orb (n := n) (l := l) (sk := false) 8 c i hi
    rw [show rndL n l false 8 c = rnds n l false c from rfl, hz] at this
    cases this
    exact h2 i (by change i < (rndL n l false 8 c).length at hi; omega)
  · rw [h1]
    have hj : j < (rnds n l false c).length := by
      refine Classical.byContradiction fun hno => ?_
      have hno' : (rndL n l false 8 c).length ≤ j := by change ¬ j < (rndL n l false 8 c).length at hno; omega
      have hl1 := (rnd_len n l false 8 c).1
      have e1 := rnd_tail hn 8 hc (by omega) j (by omega) (l := l) (sk := false)
      have e2 := rnd_tail hn 8 hc (by omega) ((rndL n l false 8 c).length - 1) (by omega) (l := l) (sk := false)
      have := h4 ((rndL n l false 8 c).length - 1) (by omega)
      rw [e2, ← e1, h3] at this; cases this
    refine idxF_at (y := orb n l false c j) (fun i z hi hz => ?_) (rnd_orb 8 c j hj) h3
    have := rnd_orb (n := n) (l := l) (sk := false) 8 c i (by change j < (rndL n l false 8 c).length at hj; omega)
    rw [show rndL n l false 8 c = rnds n l false c from rfl, hz] at this
    cases this
    exact h4 i hi
theorem fst_same {n : Nat} {l : List Ed} {c x r : Nat} (h : (orb n l false c (r + 1)).testBit x = false) : fstR n l c x (r + 1) = fstR n l c x r := by
  rw [fstR, if_neg (fun hh => by rw [h] at hh; exact absurd hh.2 (by decide))]
theorem fst_keep {n : Nat} {l : List Ed} {c x r : Nat} (h : ¬ fstR n l c x r < 0) : fstR n l c x (r + 1) = fstR n l c x r := by
  rw [fstR, if_neg (fun hh => h hh.1)]
theorem fst_new {n : Nat} {l : List Ed} {c x r : Nat} (h : fstR n l c x r < 0) (h2 : (orb n l false c (r + 1)).testBit x = true) : fstR n l c x (r + 1) = ((r + 1 : Nat) : Int) := by
  rw [fstR, if_pos ⟨h, h2⟩]
theorem fst_range (n : Nat) (l : List Ed) (c x r : Nat) : -1 ≤ fstR n l c x r ∧ fstR n l c x r ≤ (r : Int) := by
  rcases fst_is n l c x r with ⟨h1, h2⟩ | ⟨j, h1, h2, h3, h4⟩ <;> omega
def fstL (n : Nat) (l : List Ed) (c r : Nat) : List Int := (List.range n).map fun x => fstR n l c x r
theorem fstL_len (n : Nat) (l : List Ed) (c r : Nat) : (fstL n l c r).length = n := by simp [fstL]

/-- forts -/
def frtB (n : Nat) (l : List Ed) (c : Nat) : Bool := (List.range n).all (fun x => c.testBit x || !(insN l c x == 1)) && !(c == 0)
theorem frt_iff {n : Nat} {l : List Ed} {c : Nat} : frtB n l c = true ↔ (∀ x, x < n → c.testBit x = false → insN l c x ≠ 1) ∧ c ≠ 0 := by
  unfold frtB
  rw [Bool.and_eq_true, List.all_eq_true]
  constructor
  · rintro ⟨h1, h2⟩
    refine ⟨fun x hx hb => ?_, by simpa using h2⟩
    have := h1 x (List.mem_range.2 hx)
    rw [hb, Bool.false_or] at this
    simpa using this
  · rintro ⟨h1, h2⟩
    refine ⟨fun x hx => ?_, by simpa using h2⟩
    cases hb : c.testBit x with
    | true => rfl
    | false => simpa using h1 x (List.mem_range.1 hx) hb
theorem frt_stop {n : Nat} {l : List Ed} {c x : Nat} (hx : x < n) (hb : c.testBit x = false) (h : insN l c x = 1) : frtB n l c = false := by
  cases hf : frtB n l c with
  | false => rfl
  | true => exact absurd h ((frt_iff.1 hf).1 x hx hb)
theorem frt_end {n : Nat} {l : List Ed} {c : Nat} (h : ∀ x, x < n → ¬ (c.testBit x = false ∧ insN l c x = 1)) : frtB n l c = !(c == 0) := by
  cases hc : c == 0 with
  | true =>
    cases hf : frtB n l c with
    | false => rfl
    | true => exact absurd (by simpa using hc) (frt_iff.1 hf).2
  | false => exact frt_iff.2 ⟨fun x hx hb e => h x hx ⟨hb, e⟩, by simpa using hc⟩
end Go.Proofs.Ytdhbaegkogklgaa.forc

/- The least forts, in order: mathematics. -/
namespace Go.Proofs.Ytdhbaegkogklgaa.forc
open Go.RowKit P2 words edges ints good adjs fns sets rets covs bags bitsI ups func
set_option linter.unusedVariables false

/-- a set is part of another one -/
def subB (f c : Nat) : Bool := f &&& c == f
theorem subB_iff {f c : Nat} : subB f c = true ↔ ∀ z, f.testBit z = true → c.testBit z = true := by
  unfold subB
  rw [beq_iff_eq]
  constructor
  · intro h z hz
    have : (f &&& c).testBit z = true := by rw [h]; exact hz
    rw [Nat.testBit_and, Bool.and_eq_true] at this
    exact this.2
  · intro h
    apply Nat.eq_of_testBit_eq
    intro z
    rw [Nat.testBit_and]
    cases hf : f.testBit z with
    | false => rfl
    | true => rw [h z hf]; rfl
def ftsF (n : Nat) (l : List Ed) (acc : List Nat) (c : Nat) : List Nat := if (frtB n l c && !(acc.any fun f => subB f c)) = true then acc ++ [c] else acc
def ftsT (n : Nat) (l : List Ed) (S : List Nat) : List Nat := S.foldl (ftsF n l) []
theorem fts_succ {n : Nat} {l : List Ed} {S : List Nat} {i c : Nat} (h : S[i]? = some c) : ftsT n l (S.take (i + 1)) = ftsF n l (ftsT n l (S.take i)) c := by
  unfold ftsT
  rw [List.take_add_one, h, List.foldl_append]
  rfl
theorem fts_sub {n : Nat} {l : List Ed} (S : List Nat) : ∀ acc, (∀ f ∈ S.foldl (ftsF n l) acc, f ∈ acc ∨ f ∈ S) ∧ (S.foldl (ftsF n l) acc).length ≤ acc.length + S.length := by
  induction S with
  | nil => intro acc; exact ⟨fun f hf => .inl hf, Nat.le_refl _⟩
  | cons c S ih =>
    intro acc
    obtain ⟨h1, h2⟩ := ih (ftsF n l acc c)
    constructor
    · intro f hf
      rcases h1 f hf with h | h
      · unfold ftsF at h
        split at h
        · rw [List.mem_append, List.mem_singleton] at h
          rcases h with h | rfl
          · exact .inl h
          · exact .inr (List.mem_cons_self ..)
        · exact .inl h
      · exact .inr (List.mem_cons_of_mem _ h)
    · rw [List.foldl_cons]
      have h3 : (ftsF n l acc c).length ≤ acc.length + 1 := by
        unfold ftsF
        split
        · rw [List.length_append]; exact Nat.le_refl _
        · omega
      rw [List.length_cons]; omega
theorem fts_mem {n : Nat} {l : List Ed} {S : List Nat} {f : Nat} (h : f ∈ ftsT n l S) : f ∈ S := by
  rcases (fts_sub S []).1 f h with h | h
  · cases h
  · exact h
theorem fts_len (n : Nat) (l : List Ed) (S : List Nat) : (ftsT n l S).length ≤ S.length := by
  have h := (fts_sub (n := n) (l := l) S []).2
  show (S.foldl (ftsF n l) []).length ≤ _
  simpa using h
theorem fts_yes {n : Nat} {l : List Ed} {acc : List Nat} {c : Nat} (h1 : frtB n l c = true) (h2 : (acc.any fun f => subB f c) = false) : ftsF n l acc c = acc ++ [c] := by
  unfold ftsF; rw [h1, h2]; rfl
theorem fts_no {n : Nat} {l : List Ed} {acc : List Nat} {c : Nat} (h : frtB n l c = false ∨ (acc.any fun f => subB f c) = true) : ftsF n l acc c = acc := by
  unfold ftsF
  rcases h with h | h
  · rw [h]; rfl
  · rw [h, Bool.not_true, Bool.and_false]; rfl
theorem sub_walk {n f c : Nat} (hn : n ≤ 8) (hf : f < 2 ^ n) (hc : c < 2 ^ n) : (bits .andNot .u64 (f : Int) (c : Int) == 0) = subB f c := by
  have hp := pow_le hn
  have hcn : numOf (bitB c) n = c := by
    apply Nat.eq_of_testBit_eq
    intro i
    rw [numOf_bit]
    unfold bitB
    by_cases hi : i < n
    · simp [hi]
    · rw [decide_eq_false hi, Bool.false_and, Nat.testBit_lt_two_pow (Nat.lt_of_lt_of_le hc (Nat.pow_le_pow_right (by decide) (by omega)))]
  have h2 := andNot_num f (bitB c) n (by omega) hn (fun z => f.testBit z && !c.testBit z) (fun z _ => by
    unfold bitB
    by_cases hz : z < n
    · simp [hz]
    · have : f.testBit z = false := Nat.testBit_lt_two_pow (Nat.lt_of_lt_of_le hf (Nat.pow_le_pow_right (by decide) (by omega)))
      simp [this])
  rw [hcn] at h2
  rw [h2, Bool.eq_iff_iff, beq_iff_eq, subB_iff, show ((numOf (fun z => f.testBit z && !c.testBit z) n : Nat) : Int) = 0 ↔ numOf (fun z => f.testBit z && !c.testBit z) n = 0 from by omega, numOf_zero]
  constructor
  · intro h z hz
    have hzn : z < n := by
      by_cases e : z < n
      · exact e
      · rw [Nat.testBit_lt_two_pow (Nat.lt_of_lt_of_le hf (Nat.pow_le_pow_right (by decide) (by omega)))] at hz; cases hz
    have := h z hzn
    rw [hz] at this
    simpa using this
  · intro h z _
    cases hz : f.testBit z with
    | false => rfl
    | true => rw [h z hz]; rfl
/-- the least forts as lists -/
def ftsL (s : Int) (l : List Ed) : List (List Int) := (ftsT s.toNat l (setsN s.toNat s.toNat)).map ndN
end Go.Proofs.Ytdhbaegkogklgaa.forc

/- Forts: the contracts of the program's isFort and IsFort. -/
namespace Go.Proofs.Ytdhbaegkogklgaa.forc
open Go.RowKit P2 words edges ints good adjs fns sets rets covs bags bitsI ups func
set_option linter.unusedVariables false

def FrtP (s : Int) (l : List Ed) (xs : List Int) : Prop := SetOk s l xs ∧ frtB s.toNat l (codeL xs) = true
theorem frtP_is {n : Nat} {l : List Ed} {xs : List Int} (h : SetOk (n : Int) l xs) : okG (FrtP (n : Int) l xs) = frtB n l (codeL xs) := by
  rw [Bool.eq_iff_iff, okG_iff]
  unfold FrtP
  rw [Int.toNat_natCast]
  exact ⟨fun h => h.2, fun h2 => ⟨h, h2⟩⟩
end Go.Proofs.Ytdhbaegkogklgaa.forc

/- The least forts, in order: the contract of the program's FortsOf. -/
namespace Go.Proofs.Ytdhbaegkogklgaa.forc
open Go.RowKit P2 words edges ints good adjs fns sets rets covs bags bitsI ups func grid gridr
set_option linter.unusedVariables false

theorem containsFuncU_any (u : Value) (xs : List Nat) (f : FuncId) (caps : Array Value) (p : Nat → Bool) (w : World) (hu : Nums w u xs) (hxl : xs.length ≤ 1048576) (h : FnU w f caps xs p) :
    Calls Try.prog 43 #[u, .func (.func f) #[] caps] w fun e w' => e = .returned (.bool (xs.any p)) ∧ Below w.heap.size w w' := by
  have HI := Lib.hid (indexFuncU_any u xs f caps p w hu hxl h)
  have HD := Lib.hid (idxF_any p xs)
  obtain ⟨A2, c2, rfl, -⟩ := hu.form
  clear hu h
  go_enter Try.func43, Try.ntmps43
  go_wp2_with fail
  refine HI.out.mono ?_
  rintro e w1 ⟨rfl, b1⟩
  go_wp2_with fail
  go_ret
  exact ⟨ret_bool HD.out, b1⟩
end Go.Proofs.Ytdhbaegkogklgaa.forc
