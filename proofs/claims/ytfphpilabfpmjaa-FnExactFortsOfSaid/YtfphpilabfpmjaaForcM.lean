/- Forcing: which nodes are coloured round by round: mathematics. -/
import Derived.Test.YtfphpilabfpmjaaUpsB
import Derived.Test.YtfphpilabfpmjaaSprM
namespace Go.Proofs.Ytfphpilabfpmjaa.forc
open Go.RowKit P2 words edges ints good adjs fns sets rets covs bags bitsI ups
set_option linter.unusedVariables false

/-- a part of a set that has as many elements is the set -/
theorem sub_more {a b : Nat} (ha : a < 256) (hb : b < 256) (hs : ∀ k, a.testBit k = true → b.testBit k = true) (hne : a ≠ b) : onesN a < onesN b := by
  have hex : ∃ k, a.testBit k = false ∧ b.testBit k = true := by
    refine Classical.byContradiction fun hno => hne (Nat.eq_of_testBit_eq fun k => ?_)
    cases h1 : a.testBit k with
    | true => exact (hs k h1).symm
    | false =>
      cases h2 : b.testBit k with
      | false => rfl
      | true => exact absurd ⟨k, h1, h2⟩ hno
  obtain ⟨k, h1, h2⟩ := hex
  have hk : k < 8 := by
    by_cases e : k < 8
    · exact e
    · rw [Nat.testBit_lt_two_pow (Nat.lt_of_lt_of_le hb (by have h9 := Nat.pow_le_pow_right (show 0 < 2 by decide) (show 8 ≤ k by omega); simpa using h9))] at h2; cases h2
  have h3 := ones_put ha hk h1
  have h4 : onesN (a ||| 2 ^ k) ≤ onesN b := ones_mono fun j _ hj => by
    unfold bitB at hj ⊢
    rw [put_bit, Bool.or_eq_true, decide_eq_true_iff] at hj
    rcases hj with hj | rfl
    · exact hs j hj
    · exact h2
  omega
theorem num_ltN (p : Nat → Bool) (n : Nat) : numOf p n < 2 ^ n := Nat.lt_pow_two_of_testBit _ fun i hi => by rw [numOf_bit, decide_eq_false (by omega), Bool.false_and]
/-- the neighbors of a node that are not coloured -/
def lefB (l : List Ed) (c x z : Nat) : Bool := adj l (x : Int) (z : Int) && !c.testBit z
def lefN (n : Nat) (l : List Ed) (c x : Nat) : Nat := numOf (lefB l c x) n
def frcT (n : Nat) (l : List Ed) (sk : Bool) (c x : Nat) : Bool := (onesN (lefN n l c x) == 1) && (sk || c.testBit x)
def frcN (n : Nat) (l : List Ed) (sk : Bool) (c x : Nat) : Nat := if frcT n l sk c x = true then lefN n l c x else 0
theorem frc_yes {n : Nat} {l : List Ed} {sk : Bool} {c x : Nat} (h : frcT n l sk c x = true) : frcN n l sk c x = lefN n l c x := by unfold frcN; rw [if_pos h]
theorem frc_no {n : Nat} {l : List Ed} {sk : Bool} {c x : Nat} (h : frcT n l sk c x = false) : frcN n l sk c x = 0 := by unfold frcN; rw [if_neg (by simp [h])]
theorem lef_lt (n : Nat) (l : List Ed) (c x : Nat) : lefN n l c x < 2 ^ n := num_ltN _ _
theorem frc_lt (n : Nat) (l : List Ed) (sk : Bool) (c x : Nat) : frcN n l sk c x < 2 ^ n := by
  unfold frcN
  split
  · exact lef_lt n l c x
  · exact Nat.pow_pos (by decide)
/-- behind the first k nodes of a round -/
def onK (n : Nat) (l : List Ed) (sk : Bool) (c : Nat) : Nat → Nat
  | 0 => c
  | k + 1 => onK n l sk c k ||| frcN n l sk c k
/-- behind a round -/
def onN (n : Nat) (l : List Ed) (sk : Bool) (c : Nat) : Nat := onK n l sk c n
theorem onK_lt {n : Nat} {l : List Ed} {sk : Bool} {c : Nat} (hc : c < 2 ^ n) : ∀ k, onK n l sk c k < 2 ^ n
  | 0 => hc
  | k + 1 => Nat.or_lt_two_pow (onK_lt hc k) (frc_lt n l sk c k)
theorem onK_sub {n : Nat} {l : List Ed} {sk : Bool} {c j : Nat} (h : c.testBit j = true) : ∀ k, (onK n l sk c k).testBit j = true
  | 0 => h
  | k + 1 => by rw [onK, Nat.testBit_or, onK_sub h k]; rfl
theorem on_lt {n : Nat} {l : List Ed} {sk : Bool} {c : Nat} (hc : c < 2 ^ n) : onN n l sk c < 2 ^ n := onK_lt hc n
theorem on_more {n : Nat} {l : List Ed} {sk : Bool} {c : Nat} (hn : n ≤ 8) (hc : c < 2 ^ n) (h : onN n l sk c ≠ c) : onesN c < onesN (onN n l sk c) :=
  sub_more (Nat.lt_of_lt_of_le hc (pow_le hn)) (Nat.lt_of_lt_of_le (on_lt hc) (pow_le hn)) (fun k hk => onK_sub hk n) (Ne.symm h)
theorem on_same {n : Nat} {l : List Ed} {sk : Bool} {c : Nat} (hn : n ≤ 8) (hc : c < 2 ^ n) : onesN (onN n l sk c) = onesN c ↔ onN n l sk c = c :=
  ⟨fun h => Classical.byContradiction fun hne => by have := on_more hn hc hne; omega, fun h => by rw [h]⟩
/-- ahead of all rounds and behind each one that colours more -/
def rndL (n : Nat) (l : List Ed) (sk : Bool) : Nat → Nat → List Nat
  | 0, c => [c]
  | f + 1, c => if onN n l sk c = c then [c] else c :: rndL n l sk f (onN n l sk c)
/-- when no round colours more -/
def lastF (n : Nat) (l : List Ed) (sk : Bool) : Nat → Nat → Nat
  | 0, c => c
  | f + 1, c => if onN n l sk c = c then c else lastF n l sk f (onN n l sk c)
def rnds (n : Nat) (l : List Ed) (sk : Bool) (c : Nat) : List Nat := rndL n l sk 8 c
def lastN (n : Nat) (l : List Ed) (sk : Bool) (c : Nat) : Nat := lastF n l sk 8 c
theorem rnd_len (n : Nat) (l : List Ed) (sk : Bool) : ∀ f c, 1 ≤ (rndL n l sk f c).length ∧ (rndL n l sk f c).length ≤ f + 1
  | 0, c => ⟨Nat.le_refl _, Nat.le_refl _⟩
  | f + 1, c => by
    unfold rndL
    split
    · simp
    · have := rnd_len n l sk f (onN n l sk c)
      rw [List.length_cons]; omega
theorem rnd_last (n : Nat) (l : List Ed) (sk : Bool) : ∀ f c, (rndL n l sk f c)[(rndL n l sk f c).length - 1]? = some (lastF n l sk f c)
  | 0, c => rfl
  | f + 1, c => by
    unfold rndL lastF
    split
    · rfl
    · have h := rnd_last n l sk f (onN n l sk c)
      have h1 := (rnd_len n l sk f (onN n l sk c)).1
      rw [List.length_cons, Nat.add_sub_cancel]
      obtain ⟨m, hm⟩ : ∃ m, (rndL n l sk f (onN n l sk c)).length = m + 1 := ⟨(rndL n l sk f (onN n l sk c)).length - 1, by omega⟩
      rw [hm] at h ⊢
      simpa using h
theorem last_lt {n : Nat} {l : List Ed} {sk : Bool} : ∀ f {c : Nat}, c < 2 ^ n → lastF n l sk f c < 2 ^ n
  | 0, c, h => h
  | f + 1, c, h => by
    unfold lastF
    split
    · exact h
    · exact last_lt f (on_lt h)
theorem rnd_mem {n : Nat} {l : List Ed} {sk : Bool} : ∀ f {c : Nat}, c < 2 ^ n → ∀ d ∈ rndL n l sk f c, d < 2 ^ n
  | 0, c, h, d, hd => by simp [rndL] at hd; rw [hd]; exact h
  | f + 1, c, h, d, hd => by
    unfold rndL at hd
    split at hd
    · simp at hd; rw [hd]; exact h
    · rcases List.mem_cons.1 hd with e | hd
      · rw [e]; exact h
      · exact rnd_mem f (on_lt h) d hd
theorem last_ltN {n : Nat} {l : List Ed} {sk : Bool} {c : Nat} (hc : c < 2 ^ n) : lastN n l sk c < 2 ^ n := last_lt 8 hc
/-- what a loop over the rounds keeps -/
theorem rnd_stop {n : Nat} {l : List Ed} {sk : Bool} {f c : Nat} (h : onN n l sk c = c) : rndL n l sk f c = [c] ∧ lastF n l sk f c = c := by
  cases f with
  | zero => exact ⟨rfl, rfl⟩
  | succ f => unfold rndL lastF; rw [if_pos h, if_pos h]; exact ⟨rfl, rfl⟩
theorem rnd_go {n : Nat} {l : List Ed} {sk : Bool} {f c : Nat} (h : onN n l sk c ≠ c) : rndL n l sk (f + 1) c = c :: rndL n l sk f (onN n l sk c) ∧ lastF n l sk (f + 1) c = lastF n l sk f (onN n l sk c) := by
  constructor
  · rw [rndL, if_neg h]
  · rw [lastF, if_neg h]
/-- a fuel that lasts -/
theorem rnd_fuel {n : Nat} {l : List Ed} {sk : Bool} {f c : Nat} (hn : n ≤ 8) (hc : c < 2 ^ n) (hf : 8 ≤ onesN c + f) (h : onN n l sk c ≠ c) : ∃ g, f = g + 1 ∧ 8 ≤ onesN (onN n l sk c) + g := by
  have h1 := on_more hn hc h
  have h2 := ones_le (onN n l sk c)
  exact ⟨f - 1, by omega, by omega⟩
theorem full_on {n : Nat} {l : List Ed} {sk : Bool} : onN n l sk (2 ^ n - 1) = 2 ^ n - 1 := by
  apply Nat.eq_of_testBit_eq
  intro k
  have h1 : (2 ^ n - 1) < 2 ^ n := by have := Nat.pow_pos (n := n) (show 0 < 2 by decide); omega
  by_cases hk : k < n
  · have h2 : (2 ^ n - 1).testBit k = true := by rw [Nat.testBit_two_pow_sub_one]; simp [hk]
    rw [h2]; exact onK_sub h2 n
  · have h2 : ∀ z, z < 2 ^ n → z.testBit k = false := fun z hz => Nat.testBit_lt_two_pow (Nat.lt_of_lt_of_le hz (Nat.pow_le_pow_right (by decide) (by omega)))
    rw [h2 _ h1, h2 _ (on_lt h1)]
theorem full_last (n : Nat) (l : List Ed) (sk : Bool) : lastN n l sk (2 ^ n - 1) = 2 ^ n - 1 := (rnd_stop full_on).2
/-- the one node that is left -/
theorem one_bit {c : Nat} (h8 : c < 256) (h : onesN c = 1) : ∃ y, y < 8 ∧ c = 2 ^ y :=
  have : ∀ c : Fin 256, onesN c.1 = 1 → ∃ y : Fin 8, c.1 = 2 ^ y.1 := by decide +kernel
  let ⟨y, hy⟩ := this ⟨c, h8⟩ h
  ⟨y.1, y.2, hy⟩
end Go.Proofs.Ytfphpilabfpmjaa.forc
