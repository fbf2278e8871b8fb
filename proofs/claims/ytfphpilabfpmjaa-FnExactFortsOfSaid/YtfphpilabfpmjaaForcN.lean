/- Forcing: the number of the round in which a node is coloured, and forts: mathematics. -/
import Derived.Test.YtfphpilabfpmjaaForcM
import Derived.Test.YtfphpilabfpmjaaFunc
namespace Go.Proofs.Ytfphpilabfpmjaa.forc
open Go.RowKit P2 words edges ints good adjs fns sets rets covs bags bitsI ups func
set_option linter.unusedVariables false

/-- behind k rounds -/
def orb (n : Nat) (l : List Ed) (sk : Bool) (c : Nat) : Nat → Nat
  | 0 => c
  | k + 1 => onN n l sk (orb n l sk c k)
theorem orb_lt {n : Nat} {l : List Ed} {sk : Bool} {c : Nat} (hc : c < 2 ^ n) : ∀ k, orb n l sk c k < 2 ^ n
  | 0 => hc
  | k + 1 => on_lt (orb_lt hc k)
theorem orb_from {n : Nat} {l : List Ed} {sk : Bool} (c : Nat) : ∀ k, orb n l sk (onN n l sk c) k = orb n l sk c (k + 1)
  | 0 => rfl
  | k + 1 => by show onN n l sk _ = onN n l sk _; rw [orb_from c k]
theorem orb_stop {n : Nat} {l : List Ed} {sk : Bool} {c : Nat} (h : onN n l sk c = c) : ∀ k, orb n l sk c k = c
  | 0 => rfl
  | k + 1 => by show onN n l sk _ = c; rw [orb_stop h k, h]
theorem rnd_orb {n : Nat} {l : List Ed} {sk : Bool} : ∀ (f c j : Nat), j < (rndL n l sk f c).length → (rndL n l sk f c)[j]? = some (orb n l sk c j)
  | 0, c, j, h => by
    have : j = 0 := by simp [rndL] at h; exact h
    subst this; rfl
  | f + 1, c, j, h => by
    unfold rndL at h ⊢
    split at h
    · rename_i e
      rw [if_pos e]
      have : j = 0 := by simpa using h
      subst this; rfl
    · rename_i e
      rw [if_neg e]
      cases j with
      | zero => rfl
      | succ j =>
        rw [List.getElem?_cons_succ, rnd_orb f _ j (by rw [List.length_cons] at h; omega), orb_from]
theorem rnd_len8 {n : Nat} {l : List Ed} {sk : Bool} (hn : n ≤ 8) : ∀ (f : Nat) {c : Nat}, c < 2 ^ n → (rndL n l sk f c).length + onesN c ≤ n + 1
  | 0, c, hc => by have := ones_topN hn hc; show 1 + _ ≤ _; omega
  | f + 1, c, hc => by
    unfold rndL
    split
    · have := ones_topN hn hc; rw [List.length_cons, List.length_nil]; omega
    · rename_i e
      have h1 := rnd_len8 (l := l) (sk := sk) hn f (c := onN n l sk c) (on_lt hc)
      have h2 := on_more hn hc e
      rw [List.length_cons]; omega
theorem rnd_tail {n : Nat} {l : List Ed} {sk : Bool} (hn : n ≤ 8) : ∀ (f : Nat) {c : Nat}, c < 2 ^ n → 8 ≤ onesN c + f → ∀ j, (rndL n l sk f c).length ≤ j + 1 → orb n l sk c j = lastF n l sk f c
  | 0, c, hc, hf, j, hj => by
    have h8 := ones_le (onN n l sk c)
    have : onN n l sk c = c := Classical.byContradiction fun e => by have := on_more hn hc e; omega
    exact orb_stop this j
  | f + 1, c, hc, hf, j, hj => by
    unfold rndL at hj
    unfold lastF
    split at hj
    · rename_i e
      rw [if_pos e]; exact orb_stop e j
    · rename_i e
      rw [if_neg e]
      have h2 := on_more hn hc e
      have h1 := (rnd_len n l sk f (onN n l sk c)).1
      rw [List.length_cons] at hj
      obtain ⟨i, rfl⟩ : ∃ i, j = i + 1 := ⟨j - 1, by omega⟩
      rw [← orb_from]
      exact rnd_tail hn f (on_lt hc) (by omega) i (by omega)
theorem last_orb {n : Nat} {l : List Ed} {sk : Bool} (hn : n ≤ 8) {c : Nat} (hc : c < 2 ^ n) : ∀ j, n ≤ j → orb n l sk c j = lastN n l sk c := fun j hj =>
  rnd_tail hn 8 hc (by omega) j (by have := rnd_len8 (l := l) (sk := sk) hn 8 hc; omega)
theorem last_fix {n : Nat} {l : List Ed} {sk : Bool} (hn : n ≤ 8) {c : Nat} (hc : c < 2 ^ n) : onN n l sk (lastN n l sk c) = lastN n l sk c := by
  rw [← last_orb hn hc n (Nat.le_refl _)]
  show orb n l sk c (n + 1) = _
  rw [last_orb hn hc n (Nat.le_refl _), last_orb hn hc (n + 1) (by omega)]
/-- the round in which a node is coloured, of the first r -/
def fstR (n : Nat) (l : List Ed) (c x : Nat) : Nat → Int
  | 0 => if c.testBit x = true then 0 else -1
  | r + 1 => if fstR n l c x r < 0 ∧ (orb n l false c (r + 1)).testBit x = true then ((r + 1 : Nat) : Int) else fstR n l c x r
theorem fst_is (n : Nat) (l : List Ed) (c x : Nat) : ∀ r, (fstR n l c x r = -1 ∧ ∀ j, j ≤ r → (orb n l false c j).testBit x = false) ∨ ∃ j : Nat, fstR n l c x r = (j : Int) ∧ j ≤ r ∧ (orb n l false c j).testBit x = true ∧ ∀ i, i < j → (orb n l false c i).testBit x = false
  | 0 => by
    unfold fstR
    by_cases h : c.testBit x = true
    · rw [if_pos h]; exact .inr ⟨0, rfl, Nat.le_refl _, h, fun i hi => by omega⟩
    · rw [if_neg h]
      refine .inl ⟨rfl, fun j hj => ?_⟩
      have : j = 0 := by omega
      subst this; rw [orb]; simpa using h
  | r + 1 => by
    rcases fst_is n l c x r with ⟨h1, h2⟩ | ⟨j, h1, h2, h3, h4⟩
    · unfold fstR
      by_cases h : (orb n l false c (r + 1)).testBit x = true
      · rw [if_pos ⟨by omega, h⟩]
        exact .inr ⟨r + 1, rfl, Nat.le_refl _, h, fun i hi => h2 i (by omega)⟩
      · rw [if_neg (fun hh => h hh.2)]
        refine .inl ⟨h1, fun j hj => ?_⟩
        by_cases e : j = r + 1
        · subst e; simpa using h
        · exact h2 j (by omega)
    · unfold fstR
      rw [if_neg (fun hh => by omega)]
      exact .inr ⟨j, h1, by omega, h3, h4⟩
theorem fst_idx {n : Nat} {l : List Ed} {c x : Nat} (hn : n ≤ 8) (hc : c < 2 ^ n) : idxF (fun d => Nat.testBit d x) (rnds n l false c) = fstR n l c x n := by
  have hl := rnd_len8 (l := l) (sk := false) hn 8 hc
  rcases fst_is n l c x n with ⟨h1, h2⟩ | ⟨j, h1, h2, h3, h4⟩
  · rw [h1]
    refine idxF_none fun i z hi hz => ?_
    have := rnd_orb (n := n) (l := l) (sk := false) 8 c i hi
    rw [show rndL n l false 8 c = rnds n l false c from rfl, hz] at this
    cases this
    exact h2 i (by change i < (rndL n l false 8 c).length at hi; omega)
  · rw [h1]
    have hj : j < (rnds n l false c).length := by
      refine Classical.byContradiction fun hno => ?_
      have hno' : (rndL n l false 8 c).length ≤ j := by change ¬ j < (rndL n l false 8 c).length at hno; omega
      have hl1 := (rnd_len n l false 8 c).1
      have e1 := rnd_tail hn 8 hc (by omega) j (by omega) (l := l) (sk := false)
      have e2 := rnd_tail hn 8 hc (by omega) ((rndL n l false 8 c).length - 1) (by omega) (l := l) (sk := false)
      have := h4 ((rndL n l false 8 c).length - 1) (by omega)
      rw [e2, ← e1, h3] at this; cases this
    refine idxF_at (y := orb n l false c j) (fun i z hi hz => ?_) (rnd_orb 8 c j hj) h3
    have := rnd_orb (n := n) (l := l) (sk := false) 8 c i (by change j < (rndL n l false 8 c).length at hj; omega)
    rw [show rndL n l false 8 c = rnds n l false c from rfl, hz] at this
    cases this
    exact h4 i hi
theorem fst_same {n : Nat} {l : List Ed} {c x r : Nat} (h : (orb n l false c (r + 1)).testBit x = false) : fstR n l c x (r + 1) = fstR n l c x r := by
  rw [fstR, if_neg (fun hh => by rw [h] at hh; exact absurd hh.2 (by decide))]
theorem fst_keep {n : Nat} {l : List Ed} {c x r : Nat} (h : ¬ fstR n l c x r < 0) : fstR n l c x (r + 1) = fstR n l c x r := by
  rw [fstR, if_neg (fun hh => h hh.1)]
theorem fst_new {n : Nat} {l : List Ed} {c x r : Nat} (h : fstR n l c x r < 0) (h2 : (orb n l false c (r + 1)).testBit x = true) : fstR n l c x (r + 1) = ((r + 1 : Nat) : Int) := by
  rw [fstR, if_pos ⟨h, h2⟩]
theorem fst_range (n : Nat) (l : List Ed) (c x r : Nat) : -1 ≤ fstR n l c x r ∧ fstR n l c x r ≤ (r : Int) := by
  rcases fst_is n l c x r with ⟨h1, h2⟩ | ⟨j, h1, h2, h3, h4⟩ <;> omega
def fstL (n : Nat) (l : List Ed) (c r : Nat) : List Int := (List.range n).map fun x => fstR n l c x r
theorem fstL_len (n : Nat) (l : List Ed) (c r : Nat) : (fstL n l c r).length = n := by simp [fstL]

/-- forts -/
def frtB (n : Nat) (l : List Ed) (c : Nat) : Bool := (List.range n).all (fun x => c.testBit x || !(insN l c x == 1)) && !(c == 0)
theorem frt_iff {n : Nat} {l : List Ed} {c : Nat} : frtB n l c = true ↔ (∀ x, x < n → c.testBit x = false → insN l c x ≠ 1) ∧ c ≠ 0 := by
  unfold frtB
  rw [Bool.and_eq_true, List.all_eq_true]
  constructor
  · rintro ⟨h1, h2⟩
    refine ⟨fun x hx hb => ?_, by simpa using h2⟩
    have := h1 x (List.mem_range.2 hx)
    rw [hb, Bool.false_or] at this
    simpa using this
  · rintro ⟨h1, h2⟩
    refine ⟨fun x hx => ?_, by simpa using h2⟩
    cases hb : c.testBit x with
    | true => rfl
    | false => simpa using h1 x (List.mem_range.1 hx) hb
theorem frt_stop {n : Nat} {l : List Ed} {c x : Nat} (hx : x < n) (hb : c.testBit x = false) (h : insN l c x = 1) : frtB n l c = false := by
  cases hf : frtB n l c with
  | false => rfl
  | true => exact absurd h ((frt_iff.1 hf).1 x hx hb)
theorem frt_end {n : Nat} {l : List Ed} {c : Nat} (h : ∀ x, x < n → ¬ (c.testBit x = false ∧ insN l c x = 1)) : frtB n l c = !(c == 0) := by
  cases hc : c == 0 with
  | true =>
    cases hf : frtB n l c with
    | false => rfl
    | true => exact absurd (by simpa using hc) (frt_iff.1 hf).2
  | false => exact frt_iff.2 ⟨fun x hx hb e => h x hx ⟨hb, e⟩, by simpa using hc⟩
end Go.Proofs.Ytfphpilabfpmjaa.forc
