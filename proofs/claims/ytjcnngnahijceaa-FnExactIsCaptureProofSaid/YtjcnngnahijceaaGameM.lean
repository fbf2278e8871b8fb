/- The program's search for the times of a game: plain mathematics. -/
import Derived.Test.YtjcnngnahijceaaTime
import Derived.Test.YtjcnngnahijceaaBagM
namespace Go.Proofs.Ytjcnngnahijceaa.times
open Go.RowKit P2 words fns sets covs bags
set_option linter.unusedVariables false

def prevW (G : Game) : Nat → Nat → Nat → Bool
  | 0 => fun _ _ => false
  | t + 1 => win G t
def headT (G : Game) : Nat → Nat → Nat → Int
  | 0 => fun _ _ => -1
  | t + 1 => tmTo G t
/-- a row and a table of a function -/
def rowG (n : Nat) (f : Nat → Int) : List Int := (List.range n).map f
def gridG (P n : Nat) (T : Nat → Nat → Int) : List (List Int) := (List.range P).map fun p => rowG n (T p)
theorem rowG_len (n : Nat) (f : Nat → Int) : (rowG n f).length = n := by simp [rowG]
theorem rowG_at {n k : Nat} {f : Nat → Int} (h : k < n) : (rowG n f)[k]? = some (f k) := by simp [rowG, h]
theorem rowG_congr {n : Nat} {f g : Nat → Int} (h : ∀ x, x < n → f x = g x) : rowG n f = rowG n g := List.map_congr_left fun x hx => h x (List.mem_range.1 hx)
theorem gridG_len (P n : Nat) (T : Nat → Nat → Int) : (gridG P n T).length = P := by simp [gridG]
theorem gridG_at {P n k : Nat} {T : Nat → Nat → Int} (h : k < P) : (gridG P n T)[k]? = some (rowG n (T k)) := by simp [gridG, h]
theorem gridG_congr {P n : Nat} {T U : Nat → Nat → Int} (h : ∀ p r, p < P → r < n → T p r = U p r) : gridG P n T = gridG P n U := List.map_congr_left fun p hp => rowG_congr fun r hr => h p r (List.mem_range.1 hp) hr
theorem rowG_set {n x : Nat} {f : Nat → Int} (hx : x < n) (v : Int) : (rowG n f).set x v = rowG n fun y => if y = x then v else f y := by
  apply List.ext_getElem?
  intro i
  rw [List.getElem?_set, rowG_len]
  by_cases e : x = i
  · subst e
    rw [if_pos rfl, if_pos hx, rowG_at hx, if_pos rfl]
  · rw [if_neg e]
    by_cases hi : i < n
    · rw [rowG_at hi, rowG_at hi, if_neg (fun h => e h.symm)]
    · rw [List.getElem?_eq_none (by rw [rowG_len]; omega), List.getElem?_eq_none (by rw [rowG_len]; omega)]
theorem gridG_set {P n k : Nat} {T : Nat → Nat → Int} (hk : k < P) (f : Nat → Int) : (gridG P n T).set k (rowG n f) = gridG P n fun p => if p = k then f else T p := by
  apply List.ext_getElem?
  intro i
  rw [List.getElem?_set, gridG_len]
  by_cases e : k = i
  · subst e
    rw [if_pos rfl, if_pos hk, gridG_at hk, if_pos rfl]
  · rw [if_neg e]
    by_cases hi : i < P
    · rw [gridG_at hi, gridG_at hi, if_neg (fun h => e h.symm)]
    · rw [List.getElem?_eq_none (by rw [gridG_len]; omega), List.getElem?_eq_none (by rw [gridG_len]; omega)]
/-- the sets of a table of tests, as numbers -/
def codesL (P n : Nat) (W : Nat → Nat → Bool) : List Nat := (List.range P).map fun p => numOf (W p) n
theorem codesL_len (P n : Nat) (W : Nat → Nat → Bool) : (codesL P n W).length = P := by simp [codesL]
theorem codesL_at {P n k : Nat} {W : Nat → Nat → Bool} (h : k < P) : (codesL P n W)[k]? = some (numOf (W k) n) := by simp [codesL, h]
theorem codesL_congr {P n : Nat} {W V : Nat → Nat → Bool} (h : ∀ p r, p < P → r < n → W p r = V p r) : codesL P n W = codesL P n V := List.map_congr_left fun p hp => num_ext fun r hr => h p r (List.mem_range.1 hp) hr
theorem codesL_inj {P n : Nat} {W V : Nat → Nat → Bool} (h : codesL P n W = codesL P n V) : ∀ p r, p < P → r < n → W p r = V p r := fun p r hp hr => by
  have h1 := codesL_at (n := n) (W := W) hp
  rw [h, codesL_at hp] at h1
  have h2 : numOf (V p) n = numOf (W p) n := by simpa using h1
  exact (num_inj h2 r hr).symm
theorem codesL_set {P n k : Nat} {W : Nat → Nat → Bool} (hk : k < P) (q : Nat → Bool) : (codesL P n W).set k (numOf q n) = codesL P n fun p => if p = k then q else W p := by
  apply List.ext_getElem?
  intro i
  rw [List.getElem?_set, codesL_len]
  by_cases e : k = i
  · subst e
    rw [if_pos rfl, if_pos hk, codesL_at hk, if_pos rfl]
  · rw [if_neg e]
    by_cases hi : i < P
    · rw [codesL_at hi, codesL_at hi, if_neg (fun h => e h.symm)]
    · rw [List.getElem?_eq_none (by rw [codesL_len]; omega), List.getElem?_eq_none (by rw [codesL_len]; omega)]

section
variable {G : Game}
/-- what is new in a round -/
def fresh (G : Game) (t p r : Nat) : Bool := win G t p r && !prevW G t p r
theorem prev_win {t p r : Nat} (h : prevW G t p r = true) : win G t p r = true := by
  cases t with
  | zero => cases h
  | succ t => exact win_mono h
theorem mark_is (t p r : Nat) : (if fresh G t p r = true then (t : Int) else headT G t p r) = tmTo G t p r := by
  unfold fresh
  cases hw : win G t p r with
  | false =>
    have hp : prevW G t p r = false := by
      cases hh : prevW G t p r with
      | false => rfl
      | true => rw [prev_win hh] at hw; cases hw
    rw [hp, Bool.false_and, if_neg (by simp), tm_neg hw]
    cases t with
    | zero => rfl
    | succ t => exact tm_neg hp
  | true =>
    cases t with
    | zero =>
      rw [show prevW G 0 p r = false from rfl]
      simp only [Bool.not_false, Bool.and_true, if_true]
      show (0 : Int) = if G.tk p r = true then 0 else -1
      rw [if_pos (show G.tk p r = true from hw)]
    | succ t =>
      show (if (true && !win G t p r) = true then _ else tmTo G t p r) = _
      cases hp : win G t p r with
      | false => simp only [Bool.not_false, Bool.and_true, if_true]; exact (tm_new hp hw).symm
      | true => simp only [Bool.not_true, Bool.and_false, Bool.false_eq_true, if_false]; exact (tm_old hp).symm
/-- the end: nothing is new -/
theorem stop_is {t : Nat} (hb : ∀ r, r < G.n → G.ball r r = true) (h : ∀ p r, p < G.P → r < G.n → win G t p r = prevW G t p r) : Stable G t ∧ ∀ p r, p < G.P → r < G.n → headT G t p r = tms G p r := by
  cases t with
  | zero =>
    have h0 : ∀ p r, p < G.P → r < G.n → win G 0 p r = false := h
    have hs : Stable G 0 := fun p r hp hr hw => by
      rcases win_succ.1 hw with h1 | ⟨q, hq, hm, hl⟩
      · exact h1
      · rcases lost_iff.1 hl with h2 | h2
        · have := h0 q r hq hr
          rw [show win G 0 q r = G.tk q r from rfl, h2] at this
          cases this
        · have := h2 r hr (hb r hr)
          rw [h0 q r hq hr] at this; cases this
    exact ⟨hs, fun p r hp hr => by rw [tms_eq hs hp hr]; exact (tm_neg (h0 p r hp hr)).symm⟩
  | succ t =>
    have hs : Stable G t := fun p r hp hr hw => by
      have := h p r hp hr
      rw [hw] at this
      exact this.symm
    exact ⟨hs.next, fun p r hp hr => (tms_eq hs hp hr).symm⟩
/-- how many situations were won before -/
def cntP (G : Game) : Nat → Nat
  | 0 => 0
  | t + 1 => cnt G t
theorem cntP_le (G : Game) (t : Nat) : cntP G t ≤ G.P * G.n := by
  cases t with
  | zero => exact Nat.zero_le _
  | succ t => exact cnt_le G t
theorem cntP_grow {t : Nat} (h : ¬ ∀ p r, p < G.P → r < G.n → win G t p r = prevW G t p r) : cntP G t < cntP G (t + 1) := by
  cases t with
  | zero =>
    obtain ⟨p, r, hp, hr, hw⟩ : ∃ p r, p < G.P ∧ r < G.n ∧ win G 0 p r = true := by
      apply Classical.byContradiction
      intro hn
      refine h fun p r hp hr => ?_
      cases hw : win G 0 p r with
      | false => rfl
      | true => exact absurd ⟨p, r, hp, hr, hw⟩ hn
    show 0 < cnt G 0
    exact List.countP_pos_iff.2 ⟨(p, r), mem_sits.2 ⟨hp, hr⟩, hw⟩
  | succ t =>
    refine cnt_grow fun hs => h fun p r hp hr => ?_
    show win G (t + 1) p r = win G t p r
    cases hw : win G t p r with
    | true => exact win_mono hw
    | false =>
      cases h1 : win G (t + 1) p r with
      | false => rfl
      | true => rw [hs p r hp hr h1] at hw; cases hw
/-- the round of the cops: the first k places are done, and i moves of the next one -/
def moreW (G : Game) (W : Nat → Nat → Bool) (mvs : List Int) (i p r : Nat) : Bool := W p r || (mvs.take i).any fun q => lostOf G W q.toNat r
theorem moreW_zero (G : Game) (W : Nat → Nat → Bool) (mvs : List Int) (p : Nat) : moreW G W mvs 0 p = W p := by funext r; simp [moreW]
theorem moreW_succ {W : Nat → Nat → Bool} {mvs : List Int} {i p : Nat} {q : Int} (h : mvs[i]? = some q) (n : Nat) : numOf (moreW G W mvs i p) n ||| numOf (lostOf G W q.toNat) n = numOf (moreW G W mvs (i + 1) p) n := by
  apply Nat.eq_of_testBit_eq
  intro z
  rw [Nat.testBit_or, numOf_bit, numOf_bit, numOf_bit]
  unfold moreW
  rw [List.take_add_one, h, List.any_append]
  by_cases hz : z < n
  · simp [hz, Bool.or_assoc]
  · simp [hz]
/-- the places to which a list leads are the moves of a game -/
def MovesOf (G : Game) (ml : List (List Int)) : Prop := ml.length = G.P ∧ ∀ (p : Nat) mvs, ml[p]? = some mvs → (∀ q ∈ mvs, 0 ≤ q ∧ q < (G.P : Int)) ∧ ∀ q : Nat, q < G.P → (G.mv p q = true ↔ (q : Int) ∈ mvs)
theorem more_all {t p r : Nat} {ml : List (List Int)} {mvs : List Int} (h : MovesOf G ml) (hm : ml[p]? = some mvs) : moreW G (win G t) mvs mvs.length p r = win G (t + 1) p r := by
  obtain ⟨h1, h2⟩ := h.2 p mvs hm
  unfold moreW
  rw [List.take_length, Bool.eq_iff_iff, Bool.or_eq_true, win_succ, List.any_eq_true]
  refine or_congr Iff.rfl ⟨?_, ?_⟩
  · rintro ⟨q, hq, hl⟩
    have := h1 q hq
    refine ⟨q.toNat, by omega, (h2 _ (by omega)).2 (by rw [show ((q.toNat : Nat) : Int) = q from by omega]; exact hq), hl⟩
  · rintro ⟨q, hq, hmv, hl⟩
    exact ⟨(q : Int), (h2 q hq).1 hmv, hl⟩
end
end Go.Proofs.Ytjcnngnahijceaa.times
