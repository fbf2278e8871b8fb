/- The times of a game of cops and a robber, round by round. It imports nothing of the program. -/
namespace Go.Proofs.Ytjcnngnahijceaa.times
set_option linter.unusedVariables false

/-- places of the cops, nodes of the robber; to which nodes the robber can move, which nodes a place takes, to which places cops can move -/
structure Game where
  P : Nat
  n : Nat
  ball : Nat → Nat → Bool
  tk : Nat → Nat → Bool
  mv : Nat → Nat → Bool

def lostOf (G : Game) (W : Nat → Nat → Bool) (q r : Nat) : Bool := G.tk q r || (List.range G.n).all fun x => !G.ball r x || W q x
def win (G : Game) : Nat → Nat → Nat → Bool
  | 0 => G.tk
  | t + 1 => fun p r => win G t p r || (List.range G.P).any fun q => G.mv p q && lostOf G (win G t) q r
def tmTo (G : Game) : Nat → Nat → Nat → Int
  | 0 => fun p r => if G.tk p r = true then 0 else -1
  | t + 1 => fun p r => if win G t p r = true then tmTo G t p r else if win G (t + 1) p r = true then ((t + 1 : Nat) : Int) else -1

variable {G : Game}
theorem lost_iff {W : Nat → Nat → Bool} {q r : Nat} : lostOf G W q r = true ↔ G.tk q r = true ∨ ∀ x, x < G.n → G.ball r x = true → W q x = true := by
  unfold lostOf
  rw [Bool.or_eq_true, List.all_eq_true]
  refine or_congr Iff.rfl ⟨fun h x hx hb => ?_, fun h x hx => ?_⟩
  · have := h x (List.mem_range.2 hx)
    rw [hb] at this
    simpa using this
  · cases hb : G.ball r x with
    | false => rfl
    | true => rw [h x (List.mem_range.1 hx) hb]; rfl
theorem win_succ {t p r : Nat} : win G (t + 1) p r = true ↔ win G t p r = true ∨ ∃ q, q < G.P ∧ G.mv p q = true ∧ lostOf G (win G t) q r = true := by
  show (_ || _) = true ↔ _
  rw [Bool.or_eq_true, List.any_eq_true]
  refine or_congr Iff.rfl ⟨?_, ?_⟩
  · rintro ⟨q, hq, h⟩
    rw [Bool.and_eq_true] at h
    exact ⟨q, List.mem_range.1 hq, h⟩
  · rintro ⟨q, hq, h⟩
    exact ⟨q, List.mem_range.2 hq, by rw [Bool.and_eq_true]; exact h⟩
theorem win_mono {t p r : Nat} (h : win G t p r = true) : win G (t + 1) p r = true := win_succ.2 (.inl h)
theorem win_add {t p r : Nat} (h : win G t p r = true) : ∀ j, win G (t + j) p r = true
  | 0 => h
  | j + 1 => win_mono (win_add h j)
theorem lost_mono {W V : Nat → Nat → Bool} {q r : Nat} (hW : ∀ x, x < G.n → W q x = true → V q x = true) (h : lostOf G W q r = true) : lostOf G V q r = true := by
  rw [lost_iff] at *
  exact h.imp id fun h x hx hb => hW x hx (h x hx hb)

theorem tm_neg : ∀ {t p r : Nat}, win G t p r = false → tmTo G t p r = -1
  | 0, p, r, h => by show (if G.tk p r = true then _ else _) = _; rw [if_neg (by rw [show G.tk p r = false from h]; simp)]
  | t + 1, p, r, h => by
    have h0 : win G t p r = false := by
      cases hw : win G t p r with
      | false => rfl
      | true => rw [win_mono hw] at h; cases h
    show (if _ then _ else if _ then _ else _) = _
    rw [if_neg (by rw [h0]; simp), if_neg (by rw [h]; simp)]
theorem tm_old {t p r : Nat} (h : win G t p r = true) : tmTo G (t + 1) p r = tmTo G t p r := by
  show (if _ then _ else _) = _; rw [if_pos h]
theorem tm_new {t p r : Nat} (h : win G t p r = false) (h1 : win G (t + 1) p r = true) : tmTo G (t + 1) p r = ((t + 1 : Nat) : Int) := by
  show (if _ then _ else if _ then _ else _) = _
  rw [if_neg (by rw [h]; simp), if_pos h1]
theorem tm_in : ∀ {t p r : Nat}, win G t p r = true → 0 ≤ tmTo G t p r ∧ tmTo G t p r ≤ t ∧ ∀ j : Nat, tmTo G t p r ≤ j → j ≤ t → win G j p r = true
  | 0, p, r, h => by
    have e : tmTo G 0 p r = 0 := by show (if G.tk p r = true then _ else _) = _; rw [if_pos (show G.tk p r = true from h)]
    rw [e]
    exact ⟨by omega, by omega, fun j _ hj => by rw [show j = 0 from by omega]; exact h⟩
  | t + 1, p, r, h => by
    cases hw : win G t p r with
    | true =>
      have ih := tm_in hw
      rw [tm_old hw]
      refine ⟨ih.1, by omega, fun j h1 h2 => ?_⟩
      by_cases e : j = t + 1
      · subst e; exact h
      · exact ih.2.2 j h1 (by omega)
    | false =>
      rw [tm_new hw h]
      exact ⟨by omega, by omega, fun j h1 h2 => by rw [show j = t + 1 from by omega]; exact h⟩
theorem tm_iff {t p r : Nat} : 0 ≤ tmTo G t p r ↔ win G t p r = true := by
  constructor
  · intro h
    cases hw : win G t p r with
    | true => rfl
    | false => rw [tm_neg hw] at h; omega
  · exact fun h => (tm_in h).1
theorem tm_lt {t p r : Nat} : tmTo G t p r < 0 ↔ win G t p r = false := by
  constructor
  · intro h
    cases hw : win G t p r with
    | false => rfl
    | true => have := (tm_in hw).1; omega
  · exact fun h => by rw [tm_neg h]; omega
theorem tm_small (t p r : Nat) : -1 ≤ tmTo G t p r ∧ tmTo G t p r ≤ t := by
  cases hw : win G t p r with
  | true => have := tm_in hw; exact ⟨by omega, this.2.1⟩
  | false => rw [tm_neg hw]; omega

def Stable (G : Game) (t : Nat) : Prop := ∀ p r, p < G.P → r < G.n → win G (t + 1) p r = true → win G t p r = true
theorem Stable.next {t : Nat} (h : Stable G t) : Stable G (t + 1) := fun p r hp hr hw => by
  rcases win_succ.1 hw with h1 | ⟨q, hq, hm, hl⟩
  · exact h1
  · exact win_succ.2 (.inr ⟨q, hq, hm, lost_mono (fun x hx => h q x hq hx) hl⟩)
theorem Stable.tm {t p r : Nat} (h : Stable G t) (hp : p < G.P) (hr : r < G.n) : tmTo G (t + 1) p r = tmTo G t p r := by
  cases hw : win G t p r with
  | true => exact tm_old hw
  | false =>
    rw [tm_neg hw]
    refine tm_neg ?_
    cases h1 : win G (t + 1) p r with
    | false => rfl
    | true => rw [h p r hp hr h1] at hw; cases hw
theorem Stable.add {t : Nat} (h : Stable G t) : ∀ j, Stable G (t + j)
  | 0 => h
  | j + 1 => (Stable.add h j).next
theorem Stable.tm_add {t p r : Nat} (h : Stable G t) (hp : p < G.P) (hr : r < G.n) : ∀ j, tmTo G (t + j) p r = tmTo G t p r
  | 0 => rfl
  | j + 1 => ((h.add j).tm hp hr).trans (Stable.tm_add h hp hr j)
/-- the times -/
noncomputable def tms (G : Game) : Nat → Nat → Int := tmTo G (Classical.epsilon (Stable G))
theorem tms_eq {t p r : Nat} (h : Stable G t) (hp : p < G.P) (hr : r < G.n) : tms G p r = tmTo G t p r := by
  have hs : Stable G (Classical.epsilon (Stable G)) := Classical.epsilon_spec ⟨t, h⟩
  unfold tms
  generalize Classical.epsilon (Stable G) = s at hs
  rcases Nat.le_total s t with hst | hst
  · obtain ⟨j, rfl⟩ : ∃ j, t = s + j := ⟨t - s, by omega⟩
    exact (hs.tm_add hp hr j).symm
  · obtain ⟨j, rfl⟩ : ∃ j, s = t + j := ⟨s - t, by omega⟩
    exact h.tm_add hp hr j

/-- how many situations are won -/
def sits (G : Game) : List (Nat × Nat) := (List.range G.P).flatMap fun p => (List.range G.n).map fun r => (p, r)
theorem sum_same (c : Nat) : ∀ P : Nat, ((List.range P).map fun _ => c).sum = P * c
  | 0 => by simp
  | P + 1 => by rw [List.range_succ, List.map_append, List.sum_append, sum_same c P, Nat.succ_mul]; simp
theorem sits_len (G : Game) : (sits G).length = G.P * G.n := by
  unfold sits
  rw [List.length_flatMap]
  simp only [List.length_map, List.length_range]
  exact sum_same _ _
theorem mem_sits {p r : Nat} : (p, r) ∈ sits G ↔ p < G.P ∧ r < G.n := by simp [sits]
def cnt (G : Game) (t : Nat) : Nat := (sits G).countP fun s => win G t s.1 s.2
theorem cnt_le (G : Game) (t : Nat) : cnt G t ≤ G.P * G.n := by rw [← sits_len]; exact List.countP_le_length
theorem countP_lt {α : Type} {p q : α → Bool} : ∀ {l : List α}, (∀ x ∈ l, p x = true → q x = true) → (∃ x ∈ l, q x = true ∧ p x = false) → l.countP p < l.countP q
  | [], _, ⟨x, hx, _⟩ => by simp at hx
  | a :: l, h, ⟨x, hx, hq, hp⟩ => by
    have hle : ∀ {l : List α}, (∀ x ∈ l, p x = true → q x = true) → l.countP p ≤ l.countP q := fun {l} h => by
      induction l with
      | nil => simp
      | cons a l ih =>
        have h1 := ih fun x hx => h x (List.mem_cons_of_mem _ hx)
        have h2 := h a List.mem_cons_self
        rw [List.countP_cons, List.countP_cons]
        cases hpa : p a with
        | false => simp; omega
        | true => rw [h2 hpa]; simp; omega
    have h1 := @hle l fun x hx => h x (List.mem_cons_of_mem _ hx)
    rw [List.countP_cons, List.countP_cons]
    rcases List.mem_cons.1 hx with rfl | hx
    · rw [hq, hp]; simp; omega
    · have h2 := countP_lt (fun x hx => h x (List.mem_cons_of_mem _ hx)) ⟨x, hx, hq, hp⟩
      have h3 := h a List.mem_cons_self
      cases hpa : p a with
      | false => simp; omega
      | true => rw [h3 hpa]; simp; omega
theorem cnt_grow {t : Nat} (h : ¬ Stable G t) : cnt G t < cnt G (t + 1) := by
  refine countP_lt (fun x _ hx => win_mono hx) ?_
  apply Classical.byContradiction
  intro hn
  refine h fun p r hp hr h1 => ?_
  cases hw : win G t p r with
  | true => rfl
  | false => exact absurd ⟨(p, r), mem_sits.2 ⟨hp, hr⟩, h1, hw⟩ hn

/-- what is left to a robber that moves as it should, by a table: -1 where it can leave it with that -/
def worst (G : Game) (T : Nat → Int) (r : Nat) : Int := (List.range G.n).foldl (fun m x => if G.ball r x = true then (if m < 0 ∨ T x < 0 then -1 else max m (T x)) else m) 0
end Go.Proofs.Ytjcnngnahijceaa.times
