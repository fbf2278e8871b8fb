/- What the model's l3Worst, l3After and l3Best tell of a table of times. -/
import Derived.Test.YtjcnngnahijceaaTime
import Derived.Test.YtjcnngnahijceaaCov
namespace Go.Proofs.Ytjcnngnahijceaa.times
open P2 adjs fns covs
set_option linter.unusedVariables false

theorem if_cong {α : Type} {p q : Prop} [Decidable p] [Decidable q] {a b : α} (h : p ↔ q) : (if p then a else b) = if q then a else b := by
  by_cases hp : p
  · rw [if_pos hp, if_pos (h.1 hp)]
  · rw [if_neg hp, if_neg (fun hq => hp (h.2 hq))]
/-- the greatest value, 0 if there is none; -1 if one is less than 0 -/
def mostL (f : Int → Int) (bl : List Int) : Int := bl.foldl (fun m b => max m (f b)) 0
theorem mostL_succ {f : Int → Int} {bl : List Int} {k : Nat} {b : Int} (h : bl[k]? = some b) : mostL f (bl.take (k + 1)) = max (mostL f (bl.take k)) (f b) := by
  unfold mostL; rw [List.take_add_one, h, List.foldl_append]; rfl
theorem most_fold {f : Int → Int} {j : Int} : ∀ (bl : List Int) (m : Int), bl.foldl (fun m b => max m (f b)) m ≤ j ↔ m ≤ j ∧ ∀ b ∈ bl, f b ≤ j
  | [], m => by simp
  | a :: bl, m => by
    rw [List.foldl_cons, most_fold bl, List.forall_mem_cons]
    constructor
    · rintro ⟨h1, h2⟩; exact ⟨by omega, by omega, h2⟩
    · rintro ⟨h1, h2, h3⟩; exact ⟨by omega, h3⟩
theorem most_le {f : Int → Int} {j : Int} {bl : List Int} : mostL f bl ≤ j ↔ 0 ≤ j ∧ ∀ b ∈ bl, f b ≤ j := most_fold bl 0
theorem most_nonneg (f : Int → Int) (bl : List Int) : 0 ≤ mostL f bl := by
  have := (most_le (f := f) (bl := bl) (j := mostL f bl)).1 (by omega)
  exact this.1
def worstL (f : Int → Int) (bl : List Int) : Int := if bl.any (fun b => decide (f b < 0)) = true then -1 else mostL f bl
theorem worst_no {f : Int → Int} {bl : List Int} {k : Nat} {b : Int} (h : bl[k]? = some b) (hb : f b < 0) : worstL f bl = -1 := by
  unfold worstL; rw [if_pos (List.any_eq_true.2 ⟨b, List.mem_of_getElem? h, by simpa using hb⟩)]
theorem worst_yes {f : Int → Int} {bl : List Int} (h : ∀ j b, j < bl.length → bl[j]? = some b → 0 ≤ f b) : worstL f bl = mostL f bl := by
  unfold worstL
  rw [if_neg]
  intro hh
  obtain ⟨b, hb, hd⟩ := List.any_eq_true.1 hh
  obtain ⟨j, hj⟩ := List.getElem?_of_mem hb
  have := h j b (List.getElem?_eq_some_iff.1 hj).1 hj
  have := of_decide_eq_true hd
  omega
theorem worst_iff {f : Int → Int} {bl : List Int} : 0 ≤ worstL f bl ↔ ∀ b ∈ bl, 0 ≤ f b := by
  unfold worstL
  split
  · rename_i h
    obtain ⟨b, hb, hd⟩ := List.any_eq_true.1 h
    have := of_decide_eq_true hd
    exact ⟨fun h => by omega, fun h => by have := h b hb; omega⟩
  · rename_i h
    refine ⟨fun _ b hb => ?_, fun _ => most_nonneg f bl⟩
    apply Classical.byContradiction
    intro hn
    exact h (List.any_eq_true.2 ⟨b, hb, by simp; omega⟩)
theorem worst_le {f : Int → Int} {bl : List Int} {j : Int} (h : 0 ≤ worstL f bl) : worstL f bl ≤ j ↔ 0 ≤ j ∧ ∀ b ∈ bl, f b ≤ j := by
  have : worstL f bl = mostL f bl := worst_yes fun i b _ hb => worst_iff.1 h b (List.mem_of_getElem? hb)
  rw [this]
  exact most_le
theorem worst_neg {f : Int → Int} {bl : List Int} (h : ¬ 0 ≤ worstL f bl) : worstL f bl = -1 := by
  unfold worstL at *
  split
  · rfl
  · rename_i h2; rw [if_neg h2] at h; exact absurd (most_nonneg f bl) h

def stepB (b t : Int) : Int := if 0 ≤ t ∧ (b < 0 ∨ t < b) then t else b
def bestL (f : Int → Int) (bl : List Int) : Int := bl.foldl (fun b x => stepB b (f x)) (-1)
theorem bestL_succ {f : Int → Int} {bl : List Int} {k : Nat} {b : Int} (h : bl[k]? = some b) : bestL f (bl.take (k + 1)) = stepB (bestL f (bl.take k)) (f b) := by
  unfold bestL; rw [List.take_add_one, h, List.foldl_append]; rfl
theorem best_fold {f : Int → Int} {t : Int} (ht : 0 ≤ t) : ∀ (bl : List Int) (b : Int), (∀ x ∈ bl, f x = -1 ∨ f x = t) → (b = -1 ∨ b = t) →
    bl.foldl (fun b x => stepB b (f x)) b = if b = t ∨ ∃ x ∈ bl, 0 ≤ f x then t else -1
  | [], b, _, hb => by
    rcases hb with rfl | rfl
    · rw [if_neg (by simp; omega)]; rfl
    · rw [if_pos (.inl rfl)]; rfl
  | a :: bl, b, h, hb => by
    have ha := h a List.mem_cons_self
    have hs : stepB b (f a) = -1 ∨ stepB b (f a) = t := by unfold stepB; split <;> omega
    rw [List.foldl_cons, best_fold ht bl _ (fun x hx => h x (List.mem_cons_of_mem _ hx)) hs]
    have he : stepB b (f a) = t ↔ b = t ∨ 0 ≤ f a := by unfold stepB; split <;> omega
    refine if_cong ?_
    rw [he]
    constructor
    · rintro ((h | h) | ⟨x, hx, h⟩)
      · exact .inl h
      · exact .inr ⟨a, List.mem_cons_self, h⟩
      · exact .inr ⟨x, List.mem_cons_of_mem _ hx, h⟩
    · rintro (h8 | ⟨x, hx, h9⟩)
      · exact .inl (.inl h8)
      · rcases List.mem_cons.1 hx with e | hx
        · subst e; exact .inl (.inr h9)
        · exact .inr ⟨x, hx, h9⟩
theorem best_same {f : Int → Int} {t : Int} {bl : List Int} (ht : 0 ≤ t) (h : ∀ x ∈ bl, f x = -1 ∨ f x = t) : bestL f bl = if ∃ x ∈ bl, 0 ≤ f x then t else -1 := by
  unfold bestL
  rw [best_fold ht bl (-1) h (.inl rfl)]
  exact if_cong ⟨fun hh => hh.resolve_left (by omega), .inr⟩
theorem best_ge {f : Int → Int} : ∀ (bl : List Int) (b : Int), -1 ≤ b → -1 ≤ bl.foldl (fun b x => stepB b (f x)) b
  | [], b, h => h
  | a :: bl, b, h => best_ge bl _ (by show -1 ≤ stepB b (f a); unfold stepB; split <;> omega)

/-- the game of one cop -/
def one (l : List Ed) (n : Nat) : Game := ⟨n, n, ballB l, fun p r => p == r, ballB l⟩
def afterV (T : Nat → Nat → Int) (bl : Nat → List Int) (q r : Nat) : Int := if q = r then 0 else worstL (fun x => T q x.toNat) (bl r)
def ballL (l : List Ed) (n x : Nat) : List Int := nw (ballB l x) n
theorem after_iff {l : List Ed} {n t q r : Nat} : 0 ≤ afterV (tmTo (one l n) t) (ballL l n) q r ↔ lostOf (one l n) (win (one l n) t) q r = true := by
  rw [lost_iff]
  unfold afterV
  by_cases h : q = r
  · rw [if_pos h]
    exact ⟨fun _ => .inl (by show (q == r) = true; simpa using h), fun _ => by omega⟩
  · rw [if_neg h, worst_iff]
    constructor
    · intro hb
      right
      intro x hx hxb
      exact tm_iff.1 (by have := hb (x : Int) (mem_nw.2 ⟨x, hx, hxb, rfl⟩); simpa using this)
    · rintro (hh | hh)
      · exact absurd (by simpa [one] using hh) h
      · intro b hb
        obtain ⟨x, hx, hxb, rfl⟩ := mem_nw.1 hb
        simpa using tm_iff.2 (hh x hx hxb)
theorem after_le {l : List Ed} {n t q r : Nat} : afterV (tmTo (one l n) t) (ballL l n) q r ≤ t := by
  unfold afterV
  split
  · omega
  · by_cases h : 0 ≤ worstL (fun x => tmTo (one l n) t q x.toNat) (ballL l n r)
    · rw [worst_le h]
      exact ⟨by omega, fun b _ => (tm_small t q b.toNat).2⟩
    · rw [worst_neg h]; omega
theorem after_eq {l : List Ed} {n t c q r : Nat} (hq : q < n) (hm : ballB l c q = true) (hw : win (one l n) t c r = false) (h : 0 ≤ afterV (tmTo (one l n) t) (ballL l n) q r) : afterV (tmTo (one l n) t) (ballL l n) q r = t := by
  have hle := after_le (l := l) (n := n) (t := t) (q := q) (r := r)
  apply Classical.byContradiction
  intro hne
  obtain ⟨j, rfl⟩ : ∃ j, t = j + 1 := ⟨t - 1, by omega⟩
  have hlt : afterV (tmTo (one l n) (j + 1)) (ballL l n) q r ≤ j := by omega
  have hl : lostOf (one l n) (win (one l n) j) q r = true := by
    rw [lost_iff]
    unfold afterV at h hlt
    by_cases e : q = r
    · left; show (q == r) = true; simpa using e
    · right
      rw [if_neg e] at h hlt
      have h2 := (worst_le h).1 hlt
      have h3 := worst_iff.1 h
      intro x hx hxb
      have hm2 : (x : Int) ∈ ballL l n r := mem_nw.2 ⟨x, hx, hxb, rfl⟩
      have h4 := h2.2 _ hm2
      have h5 := h3 _ hm2
      simp only [Int.toNat_natCast] at h4 h5
      exact (tm_in (tm_iff.1 h5)).2.2 j (by omega) (by omega)
  have := win_succ.2 (.inr ⟨q, hq, hm, hl⟩)
  rw [hw] at this; cases this
def bestV (l : List Ed) (n t c r : Nat) : Int := bestL (fun q => afterV (tmTo (one l n) t) (ballL l n) q.toNat r) (ballL l n c)
/-- where there is no time yet, the next round's -/
theorem best_next {l : List Ed} {n t c r : Nat} (hw : win (one l n) t c r = false) : bestV l n t c r = if win (one l n) (t + 1) c r = true then (t : Int) else -1 := by
  unfold bestV
  rw [best_same (t := (t : Int)) (by omega) ?_]
  · refine if_cong ?_
    rw [win_succ]
    constructor
    · rintro ⟨x, hx, h⟩
      obtain ⟨q, hq, hqb, rfl⟩ := mem_nw.1 hx
      exact .inr ⟨q, hq, hqb, after_iff.1 (by simpa using h)⟩
    · rintro (h | ⟨q, hq, hm, hl⟩)
      · rw [hw] at h; cases h
      · exact ⟨(q : Int), mem_nw.2 ⟨q, hq, hm, rfl⟩, by simpa using after_iff.2 hl⟩
  · intro x hx
    obtain ⟨q, hq, hqb, rfl⟩ := mem_nw.1 hx
    simp only [Int.toNat_natCast]
    by_cases h : 0 ≤ afterV (tmTo (one l n) t) (ballL l n) q r
    · exact .inr (after_eq hq hqb hw h)
    · left
      unfold afterV at *
      split
      · rename_i e; rw [if_pos e] at h; omega
      · rename_i e; rw [if_neg e] at h; exact worst_neg h
theorem next_yes {l : List Ed} {n t c r : Nat} (h1 : tmTo (one l n) t c r < 0) (h2 : 0 ≤ bestV l n t c r) : tmTo (one l n) (t + 1) c r = bestV l n t c r + 1 ∧ win (one l n) t c r = false ∧ win (one l n) (t + 1) c r = true := by
  have hw := tm_lt.1 h1
  have hb := best_next hw
  have hw1 : win (one l n) (t + 1) c r = true := by
    apply Classical.byContradiction
    intro hn
    rw [hb, if_neg hn] at h2; omega
  rw [hb, if_pos hw1, tm_new hw hw1]
  exact ⟨by omega, hw, hw1⟩
theorem next_no {l : List Ed} {n t c r : Nat} (h : ¬ (tmTo (one l n) t c r < 0 ∧ 0 ≤ bestV l n t c r)) : tmTo (one l n) (t + 1) c r = tmTo (one l n) t c r ∧ (win (one l n) (t + 1) c r = true → win (one l n) t c r = true) := by
  by_cases h1 : tmTo (one l n) t c r < 0
  · have hw := tm_lt.1 h1
    have hb := best_next hw
    have hw1 : win (one l n) (t + 1) c r = false := by
      cases hx : win (one l n) (t + 1) c r with
      | false => rfl
      | true => rw [if_pos hx] at hb; exact absurd ⟨h1, by omega⟩ h
    rw [tm_neg hw1, tm_neg hw]
    exact ⟨rfl, fun hh => by rw [hw1] at hh; cases hh⟩
  · have hw : win (one l n) t c r = true := tm_iff.1 (by omega)
    exact ⟨tm_old hw, fun _ => hw⟩
end Go.Proofs.Ytjcnngnahijceaa.times
