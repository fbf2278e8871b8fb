/- Plain mathematics: a sealed text with one byte changed is no sealed text. -/
import Derived.Test.YtgbnpdgehknfpaaDoorVerify
namespace Go.Proofs.YtgbnpdgehknfpaaDoor.flip
open Go P1 P2 seals cuts verify

def stepB (h : Int) (c : UInt8) : Int := (41 * h + (c.toNat : Int) + 1) % 999979
theorem sumB_fold (l : List UInt8) : sumB l = l.foldl stepB 7 := rfl
theorem step_bd (h : Int) (c : UInt8) : 0 ≤ stepB h c ∧ stepB h c < 999979 := by unfold stepB; omega
theorem step_inj {a b : Int} {c : UInt8} (ha : 0 ≤ a ∧ a < 999979) (hb : 0 ≤ b ∧ b < 999979) (h : stepB a c = stepB b c) : a = b := by unfold stepB at h; omega
theorem step_ne {a : Int} {c d : UInt8} (h : stepB a c = stepB a d) : c = d := by
  have h1 := c.toNat_lt
  have h2 := d.toNat_lt
  unfold stepB at h
  exact UInt8.toNat_inj.1 (by omega)
theorem fold_inj (l : List UInt8) : ∀ {a b : Int}, (0 ≤ a ∧ a < 999979) → (0 ≤ b ∧ b < 999979) → l.foldl stepB a = l.foldl stepB b → a = b := by
  induction l with
  | nil => intro a b _ _ h; exact h
  | cons c l ih =>
    intro a b ha hb h
    rw [List.foldl_cons, List.foldl_cons] at h
    exact step_inj ha hb (ih (step_bd a c) (step_bd b c) h)
/-- changing one byte changes the sum -/
theorem sum_changed (p q : List UInt8) (c d : UInt8) (h : sumB (p ++ c :: q) = sumB (p ++ d :: q)) : c = d := by
  rw [sumB_fold, sumB_fold, List.foldl_append, List.foldl_append, List.foldl_cons, List.foldl_cons] at h
  exact step_ne (fold_inj q (step_bd _ c) (step_bd _ d) h)

theorem itoa_digit {v : Int} (h : 0 ≤ v) : (35 : UInt8) ∉ Lib.itoa v := by
  obtain ⟨u, rfl⟩ : ∃ u : Nat, v = (u : Int) := ⟨v.toNat, by omega⟩
  rw [Lib.itoa_nonneg]
  intro hm
  have := (decDigits_digit u 35 hm).1
  simp at this
theorem itoa_eq {a b : Int} (ha : 0 ≤ a ∧ a ≤ 999978) (hb : 0 ≤ b ∧ b ≤ 999978) (h : Lib.itoa a = Lib.itoa b) : a = b :=
  Spells.eq (l := Lib.itoa a) ⟨by omega, by omega, rfl⟩ ⟨by omega, by omega, h.symm⟩

/-- where the mark stands in a sealed text -/
structure Marked (y : List UInt8) (n : Nat) : Prop where
  before : ∀ j, j < n → y[j]? ≠ some 35
  there : y[n]? = some 35
  behind : ∀ j, n < j → y[j]? ≠ some 35
theorem seal_marked (l : List UInt8) (h : 35 ∉ l) : Marked (sealB l) l.length := by
  refine ⟨fun j hj e => ?_, ?_, fun j hj e => ?_⟩
  · unfold sealB at e
    rw [List.append_assoc, List.getElem?_append_left hj] at e
    exact h (List.mem_of_getElem? e)
  · unfold sealB
    rw [List.append_assoc, List.getElem?_append_right (Nat.le_refl _), Nat.sub_self]; rfl
  · unfold sealB at e
    rw [List.getElem?_append_right (by simp; omega)] at e
    exact itoa_digit (sumB_bd l).1 (List.mem_of_getElem? e)

theorem seal_take (l : List UInt8) : (sealB l).take l.length = l := by
  unfold sealB; rw [List.append_assoc, List.take_left]
theorem seal_drop (l : List UInt8) : (sealB l).drop (l.length + 1) = Lib.itoa (sumB l) := by
  unfold sealB
  have : l.length + 1 = (l ++ [(35 : UInt8)]).length := by simp
  rw [this, List.drop_left]

theorem flip_not (l h : List UInt8) (k : Nat) (c : UInt8) (hl : 35 ∉ l) (hh : 35 ∉ h) (hk : k < (sealB l).length) (hc : (sealB l)[k]? ≠ some c) : sealB h ≠ (sealB l).set k c := by
  intro e
  have F := seal_marked l hl
  have G := seal_marked h hh
  rw [e] at G
  have other : ∀ j, j ≠ k → ((sealB l).set k c)[j]? = (sealB l)[j]? := fun j hj => List.getElem?_set_ne (fun e => hj e.symm)
  have here : ((sealB l).set k c)[k]? = some c := by rw [List.getElem?_set_self hk]
  have hmn : h.length = l.length := by
    rcases Nat.lt_trichotomy h.length l.length with hlt | he | hgt
    · exfalso
      have hmk : h.length = k := by
        refine Decidable.byContradiction fun hne => ?_
        have := G.there
        rw [other _ hne] at this
        exact F.before _ hlt this
      have := F.there
      rw [← other l.length (by omega)] at this
      exact G.behind _ hlt this
    · exact he
    · exfalso
      have hnk : l.length = k := by
        refine Decidable.byContradiction fun hne => ?_
        have := F.there
        rw [← other _ hne] at this
        exact G.before _ hgt this
      have := G.there
      rw [other h.length (by omega)] at this
      exact F.behind _ hgt this
  have hnk : l.length ≠ k := by
    intro hnk
    have h1 := G.there
    rw [hmn, hnk, here] at h1
    have h2 := F.there
    rw [hnk] at h2
    exact hc (by rw [h2, ← h1])
  rcases Nat.lt_or_gt_of_ne hnk with hlt | hgt
  · have e1 : h = l := by
      rw [← seal_take h, ← seal_take l, hmn, e, List.take_set_of_le (by omega)]
    rw [e1] at e
    have := here
    rw [← e] at this
    exact hc this
  · have e1 : h = l.set k c := by
      have a := seal_take h
      rw [hmn, e, List.take_set, seal_take] at a
      exact a.symm
    have e2 : Lib.itoa (sumB h) = Lib.itoa (sumB l) := by
      rw [← seal_drop h, ← seal_drop l, hmn, e, List.drop_set_of_lt (by omega)]
    have e3 := itoa_eq (sumB_bd h) (sumB_bd l) e2
    obtain ⟨d, hd⟩ : ∃ d, l[k]? = some d := ⟨_, List.getElem?_eq_getElem hgt⟩
    have sl : l = l.take k ++ d :: l.drop (k + 1) := by
      rw [List.getElem?_eq_getElem hgt] at hd
      cases hd
      rw [← List.drop_eq_getElem_cons hgt, List.take_append_drop]
    have sh : h = l.take k ++ c :: l.drop (k + 1) := by rw [e1, List.set_eq_take_append_cons_drop, if_pos hgt]
    rw [sh] at e3
    have : c = d := sum_changed (l.take k) (l.drop (k + 1)) c d (by rw [e3]; exact congrArg sumB sl)
    have hs : (sealB l)[k]? = some d := by
      unfold sealB
      rw [List.append_assoc, List.getElem?_append_left hgt, hd]
    exact hc (by rw [hs, this])
end Go.Proofs.YtgbnpdgehknfpaaDoor.flip
