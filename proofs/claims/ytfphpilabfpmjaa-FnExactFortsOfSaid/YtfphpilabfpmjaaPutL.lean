/- The contract of the model's l4Put. -/
import Derived.Handy
import Derived.Test.YtfphpilabfpmjaaLessL
import Derived.Test.YtfphpilabfpmjaaTrip
import Derived.Deep.RegionHeld3
import Derived.StillTailTactics
namespace Go.Proofs.Ytfphpilabfpmjaa.lists
open Go.RowKit P2 words edges ints good adjs fns sets rets apps gridr grid trip
set_option linter.unusedVariables false

theorem ins_get {α : Type} {L : List α} {x : α} {k : Nat} (hk : k ≤ L.length) (i : Nat) : (L.take k ++ x :: L.drop k)[i]? = if i < k then L[i]? else if i = k then some x else L[i - 1]? := by
  have ht : (L.take k).length = k := by rw [List.length_take]; omega
  by_cases h : i < k
  · rw [if_pos h, List.getElem?_append_left (by omega), List.getElem?_take_of_lt h]
  · rw [if_neg h, List.getElem?_append_right (by omega), ht]
    by_cases e : i = k
    · subst e; simp
    · rw [if_neg e]
      obtain ⟨m, hm⟩ : ∃ m, i - k = m + 1 := ⟨i - k - 1, by omega⟩
      rw [hm, List.getElem?_cons_succ, List.getElem?_drop]
      congr 1; omega
theorem OwnG.ins {w w3 : World} {B k : Nat} {v v3 xv : Value} {us : List Value} {rows : List (List Int)} {r : List Int} (h : OwnG w B v us rows) (hk : k ≤ rows.length) (hb : Below w.heap.size w w3)
    (hx : w.ownsRow B 3 1 xv r.length (cellsI r)) (hf : ∀ (i : Nat) u b, us[i]? = some u → u.ownBlock = some b → xv.ownBlock ≠ some b)
    (h3 : w3.ownsRow B 25 1 v3 (rows.take k ++ r :: rows.drop k).length (us.take k ++ xv :: us.drop k)) : OwnG w3 B v3 (us.take k ++ xv :: us.drop k) (rows.take k ++ r :: rows.drop k) := by
  have hl := h.len
  have h5 := h.below hb
  refine ⟨h3, fun i u q hu hq => ?_, fun i j u u' b hij hu hu' hub => ?_⟩
  · rw [ins_get (by omega)] at hu
    rw [ins_get hk] at hq
    by_cases h1 : i < k
    · rw [if_pos h1] at hu hq; exact h5.2.1 i u q hu hq
    · rw [if_neg h1] at hu hq
      by_cases h2 : i = k
      · rw [if_pos h2] at hu hq
        cases hu; cases hq
        exact own_below hx hb
      · rw [if_neg h2] at hu hq; exact h5.2.1 _ u q hu hq
  · rw [ins_get (by omega)] at hu hu'
    by_cases h1 : i < k
    · rw [if_pos h1] at hu
      by_cases h2 : j < k
      · rw [if_pos h2] at hu'; exact h.2.2 i j u u' b hij hu hu' hub
      · rw [if_neg h2] at hu'
        by_cases h4 : j = k
        · rw [if_pos h4] at hu'; cases hu'; exact hf i u b hu hub
        · rw [if_neg h4] at hu'; exact h.2.2 i (j - 1) u u' b (by omega) hu hu' hub
    · rw [if_neg h1] at hu
      rw [if_neg (by omega), if_neg (by omega)] at hu'
      by_cases h4 : i = k
      · rw [if_pos h4] at hu; cases hu
        exact fun e => hf (j - 1) u' b hu' e hub
      · rw [if_neg h4] at hu; exact h.2.2 (i - 1) (j - 1) u u' b (by omega) hu hu' hub
theorem OwnG.ones {w : World} {B : Nat} {v : Value} {us : List Value} {rows : List (List Int)} (h : OwnG w B v us rows) : ∀ u ∈ us, u.oneCell' = true := fun u hu => by
  obtain ⟨i, hi⟩ := List.getElem?_of_mem hu
  obtain ⟨r, hr⟩ : ∃ r, rows[i]? = some r := ⟨_, List.getElem?_eq_getElem (by have := (List.getElem?_eq_some_iff.1 hi).1; have := h.len; omega)⟩
  obtain ⟨A, c, rfl⟩ := own_form (h.2.1 i u r hi hr)
  rfl
theorem rowsN_ins (Ls : List (List Nat)) (x : List Nat) (k : Nat) : rowsN (Ls.take k ++ x :: Ls.drop k) = (rowsN Ls).take k ++ castL x :: (rowsN Ls).drop k := by
  simp [rowsN, List.map_take, List.map_drop]
theorem rows_short {Ls : List (List Nat)} {k m : Nat} (h : ∀ L ∈ Ls, L.length = m) {y : List Nat} (hy : Ls[k]? = some y) : y.length = m := h y (List.mem_of_getElem? hy)
end Go.Proofs.Ytfphpilabfpmjaa.lists
