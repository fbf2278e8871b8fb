/- The contracts of the model's l4Less, l1Same and l4At. -/
import Derived.Handy
import Derived.Test.YtfphpilabfpmjaaListI
import Derived.Test.YtfphpilabfpmjaaMovM
import Derived.Test.YtfphpilabfpmjaaTrip
namespace Go.Proofs.Ytfphpilabfpmjaa.lists
open Go.RowKit P2 words edges ints good adjs fns sets rets apps gridr grid trip
set_option linter.unusedVariables false

def lexB : List Nat → List Nat → Bool
  | x :: a, y :: b => if x = y then lexB a b else decide (x < y)
  | _, _ => false
theorem lexB_iff : ∀ {a b : List Nat}, lexB a b = true ↔ lexN a b
  | [], b => by simp [lexB, lexN]
  | x :: a, [] => by simp [lexB, lexN]
  | x :: a, y :: b => by
    show (if x = y then lexB a b else decide (x < y)) = true ↔ x < y ∨ x = y ∧ lexN a b
    by_cases e : x = y
    · rw [if_pos e, lexB_iff]
      exact ⟨fun h => .inr ⟨e, h⟩, fun h => h.elim (fun h => by omega) fun h => h.2⟩
    · rw [if_neg e, decide_eq_true_iff]
      exact ⟨.inl, fun h => h.elim id fun h => absurd h.1 e⟩
theorem drop_at {L : List Nat} {i x : Nat} (h : L[i]? = some x) : L.drop i = x :: L.drop (i + 1) := by
  obtain ⟨h1, h2⟩ := List.getElem?_eq_some_iff.1 h
  rw [List.drop_eq_getElem_cons h1, h2]
theorem lexB_same {a b : List Nat} {i x : Nat} (ha : a[i]? = some x) (hb : b[i]? = some x) : lexB (a.drop i) (b.drop i) = lexB (a.drop (i + 1)) (b.drop (i + 1)) := by
  rw [drop_at ha, drop_at hb]; show (if x = x then _ else _) = _; rw [if_pos rfl]
theorem lexB_diff {a b : List Nat} {i x y : Nat} (ha : a[i]? = some x) (hb : b[i]? = some y) (h : x ≠ y) : lexB (a.drop i) (b.drop i) = decide (x < y) := by
  rw [drop_at ha, drop_at hb]; show (if x = y then _ else _) = _; rw [if_neg h]
theorem lexB_end {a b : List Nat} : lexB (a.drop a.length) b = false := by
  rw [List.drop_length]; rfl
end Go.Proofs.Ytfphpilabfpmjaa.lists
