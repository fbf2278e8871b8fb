/- The contract of the program's listsFrom. -/
import Derived.Handy
import Derived.Test.YtfphpilabfpmjaaLists
import Derived.Test.YtfphpilabfpmjaaGridW
import Derived.Test.YtfphpilabfpmjaaGridL
import Derived.Test.YtfphpilabfpmjaaNearV
import Derived.Test.YtfphpilabfpmjaaSets
import Derived.Test.YtfphpilabfpmjaaApp
import Derived.Deep.DeepCutAuto
import Derived.Maps.AppendAt
namespace Go.Proofs.Ytfphpilabfpmjaa.lists
open Go.RowKit P2 words edges ints good adjs fns sets rets apps gridr grid
set_option linter.unusedVariables false

/-- the rows of a table of lists -/
def rowsN (Ls : List (List Nat)) : List (List Int) := Ls.map castL
theorem rowsN_len (Ls : List (List Nat)) : (rowsN Ls).length = Ls.length := by simp [rowsN]
theorem rowsN_app (Ls Ms : List (List Nat)) : rowsN (Ls ++ Ms) = rowsN Ls ++ rowsN Ms := by simp [rowsN]
theorem rowsN_at {Ls : List (List Nat)} {k : Nat} {L : List Nat} (h : Ls[k]? = some L) : (rowsN Ls)[k]? = some (castL L) := by simp [rowsN, h]
/-- a table of lists of the call's own -/
def RetL (w : World) (Ls : List (List Nat)) (e : Ending) (w' : World) : Prop :=
  ∃ A c us, e = .returned (.slice A (rowsN Ls).length c) ∧ OwnG w' w.heap.size (.slice A (rowsN Ls).length c) us (rowsN Ls) ∧ Below w.heap.size w w'
theorem take_succ_map {Ls : List (List Nat)} {j : Nat} {L : List Nat} (x : Nat) (h : Ls[j]? = some L) : (Ls.take (j + 1)).map (x :: ·) = (Ls.take j).map (x :: ·) ++ [x :: L] := by
  rw [List.take_add_one, h, List.map_append]; rfl
theorem grid_one (w : World) (L : List Nat) (hL : L = []) : OwnG (w.alloc (.cells #[.slice none 0 0] 25)) w.heap.size (.slice (some ⟨w.heap.size, 0, none⟩) 1 1) [.slice none 0 0] (rowsN [L]) := by
  subst hL
  refine ⟨World.ownsRow_lit (size := 1) w #[.slice none 0 0] 1 (Nat.le_refl _) (by unfold maxLen; omega) rfl, ?_, ?_⟩
  · intro i u r hu hr
    cases i with
    | zero => cases hu; cases hr; exact World.ownsRow_nil _ _ _ _
    | succ i => simp at hu
  · intro i j u u' k hij hu hu'
    cases j with
    | zero => omega
    | succ j => simp at hu'

/-- a table is kept where another one grows -/
theorem keepG {w w' : World} {B B9 n9 : Nat} {v lw : Value} {us xs9 : List Value} {rows : List (List Int)} (h : OwnG w B v us rows) (hl : w.ownsRow B9 25 1 lw n9 xs9) (hs : ∀ b, v.ownBlock = some b → lw.ownBlock ≠ some b) (hg : w.grownBy w' lw.ownBlock) : OwnG w' B v us rows := by
  refine ⟨h.1.kept hg ?_, fun i u r hu hr => (h.2.1 i u r hu hr).kept hg ?_, h.2.2⟩
  · cases hv : v.ownBlock with
    | none => exact .inl rfl
    | some b => exact .inr fun e => hs b hv e.symm
  · cases hv : u.ownBlock with
    | none => exact .inl rfl
    | some b => exact .inr fun e => own_apart (h.2.1 i u r hu hr) hl tneI b hv e.symm

end Go.Proofs.Ytfphpilabfpmjaa.lists
