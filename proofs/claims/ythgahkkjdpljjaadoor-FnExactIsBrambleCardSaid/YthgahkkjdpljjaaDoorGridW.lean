/- Slices of slices of integers: what a function returns that may fail; a row stored, rows made. -/
import Derived.Test.YthgahkkjdpljjaaDoorGrid
import Derived.Test.YthgahkkjdpljjaaDoorRet
namespace Go.Proofs.YthgahkkjdpljjaaDoor.grid
open Go.RowKit P2 words edges ints owns rets
set_option linter.unusedVariables false

noncomputable def gdG (p : Prop) (rows : List (List Int)) : List (List Int) := if okG p = true then rows else []
theorem gdG_yes {p : Prop} (h : p) (l : List (List Int)) : gdG p l = l := by unfold gdG; rw [okG_yes h]; rfl
theorem gdG_no {p : Prop} (h : ¬ p) (l : List (List Int)) : gdG p l = [] := by unfold gdG; rw [okG_no h]; rfl
/-- rows and true where p holds, or none and false -/
def RetGr (w : World) (p : Prop) (rows : List (List Int)) (e : Ending) (w' : World) : Prop :=
  ∃ A c us, e = .returned (.tuple #[.slice A (gdG p rows).length c, .bool (okG p)]) ∧ OwnG w' w.heap.size (.slice A (gdG p rows).length c) us (gdG p rows) ∧ Below w.heap.size w w'
theorem RetGr.yes {w w' : World} {p : Prop} {rows : List (List Int)} {A : Option Addr} {c : Nat} {us : List Value} (hp : p) (ho : OwnG w' w.heap.size (.slice A rows.length c) us rows) (hb : Below w.heap.size w w') :
    RetGr w p rows (.returned (.tuple #[.slice A rows.length c, .bool true])) w' := by
  refine ⟨A, c, us, ?_, ?_, hb⟩
  · rw [gdG_yes hp, okG_yes hp]
  · rw [gdG_yes hp]; exact ho
theorem RetGr.no {w w' : World} {p : Prop} {rows : List (List Int)} {A : Option Addr} {c : Nat} (hp : ¬ p) (ho : w'.ownsRow w.heap.size 38 1 (.slice A 0 c) 0 []) (hb : Below w.heap.size w w') :
    RetGr w p rows (.returned (.tuple #[.slice A 0 c, .bool false])) w' := by
  refine ⟨A, c, [], ?_, ?_, hb⟩
  · rw [gdG_no hp, okG_no hp]; rfl
  · rw [gdG_no hp]
    exact ⟨ho, fun i u r hu => by simp at hu, fun i j u u' k _ hu => by simp at hu⟩
theorem RetGr.nil {w w' : World} {p : Prop} {rows : List (List Int)} (hp : ¬ p) (hb : Below w.heap.size w w') : RetGr w p rows (.returned (.tuple #[.slice none 0 0, .bool false])) w' :=
  RetGr.no hp (World.ownsRow_nil _ _ _ _) hb
theorem RetGr.congr {w w' : World} {p q : Prop} {rows rows' : List (List Int)} {e : Ending} (h : RetGr w p rows e w') (hp : p ↔ q) (hr : p → rows = rows') : RetGr w q rows' e w' := by
  have hpq : p = q := propext hp
  subst hpq
  by_cases h1 : p
  · rw [← hr h1]; exact h
  · obtain ⟨A, c, us, h2, h3, h4⟩ := h
    rw [gdG_no h1] at h2 h3
    exact ⟨A, c, us, by rw [gdG_no h1]; exact h2, by rw [gdG_no h1]; exact h3, h4⟩
section
variable {w w' : World} {B : Nat} {us : List Value} {rows : List (List Int)}
/-- a row stored into its place -/
theorem OwnG.store {g c k : Nat} {u : Value} {r : List Int} (h : OwnG w B (.slice (some ⟨g, 0, none⟩) rows.length c) us rows) (hk : k < rows.length) (hu : w.ownsRow B 3 1 u r.length (cellsI r))
    (hne : ∀ i x b, i ≠ k → us[i]? = some x → x.ownBlock = some b → u.ownBlock ≠ some b) : OwnG (w.setCell ⟨g, k, none⟩ u) B (.slice (some ⟨g, 0, none⟩) rows.length c) (us.set k u) (rows.set k r) := by
  have hl := h.len
  have hgr := gset (World.grownBy.refl w (some g)) k u
  have keep : ∀ {x : Value} {q : List Int}, w.ownsRow B 3 1 x q.length (cellsI q) → (w.setCell ⟨g, k, none⟩ u).ownsRow B 3 1 x q.length (cellsI q) := fun {x q} ho => by
    refine ho.kept hgr ?_
    cases hx : x.ownBlock with
    | none => exact .inl rfl
    | some b => exact .inr fun e => own_apart ho h.1 tneI b hx (by simp [Value.ownBlock]; cases e; rfl)
  refine ⟨?_, ?_, ?_⟩
  · rw [List.length_set]
    have := (h.1.stored k u).1
    simpa using this
  · intro i x q hx hq
    by_cases e : i = k
    · subst e
      rw [List.getElem?_set_self (by omega)] at hx
      rw [List.getElem?_set_self hk] at hq
      cases hx; cases hq
      exact keep hu
    · rw [List.getElem?_set_ne (fun hh => e hh.symm)] at hx hq
      exact keep (h.2.1 i x q hx hq)
  · intro i j x x' b hij hx hx' hb
    by_cases e : i = k
    · subst e
      rw [List.getElem?_set_self (by omega)] at hx
      cases hx
      rw [List.getElem?_set_ne (by omega)] at hx'
      intro hb'
      exact hne j x' b (by omega) hx' hb' hb
    · rw [List.getElem?_set_ne (fun hh => e hh.symm)] at hx
      by_cases e2 : j = k
      · subst e2
        rw [List.getElem?_set_self (by omega)] at hx'
        cases hx'
        exact hne i x b e hx hb
      · rw [List.getElem?_set_ne (fun hh => e2 hh.symm)] at hx'
        exact h.2.2 i j x x' b hij hx hx' hb
/-- a row made since is apart from all others -/
theorem OwnG.fresh {w0 : World} {v u : Value} {r : List Int} (h : OwnG w0 B v us rows) (hu : w.ownsRow w0.heap.size 3 1 u r.length (cellsI r)) : ∀ (i : Nat) x b, us[i]? = some x → x.ownBlock = some b → u.ownBlock ≠ some b := fun i x b hx hb hb' => by
  obtain ⟨q, hq⟩ : ∃ q, rows[i]? = some q := ⟨_, List.getElem?_eq_getElem (by have := (List.getElem?_eq_some_iff.1 hx).1; have := h.len; omega)⟩
  have h1 := ((h.2.1 i x q hx hq).lt b hb).2
  have h2 := (hu.lt b hb').1
  omega
/-- rows without numbers, just made -/
theorem OwnG.made (w : World) (n : Nat) (hn : n ≤ maxLen) : OwnG (w.alloc (.cells (madeCells #[.slice none 0 0] (n * 1)) 38)) w.heap.size (.slice (some ⟨w.heap.size, 0, none⟩) n n) (List.replicate n (.slice none 0 0)) (List.replicate n []) := by
  have hm : (madeCells #[Value.slice none 0 0] (n * 1)).toList = List.replicate n (.slice none 0 0) := by rw [toList_madeCells_one]; simp
  refine ⟨?_, ?_, ?_⟩
  · have hown := World.ownsRow_lit (base := w.heap.size) (e := 38) (size := 1) w (madeCells #[Value.slice none 0 0] (n * 1)) n (Nat.le_refl _) hn (size_madeCells _ _)
    rw [hm] at hown
    rw [List.length_replicate]
    exact hown
  · intro i x q hx hq
    have h1 : x = .slice none 0 0 := (List.mem_replicate.1 (List.mem_of_getElem? hx)).2
    have h2 : q = [] := (List.mem_replicate.1 (List.mem_of_getElem? hq)).2
    subst h1; subst h2
    exact World.ownsRow_nil _ _ _ _
  · intro i j x x' b hij hx hx' hb
    have h1 : x = .slice none 0 0 := (List.mem_replicate.1 (List.mem_of_getElem? hx)).2
    subst h1
    simp [Value.ownBlock] at hb
end
end Go.Proofs.YthgahkkjdpljjaaDoor.grid
