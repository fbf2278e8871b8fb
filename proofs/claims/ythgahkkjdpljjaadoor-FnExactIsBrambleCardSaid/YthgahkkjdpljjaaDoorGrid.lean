/- Slices of slices of integers that a call owns: the rows lie in blocks of their own. -/
import Derived.Test.YthgahkkjdpljjaaDoorInts
import Derived.Test.YthgahkkjdpljjaaDoorOwn
namespace Go.Proofs.YthgahkkjdpljjaaDoor.grid
open Go.RowKit P2 words edges ints owns
set_option linter.unusedVariables false

theorem infoRow : (Tryd.prog.info? 38).map (fun i => (i.zero, i.size, i.bytes)) = some (some (.slice none 0 0), 1, 24) := by kernel_rfl
theorem tneI : (3 : TypeId) ≠ 38 := by decide
/-- rows of different types lie apart -/
theorem own_apart {w : World} {B B' : Nat} {t t' : TypeId} {size size' n n' : Nat} {v v' : Value} {xs xs' : List Value} (h : w.ownsRow B t size v n xs) (h' : w.ownsRow B' t' size' v' n' xs') (ht : t ≠ t') :
    ∀ k, v.ownBlock = some k → v'.ownBlock ≠ some k := by
  intro k hk hk'
  rcases h.2 with ⟨rfl, _⟩ | ⟨g, cap, cur, rfl, _, hg, _⟩
  · simp [Value.ownBlock] at hk
  · rcases h'.2 with ⟨rfl, _⟩ | ⟨g', cap', cur', rfl, _, hg', _⟩
    · simp [Value.ownBlock] at hk'
    · simp [Value.ownBlock] at hk hk'
      subst hk
      subst hk'
      rw [hg] at hg'
      simp at hg'
      exact ht hg'.2
/-- a slice of slices of the call's own -/
def OwnG (w : World) (B : Nat) (v : Value) (us : List Value) (rows : List (List Int)) : Prop :=
  w.ownsRow B 38 1 v rows.length us ∧ (∀ (i : Nat) u r, us[i]? = some u → rows[i]? = some r → w.ownsRow B 3 1 u r.length (cellsI r)) ∧
    (∀ (i j : Nat) u u' k, i < j → us[i]? = some u → us[j]? = some u' → u.ownBlock = some k → u'.ownBlock ≠ some k)
section
variable {w w' : World} {B : Nat} {v : Value} {us : List Value} {rows : List (List Int)}
theorem OwnG.len (h : OwnG w B v us rows) : us.length = rows.length := by have := h.1.1; omega
theorem OwnG.below (h : OwnG w B v us rows) (hb : Below w.heap.size w w') : OwnG w' B v us rows :=
  ⟨own_below h.1 hb, fun i u r hu hr => own_below (h.2.1 i u r hu hr) hb, h.2.2⟩
theorem OwnG.base (h : OwnG w B v us rows) {C : Nat} (hC : C ≤ B) : OwnG w C v us rows :=
  ⟨own_base h.1 hC, fun i u r hu hr => own_base (h.2.1 i u r hu hr) hC, h.2.2⟩
theorem OwnG.nil (w : World) (B : Nat) : OwnG w B (.slice none 0 0) [] [] :=
  ⟨World.ownsRow_nil _ _ _ _, fun i u r hu => by simp at hu, fun i j u u' k _ hu => by simp at hu⟩
theorem OwnG.row (h : OwnG w B v us rows) {i : Nat} {r : List Int} (hr : rows[i]? = some r) : ∃ u, us[i]? = some u ∧ w.ownsRow B 3 1 u r.length (cellsI r) := by
  have hi := (List.getElem?_eq_some_iff.1 hr).1
  obtain ⟨u, hu⟩ : ∃ u, us[i]? = some u := ⟨_, List.getElem?_eq_getElem (by rw [h.len]; exact hi)⟩
  exact ⟨u, hu, h.2.1 i u r hu hr⟩
/-- one row more, made since w -/
theorem OwnG.push {w5 w6 : World} {u v6 : Value} {r : List Int} {o : Obj} {m : Nat} (h : OwnG w B v us rows) (hb : Below w.heap.size w w5) (hB : B ≤ w.heap.size) (hu : w5.ownsRow w.heap.size 3 1 u r.length (cellsI r))
    (hown : w6.ownsRow B 38 1 v6 (rows.length + m) (us ++ [u])) (hm : m = 1) (hg : (w5.alloc o).grownBy w6 v.ownBlock) : OwnG w6 B v6 (us ++ [u]) (rows ++ [r]) := by
  subst hm
  have h5 := h.below hb
  have hlen := h.len
  have apart : ∀ {C : Nat} {x : Value} {q : List Int}, w5.ownsRow C 3 1 x q.length (cellsI q) → x.ownBlock = none ∨ x.ownBlock ≠ v.ownBlock := fun {C x q} ho => by
    cases hh : x.ownBlock with
    | none => exact .inl rfl
    | some k => exact .inr (fun e => own_apart ho h5.1 tneI k hh e.symm)
  refine ⟨by rw [List.length_append]; exact hown, ?_, ?_⟩
  · intro i u' r' hu' hr'
    by_cases hi : i < rows.length
    · rw [List.getElem?_append_left (by omega)] at hu'
      rw [List.getElem?_append_left hi] at hr'
      have ho := h5.2.1 i u' r' hu' hr'
      exact (ho.alloc o).kept hg (apart ho)
    · have hi' : i = rows.length := by
        have := (List.getElem?_eq_some_iff.1 hr').1
        simp at this; omega
      subst hi'
      rw [List.getElem?_append_right (by omega), hlen, Nat.sub_self] at hu'
      rw [List.getElem?_append_right (Nat.le_refl _), Nat.sub_self] at hr'
      simp at hu' hr'
      subst hu'
      subst hr'
      exact own_base ((hu.alloc o).kept hg (apart hu)) hB
  · intro i j x x' k hij hx hx' hk
    by_cases hj : j < us.length
    · rw [List.getElem?_append_left (by omega)] at hx
      rw [List.getElem?_append_left hj] at hx'
      exact h.2.2 i j x x' k hij hx hx' hk
    · have hj' : j = us.length := by
        have := (List.getElem?_eq_some_iff.1 hx').1
        simp at this; omega
      subst hj'
      rw [List.getElem?_append_left hij] at hx
      rw [List.getElem?_append_right (Nat.le_refl _), Nat.sub_self] at hx'
      simp at hx'
      subst hx'
      obtain ⟨r', hr'⟩ : ∃ r', rows[i]? = some r' := ⟨_, List.getElem?_eq_getElem (by omega)⟩
      have h1 := ((h.2.1 i x r' hx hr').lt k hk).2
      intro hk'
      have h2 := (hu.lt k hk').1
      omega
end
end Go.Proofs.YthgahkkjdpljjaaDoor.grid
