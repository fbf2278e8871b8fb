/- A slice of slices of integers that reads as rows. -/
import Derived.Test.YthgahkkjdpljjaaDoorWords
namespace Go.Proofs.YthgahkkjdpljjaaDoor.gridr
open Go.RowKit P2 words
set_option linter.unusedVariables false

/-- a slice of slices that reads as rows -/
def ReadsG (w : World) (v : Value) (us : List Value) (rows : List (List Int)) : Prop :=
  Reads w 1 v rows.length us ∧ us.length = rows.length ∧ ∀ (i : Nat) u r, us[i]? = some u → rows[i]? = some r → Ints w u r
theorem ReadsG.below {w w' : World} {v : Value} {us : List Value} {rows : List (List Int)} (h : ReadsG w v us rows) (hb : Below w.heap.size w w') : ReadsG w' v us rows :=
  ⟨h.1.below hb, h.2.1, fun i u r hu hr => (h.2.2 i u r hu hr).below hb⟩
theorem ReadsG.row {w : World} {A : Option Addr} {n c : Nat} {us : List Value} {rows : List (List Int)} (h : ReadsG w (.slice A n c) us rows) {i : Nat} {r : List Int} (hr : rows[i]? = some r) :
    ∃ u g o, us[i]? = some u ∧ A = some ⟨g, o, none⟩ ∧ w.cell? ⟨g, o + i, none⟩ = some u ∧ Ints w u r := by
  have hi := (List.getElem?_eq_some_iff.1 hr).1
  obtain ⟨u, hu⟩ : ∃ u, us[i]? = some u := ⟨_, List.getElem?_eq_getElem (by rw [h.2.1]; exact hi)⟩
  obtain ⟨A', c', e, hx⟩ := h.1
  cases e
  obtain ⟨g, o, rfl, _, hj⟩ := hx (by omega)
  exact ⟨u, g, o, hu, rfl, hj i u hu, h.2.2 i u r hu hr⟩

end Go.Proofs.YthgahkkjdpljjaaDoor.gridr
