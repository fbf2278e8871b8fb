/- The laws' bytes, as an argument. -/
import Derived.Test.YtgbnpdgehknfpaaDoorCursor
import Derived.Test.YtgbnpdgehknfpaaDoorPlain
namespace Go.Proofs.YtgbnpdgehknfpaaDoor.P1
open Go
/-- what is told of a slice of integers that came in: nil, or a row of numbers -/
def IsRow (k : IntKind) (w : World) (a : Option Addr) (len cap : Nat) (zs : List Int) : Prop :=
  (a = none ∧ len = 0 ∧ cap = 0 ∧ zs = []) ∨
  ∃ x, a = some x ∧ len ≤ cap ∧ cap ≤ maxLen ∧ zs.length = cap ∧ (∀ i, i < zs.length → w.cell? (x.add i) = some (.int k (zs.getD i 0))) ∧ ∀ n ∈ zs, (Lit.int k n).wf = true
end Go.Proofs.YtgbnpdgehknfpaaDoor.P1
namespace Go.Proofs.YtgbnpdgehknfpaaDoor.codes
open Go.RowKit P1 cursor

theorem code_of {w : World} {a : Option Addr} {len cap : Nat} {zs : List Int} (h : IsRow .u8 w a len cap zs) : CodeIs w w.heap.size a len := by
  rcases h with ⟨rfl, rfl, rfl, rfl⟩ | ⟨x, rfl, hl, hm, hz, hcell, hwz⟩
  · exact ⟨Nat.zero_le _, fun h => by omega⟩
  · refine ⟨by omega, fun h0 => ?_⟩
    obtain ⟨b, off, spot⟩ := x
    have hc0 := hcell 0 (by omega)
    have hspot : spot = none := by simpa [Addr.add] using World.cell?_spot hc0
    subst hspot
    have hadd : ∀ j, (⟨b, off, none⟩ : Addr).add j = ⟨b, off + j, none⟩ := fun j => by unfold Addr.add; split <;> simp_all
    rw [hadd] at hc0
    refine ⟨b, off, rfl, World.block_lt_of_cell? w (a := ⟨b, off + 0, none⟩) hc0, fun j hj => ?_⟩
    have hjl : j < zs.length := by omega
    have hc := hcell j hjl
    rw [hadd] at hc
    have hmem : zs.getD j 0 ∈ zs := by
      rw [List.getD_eq_getElem?_getD, List.getElem?_eq_getElem hjl]; exact List.getElem_mem _
    have hw := hwz _ hmem
    generalize zs.getD j 0 = q at hw hc
    simp [Lit.wf, IntKind.min, IntKind.max, IntKind.signed, IntKind.bits] at hw
    exact ⟨q.toNat, by omega, by rw [hc]; exact congrArg (fun x => some (Value.int .u8 x)) (by omega)⟩
theorem CodeIs.next {w w' : World} {A : Option Addr} {n : Nat} (h : CodeIs w w.heap.size A n) (hb : Below w.heap.size w w') : CodeIs w' w'.heap.size A n := by
  refine ⟨h.1, fun h0 => ?_⟩
  obtain ⟨ga, o, e, hlt, hx⟩ := h.2 h0
  refine ⟨ga, o, e, Nat.lt_of_lt_of_le hlt hb.size, fun j hj => ?_⟩
  obtain ⟨b, hb', hc⟩ := hx j hj
  exact ⟨b, hb', (hb.cell (p := ⟨ga, o + j, none⟩) hlt).trans hc⟩
end Go.Proofs.YtgbnpdgehknfpaaDoor.codes
