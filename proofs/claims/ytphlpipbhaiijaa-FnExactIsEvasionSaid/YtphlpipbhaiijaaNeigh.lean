/- The contracts of NeighborsOf: of the program and of the model. -/
import Derived.Test.YtphlpipbhaiijaaAdj
import Derived.Test.YtphlpipbhaiijaaFns
import Derived.Laws.EntriesVeiled
namespace Go.Proofs.Ytphlpipbhaiijaa.neigh
open Go.RowKit P2 words edges ints good near adjs fns

theorem ret2 {a b c d : Value} (h : a = c) (h2 : b = d) : Ending.returned (.tuple #[a, b]) = .returned (.tuple #[c, d]) := by rw [h, h2]
theorem in64_small {x : Int} (h : -100 ≤ x) (h2 : x ≤ 100) : In64 x := by unfold In64; omega

/-- a variable holds the function value of the neighbors by a list of edges -/
def NearV (w : World) (b : Nat) (l : List Ed) : Prop := ∃ c, w.cell? ⟨b, 0, none⟩ = some (.func (.func 159) #[] #[.pointer (some ⟨c, 0, none⟩)]) ∧ NearIs w c l
theorem NearV.below {w w' : World} {b : Nat} {l : List Ed} (h : NearV w b l) (hb : Below w.heap.size w w') : NearV w' b l := by
  obtain ⟨c, h1, h2⟩ := h
  exact ⟨c, (hb.cell (p := ⟨b, 0, none⟩) (World.block_lt_of_cell? w (a := ⟨b, 0, none⟩) h1)).trans h1, h2.below hb⟩
theorem cell_keep {w w' : World} {b o : Nat} {v : Value} (h : w.cell? ⟨b, o, none⟩ = some v) (hb : Below w.heap.size w w') : w'.cell? ⟨b, o, none⟩ = some v :=
  (hb.cell (p := ⟨b, o, none⟩) (World.block_lt_of_cell? w (a := ⟨b, o, none⟩) h)).trans h

end Go.Proofs.Ytphlpipbhaiijaa.neigh
