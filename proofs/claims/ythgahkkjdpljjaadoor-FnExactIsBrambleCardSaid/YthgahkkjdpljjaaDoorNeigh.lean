/- The contracts of NeighborsOf: of the program and of the model. -/
import Derived.Test.YthgahkkjdpljjaaDoorAdj
import Derived.Test.YthgahkkjdpljjaaDoorFns
import Derived.Laws.EntriesVeiled
namespace Go.Proofs.YthgahkkjdpljjaaDoor.neigh
open Go.RowKit P2 words edges ints good near adjs fns

theorem ret2 {a b c d : Value} (h : a = c) (h2 : b = d) : Ending.returned (.tuple #[a, b]) = .returned (.tuple #[c, d]) := by rw [h, h2]
theorem in64_small {x : Int} (h : -100 ≤ x) (h2 : x ≤ 100) : In64 x := by unfold In64; omega

theorem cell_keep {w w' : World} {b o : Nat} {v : Value} (h : w.cell? ⟨b, o, none⟩ = some v) (hb : Below w.heap.size w w') : w'.cell? ⟨b, o, none⟩ = some v :=
  (hb.cell (p := ⟨b, o, none⟩) (World.block_lt_of_cell? w (a := ⟨b, o, none⟩) h)).trans h

end Go.Proofs.YthgahkkjdpljjaaDoor.neigh
