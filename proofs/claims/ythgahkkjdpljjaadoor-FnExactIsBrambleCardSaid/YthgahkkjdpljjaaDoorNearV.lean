/- A variable that holds the function value of the neighbors. -/
import Derived.Test.YthgahkkjdpljjaaDoorAdj
import Derived.Test.YthgahkkjdpljjaaDoorFns
import Derived.Test.YthgahkkjdpljjaaDoorRet
import Derived.Test.YthgahkkjdpljjaaDoorMid
import Derived.Test.YthgahkkjdpljjaaDoorGw
import Derived.Laws.EntriesVeiled
namespace Go.Proofs.YthgahkkjdpljjaaDoor.nearv
open Go.RowKit P2 words edges ints good near adjs fns

theorem in64_small {x : Int} (h : -100 ≤ x) (h2 : x ≤ 100) : In64 x := by unfold In64; omega
theorem cell_keep {w w' : World} {b o : Nat} {v : Value} (h : w.cell? ⟨b, o, none⟩ = some v) (hb : Below w.heap.size w w') : w'.cell? ⟨b, o, none⟩ = some v :=
  (hb.cell (p := ⟨b, o, none⟩) (World.block_lt_of_cell? w (a := ⟨b, o, none⟩) h)).trans h
theorem good64 {s : Int} {l : List Ed} (hg : P2.Good s l) : ∀ e ∈ l, In64 e.1 ∧ In64 e.2 := fun e he => by
  have := hg.mem he
  have h8 := hg.2.1
  exact ⟨in64_small (by omega) (by omega), in64_small (by omega) (by omega)⟩
theorem gw_len {n : Nat} (J : Nat → Nat → Bool) (hn : n ≤ 8) : (gw n J).length ≤ 1048576 := by
  have h1 := gwTo_len J n n
  have : n * n ≤ 8 * 8 := Nat.mul_le_mul hn hn
  show (gwTo J n n).length ≤ _
  omega
end Go.Proofs.YthgahkkjdpljjaaDoor.nearv
