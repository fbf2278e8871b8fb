/- What the row's list says of the table of math/bits. -/
import Derived.Test.YthgahkkjdpljjaaDoorLeast
import Derived.Test.YthgahkkjdpljjaaDoorRows
import Derived.Lib.LaidTab
import Derived.Stop.LaidErr
import Derived.Shelf.Vars
namespace Go.Proofs.YthgahkkjdpljjaaDoor.least
open Go.RowKit

theorem gTab : Tryd.prog.globalNamed "math/bits.deBruijn64tab" = some 1 := by kernel_rfl
theorem gTabType : (Tryd.prog.globals[1]?).map (·.type) = some 83 := by kernel_rfl
theorem cellsTab : Tryd.prog.cellsOf 83 = 64 := by kernel_rfl
theorem cellsU8 : Tryd.prog.cellsOf 5 = 1 := by kernel_rfl
theorem env_of {W : World} {x : String × DataW Unit} {r : List (String × DataW Unit)} (h : laidMet Tryd.prog (x :: ("math/bits.deBruijn64tab", Rows.laid_math_bits_deBruijn64tab) :: r) W) : Env W := by
  have ht : Lib.TabIs Tryd.prog W "math/bits.deBruijn64tab" .u8 (Lib.deBruijn64tab.map fun a : Nat => (a : Int)) := Lib.tabIs_of_head gTab gTabType Tryd.underlying83 Tryd.underlying5 cellsU8 cellsTab h.tail
  intro j hj
  rw [ht.cell gTab j (by simpa using hj)]
  simp [List.getD_eq_getElem?_getD, hj]
end Go.Proofs.YthgahkkjdpljjaaDoor.least
