/- Layouts: the contracts of IsLayout, of the program and of the model. -/
import Derived.Handy
import Derived.Test.YtphlpipbhaiijaaElim
import Derived.Deep.DeepCutAuto
import Derived.Deep.RegionHeld3
namespace Go.Proofs.Ytphlpipbhaiijaa.bags
open Go.RowKit P2 words edges ints good adjs fns sets rets covs each
set_option linter.unusedVariables false

theorem retBB' {a b c d : Bool} (h : a = c) (h2 : b = d) : Ending.returned (.tuple #[.bool a, .bool b]) = .returned (.tuple #[.bool c, .bool d]) := by rw [h, h2]
/-- the model's two tests ahead: valid, and a layout: for any function that begins so -/
theorem elim_each {n : Nat} {l : List Ed} {tl : List Int} (hg : P2.Good (n : Int) l) : okG (EachS n tl) = okG (ElimOk (n : Int) l tl) := by
  rw [Bool.eq_iff_iff, okG_iff, okG_iff]
  unfold ElimOk
  rw [Int.toNat_natCast]
  exact ⟨fun h => ⟨hg, h⟩, fun h => h.2⟩
end Go.Proofs.Ytphlpipbhaiijaa.bags
