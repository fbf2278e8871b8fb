/- The contracts of the program's widthAt and TreewidthOf. -/
import Derived.Handy
import Derived.Test.YtbbgbepemnmfdaaPathM
import Derived.Test.YtbbgbepemnmfdaaElim
import Derived.Test.YtbbgbepemnmfdaaAround
import Derived.Deep.DeepCutAuto
import Derived.Deep.RegionHeld3
import Derived.Deep.QuietTactic
namespace Go.Proofs.Ytbbgbepemnmfdaa.costs
open Go.RowKit P2 words edges ints good adjs fns sets rets covs reach bags bitsI fronts
set_option linter.unusedVariables false

noncomputable def costW (l : List Ed) (n g x : Nat) : Int := ((nw (laterB n l (bitB g) x) n).length : Int)
theorem costW_le (l : List Ed) (n : Nat) (hn : n ≤ 8) (g x : Nat) : costW l n g x ≤ 100 := by
  unfold costW
  have := nw_len (laterB n l (bitB g) x) n
  omega
theorem costW_pos (l : List Ed) (n g x : Nat) : 0 ≤ costW l n g x := by unfold costW; omega
noncomputable def twV (s : Int) (l : List Ed) : Int := leastV s.toNat (costW l s.toNat) (-1)
theorem LcUp.low {n : Nat} {cost : Nat → Nat → Int} {C : Nat → Int} (hn : n ≤ 8) (h : LcUp n cost (-1) 0 C) (hc : ∀ g x, 0 ≤ cost g x) : -1 ≤ C 0 := by
  by_cases e : 2 ^ n - 1 = 0
  · have := h.1; rw [e] at this; omega
  · obtain ⟨⟨x, _, _, hC⟩, _⟩ := h.2.1 0 (by omega) (by omega)
    have := hc 0 x
    omega
theorem tw_lc {n : Nat} {l : List Ed} {C : Nat → Int} (hn : n ≤ 8) (h : LcUp n (costW l n) (-1) 0 C) : twV (n : Int) l = C 0 := by
  have e : twV (n : Int) l = leastV n (costW l n) (-1) := rfl
  rw [e]
  exact Least.is (lc_least hn h.1 (fun c hc => h.2.1 c (by omega) hc) (h.low hn (costW_pos l n)))
theorem own_litT {w : World} {B N c : Nat} {A : Option Addr} {cs : List Value} (h : w.ownsRow B 3 1 (.slice A N c) N cs) (hN : 0 < N) : ∃ g, A = some ⟨g, 0, none⟩ := by
  rcases h.2 with ⟨_, h1⟩ | ⟨g, cap, cur, h1, _⟩
  · omega
  · cases h1; exact ⟨g, rfl⟩
end Go.Proofs.Ytbbgbepemnmfdaa.costs
