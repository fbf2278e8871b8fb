/- The contract of the program's leastCosts. -/
import Derived.Handy
import Derived.Test.YtbbgbepemnmfdaaCostM
import Derived.Test.YtbbgbepemnmfdaaRepB
import Derived.Test.YtbbgbepemnmfdaaGridL
import Derived.Test.YtbbgbepemnmfdaaFrontM
import Derived.Test.YtbbgbepemnmfdaaOwn
import Derived.Deep.DeepCutAuto
import Derived.Deep.RegionHeld3
namespace Go.Proofs.Ytbbgbepemnmfdaa.costs
open Go.RowKit P2 words edges ints good adjs fns sets rets covs reach bags bitsI fronts
set_option linter.unusedVariables false

def maxI : Int := 9223372036854775807
def rowF (N : Nat) (C : Nat → Int) : List Int := (List.range N).map C
theorem rowF_len (N : Nat) (C : Nat → Int) : (rowF N C).length = N := by simp [rowF]
theorem rowF_at {N i : Nat} {C : Nat → Int} (h : i < N) : (rowF N C)[i]? = some (C i) := by simp [rowF, h]
def upd (C : Nat → Int) (i : Nat) (v : Int) : Nat → Int := fun j => if j = i then v else C j
theorem upd_at (C : Nat → Int) (i : Nat) (v : Int) : upd C i v i = v := by simp [upd]
theorem upd_ne (C : Nat → Int) {i j : Nat} (v : Int) (h : j ≠ i) : upd C i v j = C j := by simp [upd, h]
theorem upd_upd (C : Nat → Int) (i : Nat) (v u : Int) : upd (upd C i v) i u = upd C i u := by funext j; unfold upd; split <;> rfl
theorem upd_self (C : Nat → Int) (i : Nat) : upd C i (C i) = C := by funext j; unfold upd; split <;> simp_all
theorem rowF_set (N : Nat) (C : Nat → Int) (i : Nat) (v : Int) : (rowF N C).set i v = rowF N (upd C i v) := by
  unfold rowF
  apply List.ext_getElem?
  intro j
  rw [List.getElem?_set]
  by_cases hj : i = j
  · subst hj
    by_cases h : i < N <;> simp [h, upd_at]
  · rw [if_neg hj]
    by_cases h : j < N
    · simp [h, upd_ne C v (fun e => hj e.symm)]
    · simp [h]
theorem rowF_const (N : Nat) (v : Int) : List.replicate N v = rowF N (fun _ => v) := by unfold rowF; rw [List.map_const']; simp
theorem rowF_cells (N : Nat) (C : Nat → Int) (i : Nat) (v : Int) : (cellsI (rowF N C)).set i (.int .i64 v) = cellsI (rowF N (upd C i v)) := by rw [← rowF_set]; simp [cellsI, List.map_set]

theorem min_if (a b v : Int) : (if (if a < b then b else a) < v then (if a < b then b else a) else v) = min v (max a b) := by
  split <;> split <;> omega
/-- down to a set: those above it have their least costs, the others the greatest number -/
def LcUp (n : Nat) (cost : Nat → Nat → Int) (nil : Int) (g : Nat) (C : Nat → Int) : Prop :=
  C (2 ^ n - 1) = nil ∧ (∀ c, g ≤ c → c < 2 ^ n - 1 → LcAt n cost C c) ∧ (∀ c, c < g → C c = maxI) ∧ g ≤ 2 ^ n - 1 ∧ ∀ c, g ≤ c → c < 2 ^ n → C c ≤ 100
/-- the least so far of a set's -/
def PtAt (n : Nat) (cost : Nat → Nat → Int) (C : Nat → Int) (c x : Nat) (v : Int) : Prop :=
  (v = maxI ∨ ∃ y, y < x ∧ y < n ∧ c.testBit y = false ∧ v = max (cost c y) (C (c ||| 2 ^ y))) ∧ ∀ y, y < x → y < n → c.testBit y = false → v ≤ max (cost c y) (C (c ||| 2 ^ y))
theorem PtAt.start (n : Nat) (cost : Nat → Nat → Int) (C : Nat → Int) (c : Nat) : PtAt n cost C c 0 maxI := ⟨.inl rfl, fun y h => by omega⟩
theorem PtAt.skip {n : Nat} {cost : Nat → Nat → Int} {C : Nat → Int} {c x : Nat} {v : Int} (h : PtAt n cost C c x v) (hb : c.testBit x = true) : PtAt n cost C c (x + 1) v := by
  refine ⟨?_, fun y hy hn hby => ?_⟩
  · rcases h.1 with h1 | ⟨y, h1, h2⟩
    · exact .inl h1
    · exact .inr ⟨y, by omega, h2⟩
  · by_cases e : y = x
    · subst e; rw [hb] at hby; cases hby
    · exact h.2 y (by omega) hn hby
theorem PtAt.take {n : Nat} {cost : Nat → Nat → Int} {C : Nat → Int} {c x : Nat} {v u : Int} (h : PtAt n cost C c x v) (hx : x < n) (hb : c.testBit x = false) (hu : u = max (cost c x) (C (c ||| 2 ^ x))) : PtAt n cost C c (x + 1) (min v u) := by
  refine ⟨?_, fun y hy hn hby => ?_⟩
  · by_cases hvu : v ≤ u
    · rw [Int.min_eq_left hvu]
      rcases h.1 with h1 | ⟨y, h1, h2⟩
      · exact .inl h1
      · exact .inr ⟨y, by omega, h2⟩
    · rw [Int.min_eq_right (by omega)]
      exact .inr ⟨x, by omega, hx, hb, hu⟩
  · by_cases e : y = x
    · subst e; omega
    · have := h.2 y (by omega) hn hby; omega
theorem PtAt.all {n : Nat} {cost : Nat → Nat → Int} {nil : Int} {C : Nat → Int} {c : Nat} {v : Int} (hn : n ≤ 8) (hL : LcUp n cost nil (c + 1) C) (h : PtAt n cost C c n v) (hcost : ∀ g x, cost g x ≤ 100) (hc : c < 2 ^ n - 1) : LcUp n cost nil c (upd C c v) := by
  have hp := pow8 hn
  obtain ⟨h1, h2, h3, h4, h5⟩ := hL
  have hor : ∀ y, y < n → c.testBit y = false → c < c ||| 2 ^ y ∧ c ||| 2 ^ y < 2 ^ n := fun y hy hb => ⟨or_gt (by omega) (by omega) hb, or_lt (by omega) hy⟩
  obtain ⟨z, hz, hzb⟩ := out_bit hn hc
  have hz1 := h.2 z hz hz hzb
  have hz2 := hor z hz hzb
  have hz3 := h5 _ hz2.1 hz2.2
  have hz4 := hcost c z
  have hv : v ≤ 100 := by omega
  refine ⟨by rw [upd_ne C v (by omega)]; exact h1, fun d hd hd2 => ?_, fun d hd => by rw [upd_ne C v (by omega)]; exact h3 d (by omega), by omega, fun d hd hd2 => ?_⟩
  · by_cases e : d = c
    · subst e
      refine ⟨?_, fun y hy hb => ?_⟩
      · rcases h.1 with h6 | ⟨y, _, h6, h7, h8⟩
        · exfalso; unfold maxI at h6; omega
        · refine ⟨y, h6, h7, ?_⟩
          rw [upd_at, upd_ne C v (by have := hor y h6 h7; omega)]; exact h8
      · rw [upd_at, upd_ne C v (by have := hor y hy hb; omega)]; exact h.2 y hy hy hb
    · have hdo : ∀ y, y < n → d.testBit y = false → d ||| 2 ^ y ≠ c := fun y hy hb => by have := or_gt (x := y) (by omega : d < 256) (by omega) hb; omega
      obtain ⟨⟨x, hx, hb, hC⟩, hle⟩ := h2 d (by omega) hd2
      refine ⟨⟨x, hx, hb, ?_⟩, fun y hy hby => ?_⟩
      · rw [upd_ne C v e, upd_ne C v (hdo x hx hb)]; exact hC
      · rw [upd_ne C v e, upd_ne C v (hdo y hy hby)]; exact hle y hy hby
  · by_cases e : d = c
    · subst e; rw [upd_at]; exact hv
    · rw [upd_ne C v e]; exact h5 d (by omega) hd2
end Go.Proofs.Ytbbgbepemnmfdaa.costs
