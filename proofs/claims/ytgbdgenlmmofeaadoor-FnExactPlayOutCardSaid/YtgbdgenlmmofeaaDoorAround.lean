/- The contracts of the program's closedAround, connectedIn and bagOf. -/
import Derived.Handy
import Derived.Test.YtgbdgenlmmofeaaDoorBagM
import Derived.Test.YtgbdgenlmmofeaaDoorBitsI
import Derived.Laws.BitsAllLaws
import Derived.StillTailTactics
namespace Go.Proofs.YtgbdgenlmmofeaaDoor.bitsI
open Go.RowKit P2 words edges ints good adjs fns sets rets covs bags
set_option linter.unusedVariables false

theorem andNot_num (a : Nat) (p : Nat → Bool) (n : Nat) (ha : a < 18446744073709551616) (hn : n ≤ 8) (q : Nat → Bool) (hq : ∀ z, z < 64 → (a.testBit z && !(decide (z < n) && p z)) = (decide (z < n) && q z)) :
    bits .andNot .u64 (a : Int) (numOf p n : Int) = (numOf q n : Int) := by
  have hb := numOf_lt p hn
  rw [u64_andNot_nat a _ ha (by omega)]
  congr 1
  apply Nat.eq_of_testBit_eq
  intro i
  rw [Nat.testBit_and, show (18446744073709551615 - numOf p n) = 2 ^ 64 - (numOf p n + 1) from by omega, Nat.testBit_two_pow_sub_succ (by omega), numOf_bit, numOf_bit]
  by_cases hi : i < 64
  · rw [← hq i hi]; simp [hi]
  · have h1 : decide (i < 64) = false := decide_eq_false hi
    have h2 : decide (i < n) = false := decide_eq_false (by omega)
    rw [h1, h2]; simp
theorem num_one {n x : Nat} (hx : x < n) : numOf (fun y => decide (y = x)) n = 2 ^ x := by
  apply Nat.eq_of_testBit_eq
  intro i
  rw [numOf_bit, Nat.testBit_two_pow]
  by_cases e : i = x
  · subst e; simp [hx]
  · have h9 : ¬ x = i := fun h => e h.symm
    simp [e, h9]
theorem num_or_one (p : Nat → Bool) {n x : Nat} (hx : x < n) : numOf p n ||| 2 ^ x = numOf (reach.pput p x) n := by
  apply Nat.eq_of_testBit_eq
  intro i
  rw [Nat.testBit_or, numOf_bit, numOf_bit, Nat.testBit_two_pow]
  unfold reach.pput
  by_cases e : i = x
  · subst e; simp [hx]
  · have h9 : ¬ x = i := fun h => e h.symm
    simp [e, h9]
end Go.Proofs.YtgbdgenlmmofeaaDoor.bitsI
