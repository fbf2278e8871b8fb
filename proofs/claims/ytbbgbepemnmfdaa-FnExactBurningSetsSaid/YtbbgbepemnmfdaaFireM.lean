/- Fires: mathematics. -/
import Derived.Test.YtbbgbepemnmfdaaUpsB
import Derived.Test.YtbbgbepemnmfdaaAround
namespace Go.Proofs.Ytbbgbepemnmfdaa.fires
open Go.RowKit P2 words edges ints good adjs fns sets rets covs bitsI bags ups
set_option linter.unusedVariables false

theorem nbits {n g : Nat} (hg : g < 2 ^ n) : numOf (bitB g) n = g := by
  apply Nat.eq_of_testBit_eq
  intro i
  rw [numOf_bit]
  unfold bitB
  by_cases hi : i < n
  · simp [hi]
  · rw [decide_eq_false hi, Bool.false_and, Nat.testBit_lt_two_pow (Nat.lt_of_lt_of_le hg (Nat.pow_le_pow_right (by decide) (by omega)))]
theorem andNot_nn (p q : Nat → Bool) {n : Nat} (hn : n ≤ 8) : bits .andNot .u64 (numOf p n : Int) (numOf q n : Int) = (numOf (fun y => p y && !q y) n : Int) :=
  andNot_num (numOf p n) q n (by have := numOf_lt p hn; omega) hn _ fun z _ => by
    rw [numOf_bit]
    by_cases hz : z < n
    · simp [hz]
    · simp [hz]
theorem num_lt2 (p : Nat → Bool) (n : Nat) : numOf p n < 2 ^ n := Nat.lt_pow_two_of_testBit _ fun j hj => by rw [numOf_bit]; simp; omega
theorem or_lt2 {n a b : Nat} (ha : a < 2 ^ n) (hb : b < 2 ^ n) : a ||| b < 2 ^ n := Nat.or_lt_two_pow ha hb
/-- the nodes that burn next, and those that are neither burning nor defended -/
def thrN (l : List Ed) (n b d : Nat) : Nat := numOf (fun y => arB l n b y && !bitB b y && !bitB d y) n
def opnN (n b d : Nat) : Nat := numOf (fun y => !bitB b y && !bitB d y) n
/-- a fire: what burns, and what is defended -/
abbrev Fr := Nat × Nat
def aftF (l : List Ed) (n : Nat) (f : Fr) (s : Nat) : Fr := (f.1 ||| thrN l n f.1 (f.2 ||| s), f.2 ||| s)
def FrOk (n : Nat) (f : Fr) : Prop := f.1 < 2 ^ n ∧ f.2 < 2 ^ n
theorem aft_ok {l : List Ed} {n : Nat} {f : Fr} {s : Nat} (h : FrOk n f) (hs : s < 2 ^ n) : FrOk n (aftF l n f s) := ⟨or_lt2 h.1 (num_lt2 _ _), or_lt2 h.2 hs⟩
def valF (f : Fr) : Value := .agg #[.int .u64 (f.1 : Int), .int .u64 (f.2 : Int)]
end Go.Proofs.Ytbbgbepemnmfdaa.fires
