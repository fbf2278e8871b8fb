/- The contracts of the program's hasNumber, spreadIn, SpreadOf and IsStopping. -/
import Derived.Handy
import Derived.Test.YtfphpilabfpmjaaSprM
import Derived.Test.YtfphpilabfpmjaaUpsI
import Derived.Test.YtfphpilabfpmjaaAround
import Derived.Test.YtfphpilabfpmjaaFunc
import Derived.Test.YtfphpilabfpmjaaRet
import Derived.Deep.DeepCutAuto
import Derived.Deep.RegionHeld3
import Derived.Deep.QuietTactic
import Derived.WalkMore
namespace Go.Proofs.Ytfphpilabfpmjaa.ups
open Go.RowKit P2 words edges ints good adjs fns sets rets covs bags bitsI func
set_option linter.unusedVariables false

/-- a valid Graph and a number of 1..8 -/
def NumOk (s : Int) (l : List Ed) (k : Int) : Prop := P2.Good s l ∧ 1 ≤ k ∧ k ≤ 8
def SpOk (s : Int) (l : List Ed) (xs : List Int) (r : Int) : Prop := NumOk s l r ∧ SetOk s l xs
noncomputable def sprL (s : Int) (l : List Ed) (xs : List Int) (r : Int) : List Int := ndN (spN s.toNat l r.toNat (codeL xs))
theorem code_set {n : Nat} {l : List Ed} {xs : List Int} (h : SetOk (n : Int) l xs) : codeL xs < 2 ^ n := code_lt (m := n) h.2.1
/-- the nodes of a neighborhood that are not in a set -/
def outN (l : List Ed) (n d x : Nat) : Nat := numOf (fun z => (cloB l x).testBit z && !d.testBit z) n
theorem num_bits {n g : Nat} (hg : g < 2 ^ n) : numOf (bitB g) n = g := by
  apply Nat.eq_of_testBit_eq
  intro i
  rw [numOf_bit]
  unfold bitB
  by_cases hi : i < n
  · simp [hi]
  · rw [decide_eq_false hi, Bool.false_and, Nat.testBit_lt_two_pow (Nat.lt_of_lt_of_le hg (Nat.pow_le_pow_right (by decide) (by omega)))]
theorem out_walk {n d x : Nat} {l : List Ed} (hg : P2.Good (n : Int) l) (hn : n ≤ 8) (hd : d < 2 ^ n) (hx : x < n) : bits .andNot .u64 (cloB l x : Int) (d : Int) = (outN l n d x : Int) := by
  have h1 := cloB_lt' hg x (by omega)
  have h2 := andNot_num (cloB l x) (bitB d) n (by omega) hn (fun z => (cloB l x).testBit z && !d.testBit z) (fun z _ => by
    unfold bitB
    by_cases hz : z < n
    · simp [hz]
    · have : (cloB l x).testBit z = false := by
        rw [cloB_bit hg, Bool.or_eq_false_iff]
        refine ⟨by simp; omega, ?_⟩
        cases ha : adj l (x : Int) (z : Int) with
        | false => rfl
        | true => have := (adj_node hg ha).2; omega
      simp [this])
  rw [num_bits hd] at h2
  exact h2
/-- each node of the set has less than r neighbors that are not in it -/
def stoB (l : List Ed) (n r d : Nat) (x : Int) : Bool := decide (r ≤ onesN (outN l n d x.toNat))
def StP (s : Int) (l : List Ed) (xs : List Int) (r : Int) : Prop := SpOk s l xs r ∧ 0 < xs.length ∧ xs.any (stoB l s.toNat r.toNat (codeL xs)) = false
end Go.Proofs.Ytfphpilabfpmjaa.ups
