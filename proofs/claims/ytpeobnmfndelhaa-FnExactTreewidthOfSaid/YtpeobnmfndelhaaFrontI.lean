/- Fronts: the contracts of the program's frontIn and FrontOf. -/
import Derived.Handy
import Derived.Test.YtpeobnmfndelhaaFrontM
import Derived.Test.YtpeobnmfndelhaaAround
import Derived.Test.YtpeobnmfndelhaaClosed
import Derived.Test.YtpeobnmfndelhaaRet
import Derived.Deep.QuietTactic
namespace Go.Proofs.Ytpeobnmfndelhaa.fronts
open Go.RowKit P2 words edges ints good adjs fns sets rets covs reach bags bitsI
set_option linter.unusedVariables false

theorem shl_all {n : Nat} (hn : n ≤ 8) : IntKind.u64.wrap (IntKind.u64.wrap ((2 : Int) ^ n) - 1) = ((numOf (fun _ => true) n : Nat) : Int) := by
  have hpn : 2 ^ n ≤ 256 := by have := Nat.pow_le_pow_right (show 0 < 2 by decide) hn; simpa using this
  have hp1 : 1 ≤ 2 ^ n := Nat.one_le_two_pow
  have e : numOf (fun _ => true) n = 2 ^ n - 1 := by
    apply Nat.eq_of_testBit_eq
    intro i
    rw [numOf_bit, Nat.testBit_two_pow_sub_one]; simp
  rw [e, wrap_pow hn, IntKind.wrap_u64]
  generalize 2 ^ n = z at *
  omega
theorem all_but {n : Nat} (S : Nat → Bool) (hn : n ≤ 8) : bits .andNot .u64 ((numOf (fun _ => true) n : Nat) : Int) ((numOf S n : Nat) : Int) = ((numOf (fun y => !S y) n : Nat) : Int) := by
  have h1 := numOf_lt (fun _ => true) hn
  refine andNot_num _ S n (by omega) hn _ fun z _ => ?_
  rw [numOf_bit]
  by_cases hz : z < n <;> simp [hz]
noncomputable def froL (n : Nat) (l : List Ed) (xs : List Int) : List Int := nw (frontB l n (goneB xs)) n
theorem fro_len (s : Int) (l : List Ed) (xs : List Int) (p : Prop) (h : p → s.toNat ≤ 8) : (inG p (froL s.toNat l xs)).length ≤ 1048576 := inG_len fun hp => by
  have h1 := nw_len (frontB l s.toNat (goneB xs)) s.toNat
  have h2 := h hp
  unfold froL; omega
end Go.Proofs.Ytpeobnmfndelhaa.fronts
