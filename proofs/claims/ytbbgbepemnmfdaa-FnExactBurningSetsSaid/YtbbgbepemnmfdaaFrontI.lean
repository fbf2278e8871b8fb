/- Fronts: the contracts of the program's frontIn and FrontOf. -/
import Derived.Handy
import Derived.Test.YtbbgbepemnmfdaaFrontM
import Derived.Test.YtbbgbepemnmfdaaAround
import Derived.Test.YtbbgbepemnmfdaaClosed
import Derived.Test.YtbbgbepemnmfdaaRet
import Derived.Deep.QuietTactic
namespace Go.Proofs.Ytbbgbepemnmfdaa.fronts
open Go.RowKit P2 words edges ints good adjs fns sets rets covs reach bags bitsI
set_option linter.unusedVariables false

theorem shl_all {n : Nat} (hn : n ≤ 8) : IntKind.u64.wrap (IntKind.u64.wrap ((2 : Int) ^ n) - 1) = ((numOf (fun _ => true) n : Nat) : Int) := by
  have hpn : 2 ^ n ≤ 256 := by have := Nat.pow_le_pow_right (show 0 < 2 by decide) hn; simpa using this
  have hp1 : 1 ≤ 2 ^ n := Nat.one_le_two_pow
  have e : numOf (fun _ => true) n = 2 ^ n - 1 := by
    apply Nat.eq_of_testBit_eq
    intro i
    rw [numOf_bit, Nat.testBit_two_pow_sub_one]; simp
  rw [e, wrap_pow hn, IntKind.wrap_u64]
  generalize 2 ^ n = z at *
  omega
theorem all_but {n : Nat} (S : Nat → Bool) (hn : n ≤ 8) : bits .andNot .u64 ((numOf (fun _ => true) n : Nat) : Int) ((numOf S n : Nat) : Int) = ((numOf (fun y => !S y) n : Nat) : Int) := by
  have h1 := numOf_lt (fun _ => true) hn
  refine andNot_num _ S n (by omega) hn _ fun z _ => ?_
  rw [numOf_bit]
  by_cases hz : z < n <;> simp [hz]
set_option maxHeartbeats 1000000 in
set_option maxRecDepth 100000 in
theorem frontIn_any (n : Nat) (S : Nat → Bool) (v : Value) (l : List Ed) (w : World) (h : Nums w v (clos l n)) (hg : P2.Good (n : Int) l) (hn : n ≤ 8) :
    Calls Try.prog 65 #[v, .int .u64 (numOf S n : Int)] w fun e w' => e = .returned (.int .u64 (numOf (frontB l n S) n : Int)) ∧ w = w' := by
  have HA := Lib.hid (closedAround_any n (numOf (fun y => !S y) n) v l w h hg hn (numOf_lt _ hn))
  obtain ⟨A, c, rfl, -⟩ := h.form
  have hcl := clos_len l n
  rw [hcl] at HA ⊢
  have hsh := shl_all hn
  have hno := all_but S hn
  have hand : bits .and .u64 ((arN l n (numOf (fun y => !S y) n) : Nat) : Int) ((numOf S n : Nat) : Int) = ((numOf (frontB l n S) n : Nat) : Int) := by
    have h1 : arN l n (numOf (fun y => !S y) n) < 256 := numOf_lt _ hn
    have h2 := numOf_lt S hn
    rw [bits_and_u64_nat _ _ (by omega) (by omega)]
    unfold arN
    rw [num_and, num_ext (fun z hz => front_bits hz)]
  clear h hg hcl
  generalize arN l n (numOf (fun y => !S y) n) = a at *
  generalize numOf (fun y => !S y) n = b at *
  generalize numOf (fun _ => true) n = d at *
  generalize numOf (frontB l n S) n = f at *
  generalize numOf S n = g at *
  go_enter Try.func65, Try.ntmps65
  go_wp2_with fail
  refine HA.out.mono ?_
  rintro e w' ⟨rfl, rfl⟩
  go_wp2_with fail
  go_ret
  exact ⟨rfl, rfl⟩
noncomputable def froL (n : Nat) (l : List Ed) (xs : List Int) : List Int := nw (frontB l n (goneB xs)) n
theorem fro_len (s : Int) (l : List Ed) (xs : List Int) (p : Prop) (h : p → s.toNat ≤ 8) : (inG p (froL s.toNat l xs)).length ≤ 1048576 := inG_len fun hp => by
  have h1 := nw_len (frontB l s.toNat (goneB xs)) s.toNat
  have h2 := h hp
  unfold froL; omega
end Go.Proofs.Ytbbgbepemnmfdaa.fronts
