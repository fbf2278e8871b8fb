/- The contract of the program's firstSet: the best set for which a test holds. -/
import Derived.Handy
import Derived.Test.YtjcnngnahijceaaUpsB
import Derived.Deep.DeepCutAuto
import Derived.Deep.RegionHeld3
import Derived.Deep.QuietTactic
namespace Go.Proofs.Ytjcnngnahijceaa.ups
open Go.RowKit P2 words edges ints good adjs fns sets rets covs bitsI func
set_option linter.unusedVariables false

theorem FnU.on {w w' : World} {f : FuncId} {caps : Array Value} {xs : List Nat} {p : Nat → Bool} (h : FnU w f caps xs p) (hb : Below w.heap.size w w') : FnU w' f caps xs p :=
  { enter := h.enter, call := fun W hW x hx => h.call W (btrans hb hW) x hx }
set_option maxHeartbeats 2000000 in
set_option maxRecDepth 100000 in
theorem firstSet_any (n : Nat) (f : FuncId) (caps : Array Value) (p : Nat → Bool) (w : World) (hn : n ≤ 8) (h : FnU w f caps (setsN n n) p) (ha : p (2 ^ n - 1) = true) :
    Calls Try.prog 75 #[.int .i64 (n : Int), .func (.func f) #[] caps] w fun e w' => bestC p rkMin n < 2 ^ n ∧ e = .returned (.int .u64 (bestC p rkMin n : Int)) ∧ Below w.heap.size w w' := by
  have HSU := Lib.hid (setsUpTo_own n n w hn hn)
  have HF := Lib.hid (fun (W : World) (hW : Below w.heap.size w W) (v : Value) (hv : Nums W v (setsN n n)) => indexFuncU_any v (setsN n n) f caps p W hv (by have := sets_len hn hn; omega) (FnU.on h hW))
  obtain ⟨i, y, hi, hy, hp, hf⟩ := idxF_some ((mem_all hn).2 (show 2 ^ n - 1 < 2 ^ n from by have := Nat.pow_pos (n := n) (show 0 < 2 by decide); omega)) ha
  have HV : Hid (bestC p rkMin n = y) := bestC_is hn rkMin_inj (min_C hn hy hp hf)
  have HYN : Hid (y < 2 ^ n) := (mem_all hn).1 (List.mem_of_getElem? hy)
  have hil : (i : Int) < ((setsN n n).length : Int) := by have := (List.getElem?_eq_some_iff.1 hy).1; omega
  have HY := Lib.hid hy
  have HHI := Lib.hid hi
  rw [HV.out]
  clear h ha hi hy hp hf HV
  generalize setsN n n = S at *
  go_enter Try.func75, Try.ntmps75
  go_wp2_with fail
  refine HSU.out.mono ?_
  rintro e w4 ⟨A5, c5, rfl, o5, b5⟩
  have HB4 := Lib.hid b5
  have HN5 : Hid (Nums w4 (.slice A5 S.length c5) S) := Reads.of_own o5
  have HIX := Lib.hid (HF.out w4 b5 _ HN5.out)
  rw [HHI.out] at HIX
  clear o5 b5 HF HSU
  go_wp2_with fail
  refine HIX.out.mono ?_
  rintro e w6 ⟨rfl, b6⟩
  have HB6 := Lib.hid (btrans HB4.out b6)
  obtain ⟨_, _, hf5, hcc⟩ := (show Nums w6 (.slice A5 S.length c5) S from HN5.out.below b6).form
  cases hf5
  obtain ⟨g7, o7, rfl, c7⟩ := hcc i y HY.out
  clear hcc b6
  go_wp2_with fail
  go_ret
  exact ⟨HYN.out, rfl, HB6.out⟩
end Go.Proofs.Ytjcnngnahijceaa.ups
