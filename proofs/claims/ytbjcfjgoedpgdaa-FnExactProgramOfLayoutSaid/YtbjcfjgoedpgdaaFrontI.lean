/- Fronts: the contracts of the program's frontIn and FrontOf. -/
import Derived.Handy
import Derived.Test.YtbjcfjgoedpgdaaFrontM
import Derived.Test.YtbjcfjgoedpgdaaAround
import Derived.Test.YtbjcfjgoedpgdaaClosed
import Derived.Test.YtbjcfjgoedpgdaaRet
import Derived.Deep.QuietTactic
namespace Go.Proofs.Ytbjcfjgoedpgdaa.fronts
open Go.RowKit P2 words edges ints good adjs fns sets rets covs reach bags bitsI
set_option linter.unusedVariables false

theorem shl_all {n : Nat} (hn : n ≤ 8) : IntKind.u64.wrap (IntKind.u64.wrap ((2 : Int) ^ n) - 1) = ((numOf (fun _ => true) n : Nat) : Int) := by
  have hpn : 2 ^ n ≤ 256 := by have := Nat.pow_le_pow_right (show 0 < 2 by decide) hn; simpa using this
  have hp1 : 1 ≤ 2 ^ n := Nat.one_le_two_pow
  have e : numOf (fun _ => true) n = 2 ^ n - 1 := by
    apply Nat.eq_of_testBit_eq
    intro i
    rw [numOf_bit, Nat.testBit_two_pow_sub_one]; simp
  rw [e, wrap_pow hn, IntKind.wrap_u64]
  generalize 2 ^ n = z at *
  omega
theorem all_but {n : Nat} (S : Nat → Bool) (hn : n ≤ 8) : bits .andNot .u64 ((numOf (fun _ => true) n : Nat) : Int) ((numOf S n : Nat) : Int) = ((numOf (fun y => !S y) n : Nat) : Int) := by
  have h1 := numOf_lt (fun _ => true) hn
  refine andNot_num _ S n (by omega) hn _ fun z _ => ?_
  rw [numOf_bit]
  by_cases hz : z < n <;> simp [hz]
set_option maxHeartbeats 1000000 in
set_option maxRecDepth 100000 in
theorem frontIn_any (n : Nat) (S : Nat → Bool) (v : Value) (l : List Ed) (w : World) (h : Nums w v (clos l n)) (hg : P2.Good (n : Int) l) (hn : n ≤ 8) :
    Calls Try.prog 54 #[v, .int .u64 (numOf S n : Int)] w fun e w' => e = .returned (.int .u64 (numOf (frontB l n S) n : Int)) ∧ w = w' := by
  have HA := Lib.hid (closedAround_any n (numOf (fun y => !S y) n) v l w h hg hn (numOf_lt _ hn))
  obtain ⟨A, c, rfl, -⟩ := h.form
  have hcl := clos_len l n
  rw [hcl] at HA ⊢
  have hsh := shl_all hn
  have hno := all_but S hn
  have hand : bits .and .u64 ((arN l n (numOf (fun y => !S y) n) : Nat) : Int) ((numOf S n : Nat) : Int) = ((numOf (frontB l n S) n : Nat) : Int) := by
    have h1 : arN l n (numOf (fun y => !S y) n) < 256 := numOf_lt _ hn
    have h2 := numOf_lt S hn
    rw [bits_and_u64_nat _ _ (by omega) (by omega)]
    unfold arN
    rw [num_and, num_ext (fun z hz => front_bits hz)]
  clear h hg hcl
  generalize arN l n (numOf (fun y => !S y) n) = a at *
  generalize numOf (fun y => !S y) n = b at *
  generalize numOf (fun _ => true) n = d at *
  generalize numOf (frontB l n S) n = f at *
  generalize numOf S n = g at *
  go_enter Try.func54, Try.ntmps54
  go_wp2_with fail
  refine HA.out.mono ?_
  rintro e w' ⟨rfl, rfl⟩
  go_wp2_with fail
  go_ret
  exact ⟨rfl, rfl⟩
noncomputable def froL (n : Nat) (l : List Ed) (xs : List Int) : List Int := nw (frontB l n (goneB xs)) n
theorem fro_len (s : Int) (l : List Ed) (xs : List Int) (p : Prop) (h : p → s.toNat ≤ 8) : (inG p (froL s.toNat l xs)).length ≤ 1048576 := inG_len fun hp => by
  have h1 := nw_len (frontB l s.toNat (goneB xs)) s.toNat
  have h2 := h hp
  unfold froL; omega
set_option maxHeartbeats 1000000 in
set_option maxRecDepth 100000 in
theorem implFrontOf_any (s : Int) (v u : Value) (l : List Ed) (xs : List Int) (w : World) (h : Edges w v l) (hl : l.length ≤ 1048576) (hu : Ints w u xs) (hxl : xs.length ≤ 1048576) :
    Calls Try.prog 21 #[.agg #[.int .i64 s, v], u] w (RetI w (SetOk s l xs) (froL s.toNat l xs)) := by
  obtain ⟨A, c, rfl, -⟩ := h.form
  have H := Lib.hid h
  have HU := Lib.hid hu
  have b0 : Below w.heap.size w (w.alloc (.cells #[.int .i64 s, .slice A l.length c] 29)) := (Below.refl _ _).alloc (Nat.le_refl _) _
  have g0 := Blk.new w 29 #[.int .i64 s, .slice A l.length c]
  have HG := Lib.hid (hasSet_any s _ _ l xs _ (h.below b0) hl (hu.below b0) hxl)
  clear h hu
  by_cases hg : SetOk s l xs
  · rw [okG_yes hg] at HG
    obtain ⟨n, rfl⟩ : ∃ n : Nat, s = (n : Int) := ⟨s.toNat, by have := hg.1.1; omega⟩
    rw [Int.toNat_natCast]
    have hn : n ≤ 8 := by have := hg.1.2.1; omega
    have HCG := Lib.hid (code_gone (n := n) hg.2.1)
    have HE : Hid (nw (bitB (numOf (frontB l n (goneB xs)) n)) 8 = froL n l xs) := nodes_num hn
    have hf8 := numOf_lt (frontB l n (goneB xs)) hn
    have HOK := Lib.hid hg
    clear hg
    go_enter Try.func21, Try.ntmps21
    go_wp2_with fail
    refine HG.out.mono ?_
    rintro e w1 ⟨rfl, b1⟩
    have e_w1 := btrans b0 b1
    have g1 := g0.below b1 g0.lt
    clear HG b0 b1 g0
    obtain ⟨p0, p1, -, -⟩ := g1.two
    go_wp2_with fail
    refine (closedBits_any n _ l w1 (H.out.below e_w1) hl HOK.out.1 hn).mono ?_
    rintro e w3 ⟨A3, c3, rfl, r3, b3⟩
    have e_w3 := btrans e_w1 b3
    go_wp2_with fail
    refine (bitsOf_any _ xs w3 (HU.out.below e_w3) hxl (fun y hy => by have := HOK.out.2.1 y hy; omega)).mono ?_
    rw [HCG.out]
    rintro e w4 ⟨rfl, rfl⟩
    go_wp2_with fail
    refine (frontIn_any n (goneB xs) _ l w3 r3 HOK.out.1 hn).mono ?_
    rintro e w5 ⟨rfl, rfl⟩
    go_wp2_with fail
    refine (nodes_any (numOf (frontB l n (goneB xs)) n) w3 (by omega)).mono ?_
    rw [HE.out]
    rintro e w6 ⟨A6, c6, rfl, o6, b6⟩
    go_wp2_with fail
    go_ret2
    exact RetI.yes HOK.out (own_base o6 e_w3.size) (btrans e_w3 b6)
  · rw [okG_no hg] at HG
    have HN := Lib.hid hg
    clear hg
    go_enter Try.func21, Try.ntmps21
    go_wp2_with fail
    refine HG.out.mono ?_
    rintro e w1 ⟨rfl, b1⟩
    have e_w1 := btrans b0 b1
    go_wp2_with fail
    go_ret2
    exact RetI.nil HN.out e_w1
end Go.Proofs.Ytbjcfjgoedpgdaa.fronts
