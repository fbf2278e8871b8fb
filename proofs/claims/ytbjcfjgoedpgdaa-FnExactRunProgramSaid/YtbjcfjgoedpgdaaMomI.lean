/- The contracts of the program's outset and after. -/
import Derived.Handy
import Derived.Test.YtbjcfjgoedpgdaaMomM
import Derived.Test.YtbjcfjgoedpgdaaFrontI
import Derived.Test.YtbjcfjgoedpgdaaElim
import Derived.Laws.BitsAllLaws
import Derived.Deep.QuietTactic
namespace Go.Proofs.Ytbjcfjgoedpgdaa.moms
open Go.RowKit P2 words edges ints good near adjs fns sets rets covs reach bags bitsI fronts
set_option linter.unusedVariables false

theorem xor_num (S : Nat → Bool) {n x : Nat} (hn : n ≤ 8) (hx : x < n) : bits .xor .u64 ((numOf S n : Nat) : Int) (IntKind.u64.wrap ((2 : Int) ^ x)) = ((numOf (flip S x) n : Nat) : Int) := by
  have h1 := numOf_lt S hn
  have h2 : 2 ^ x ≤ 128 := by have := Nat.pow_le_pow_right (show 0 < 2 by decide) (show x ≤ 7 by omega); simpa using this
  rw [wrap_pow (by omega), bits_xor_u64_nat _ _ (by omega) (by omega)]
  congr 1
  apply Nat.eq_of_testBit_eq
  intro i
  rw [Nat.testBit_xor, numOf_bit, numOf_bit, Nat.testBit_two_pow]
  unfold flip
  by_cases e : i = x
  · subst e; simp [hx]
  · have h9 : ¬ x = i := fun h => e h.symm
    simp [e, h9]
theorem spr_and (S U : Nat → Bool) {n : Nat} (hn : n ≤ 8) : bits .and .u64 ((numOf U n : Nat) : Int) ((numOf (fun z => !S z) n : Nat) : Int) = ((numOf (fun z => U z && !S z) n : Nat) : Int) := by
  have h1 := numOf_lt U hn
  have h2 := numOf_lt (fun z => !S z) hn
  rw [bits_and_u64_nat _ _ (by omega) (by omega), num_and]
def momV (a b : Nat) : Value := .agg #[.int .u64 (a : Int), .int .u64 (b : Int)]
set_option maxHeartbeats 2000000 in
set_option maxRecDepth 100000 in
theorem after_yes (n : Nat) (S U : Nat → Bool) (st : Int) (v : Value) (l : List Ed) (w : World) (h : Nums w v (clos l n)) (hg : P2.Good (n : Int) l) (hn : n ≤ 8) (ho : StepOk n S st) :
    Calls Try.prog 87 #[.agg #[.int .u64 (numOf S n : Int), .int .u64 (numOf U n : Int)], v, .int .i64 st] w fun e w' =>
      e = .returned (.tuple #[.agg #[.int .u64 (numOf (flip S (xOf st)) n : Int), .int .u64 (numOf (spr n l (flip S (xOf st)) U) n : Int)], .bool true]) ∧ Below w.heap.size w w' := by
  obtain ⟨A, c, rfl, -⟩ := h.form
  have hcl := clos_len l n
  have hb0 : Below w.heap.size w ((w.alloc (.cells #[.int .u64 (numOf S n : Int), .int .u64 (numOf U n : Int)] 71)).alloc (.cells #[.int .u64 0, .int .u64 0] 71)) := ((Below.refl _ _).alloc (Nat.le_refl _) _).alloc (by simp) _
  have HCO := Lib.hid (fun (W : World) (hW : Below w.heap.size w W) => connectedIn_any n (fun z => !(flip S (xOf st)) z) (fun z => U z && !(flip S (xOf st)) z) _ l W (h.below hW) hg hn (fun z _ hz => by rw [Bool.and_eq_true] at hz; exact hz.2))
  have HHS := Lib.hid (fun (W : World) => has_any (numOf S n) (xOf st) W (by have := numOf_lt S hn; omega) (by have := ho.1; omega))
  rw [numOf_bit] at HHS
  have hxn := ho.1
  have hS := ho.2
  rw [hS, show decide (xOf st < n) = true from decide_eq_true hxn, Bool.true_and] at HHS
  rw [hcl] at HCO ⊢
  have hxor := xor_num S hn hxn
  have hsh := shl_all hn
  have hab := all_but (flip S (xOf st)) hn
  have hand := spr_and (flip S (xOf st)) U hn
  obtain ⟨p0, p1, p2, p3⟩ := ((Blk.new w 71 #[.int .u64 (numOf S n : Int), .int .u64 (numOf U n : Int)]).alloc (.cells #[.int .u64 0, .int .u64 0] 71)).two
  have hxl : (xOf st : Int) < (n : Int) := by omega
  have hx0 : (0 : Int) ≤ (xOf st : Int) := by omega
  have hxg : ¬ (n : Int) ≤ (xOf st : Int) := by omega
  have HB0 := Lib.hid hb0
  have HR : Hid (numOf (connB n (J2 l) (fun z => !(flip S (xOf st)) z) (fun z => U z && !(flip S (xOf st)) z)) n = numOf (spr n l (flip S (xOf st)) U) n) := rfl
  rw [HR.out] at HCO
  clear h hg ho hcl hb0 hS hxn
  by_cases h0 : 0 ≤ st
  · have hst := xOf_pos h0
    have hd : decide (st < 0) = false := decide_eq_false (by omega)
    rw [hd] at HHS
    have hw : IntKind.i64.wrap (-1 - (xOf st : Int)) = -1 - (xOf st : Int) := IntWalk.i64_in _ (by omega)
    have hm : ¬ ((xOf st : Int) < -1 - (xOf st : Int)) := by omega
    have hm2 : ¬ ((xOf st : Int) < 0) := by omega
    have hm3 : ¬ (-1 - (xOf st : Int) > (xOf st : Int)) := by omega
    have e9 : xOf (xOf st : Int) = xOf st := by unfold xOf; omega
    rw [← hst]
    rw [e9]
    clear hd h0 hst e9 HR
    generalize numOf (spr n l (flip S (xOf st)) U) n = r1 at *
    generalize numOf (fun z => U z && !(flip S (xOf st)) z) n = r2 at *
    generalize numOf (fun z => !(flip S (xOf st)) z) n = r3 at *
    generalize numOf (flip S (xOf st)) n = r4 at *
    generalize numOf (fun _ => true) n = r5 at *
    generalize numOf S n = r6 at *
    generalize numOf U n = r7 at *
    generalize xOf st = x at *
    go_enter Try.func87, Try.ntmps87
    go_wp2_with fail
    refine (HHS.out _).mono ?_
    rintro e w' ⟨rfl, rfl⟩
    go_wp2_with fail
    go_quiet (fail)
    go_wp2_with fail
    refine (HCO.out _ (below_drewN HB0.out nq)).mono ?_
    rintro e w' ⟨rfl, rfl⟩
    have HB1 := Lib.hid (below_drewN HB0.out nq)
    have g1 := ((Blk.new (w.alloc (.cells #[.int .u64 (r6 : Int), .int .u64 (r7 : Int)] 71)) 71 #[.int .u64 0, .int .u64 0]).drewN nq)
    rw [World.size_alloc] at g1
    generalize ((w.alloc (.cells #[.int .u64 (r6 : Int), .int .u64 (r7 : Int)] 71)).alloc (.cells #[.int .u64 0, .int .u64 0] 71)).drewN nq = w9 at *
    obtain ⟨q0, q1, z0, z1⟩ := g1.two
    clear p0 p1 p2 p3 HB0
    go_wp2_with fail
    refine bodyPost_ret (v := .tuple #[.agg #[.int .u64 (r4 : Int), .int .u64 (r1 : Int)], .bool true]) (by simp [results, Try.results87, go_sem, q0, q1]) rfl ⟨rfl, ?_⟩
    exact (HB1.out.setCell (by simp) _).setCell (by simp) _
  · have hst := xOf_neg (st := st) (by omega)
    have hd : decide (st < 0) = true := decide_eq_true (by omega)
    rw [hd] at HHS
    have hw : IntKind.i64.wrap (-1 - st) = (xOf st : Int) := by rw [← hst]; exact IntWalk.i64_in _ (by omega)
    have hm : st < (xOf st : Int) := by omega
    have hm2 : st < 0 := by omega
    have hm3 : ¬ (st > (xOf st : Int)) := by omega
    clear h0 hst HR
    generalize numOf (spr n l (flip S (xOf st)) U) n = r1 at *
    generalize numOf (fun z => U z && !(flip S (xOf st)) z) n = r2 at *
    generalize numOf (fun z => !(flip S (xOf st)) z) n = r3 at *
    generalize numOf (flip S (xOf st)) n = r4 at *
    generalize numOf (fun _ => true) n = r5 at *
    generalize numOf S n = r6 at *
    generalize numOf U n = r7 at *
    generalize xOf st = x at *
    go_enter Try.func87, Try.ntmps87
    go_wp2_with fail
    refine (HHS.out _).mono ?_
    rintro e w' ⟨rfl, rfl⟩
    go_wp2_with fail
    go_quiet (fail)
    go_wp2_with fail
    refine (HCO.out _ (below_drewN HB0.out nq)).mono ?_
    rintro e w' ⟨rfl, rfl⟩
    have HB1 := Lib.hid (below_drewN HB0.out nq)
    have g1 := ((Blk.new (w.alloc (.cells #[.int .u64 (r6 : Int), .int .u64 (r7 : Int)] 71)) 71 #[.int .u64 0, .int .u64 0]).drewN nq)
    rw [World.size_alloc] at g1
    generalize ((w.alloc (.cells #[.int .u64 (r6 : Int), .int .u64 (r7 : Int)] 71)).alloc (.cells #[.int .u64 0, .int .u64 0] 71)).drewN nq = w9 at *
    obtain ⟨q0, q1, z0, z1⟩ := g1.two
    clear p0 p1 p2 p3 HB0
    go_wp2_with fail
    refine bodyPost_ret (v := .tuple #[.agg #[.int .u64 (r4 : Int), .int .u64 (r1 : Int)], .bool true]) (by simp [results, Try.results87, go_sem, q0, q1]) rfl ⟨rfl, ?_⟩
    exact (HB1.out.setCell (by simp) _).setCell (by simp) _
set_option maxHeartbeats 2000000 in
set_option maxRecDepth 100000 in
theorem after_no (n : Nat) (S U : Nat → Bool) (st : Int) (v : Value) (l : List Ed) (w : World) (h : Nums w v (clos l n)) (hn : n ≤ 8) (h64 : In64 st) (ho : ¬ StepOk n S st) :
    Calls Try.prog 87 #[.agg #[.int .u64 (numOf S n : Int), .int .u64 (numOf U n : Int)], v, .int .i64 st] w fun e w' =>
      e = .returned (.tuple #[.agg #[.int .u64 0, .int .u64 0], .bool false]) ∧ Below w.heap.size w w' := by
  obtain ⟨A, c, rfl, -⟩ := h.form
  have hcl := clos_len l n
  have hb0 : Below w.heap.size w ((w.alloc (.cells #[.int .u64 (numOf S n : Int), .int .u64 (numOf U n : Int)] 71)).alloc (.cells #[.int .u64 0, .int .u64 0] 71)) := ((Below.refl _ _).alloc (Nat.le_refl _) _).alloc (by simp) _
  obtain ⟨p0, p1, p2, p3⟩ := ((Blk.new w 71 #[.int .u64 (numOf S n : Int), .int .u64 (numOf U n : Int)]).alloc (.cells #[.int .u64 0, .int .u64 0] 71)).two
  have g1 := (Blk.new (w.alloc (.cells #[.int .u64 (numOf S n : Int), .int .u64 (numOf U n : Int)] 71)) 71 #[.int .u64 0, .int .u64 0])
  rw [World.size_alloc] at g1
  obtain ⟨q0, q1, z0, z1⟩ := g1.two
  have HB0 := Lib.hid hb0
  rw [hcl]
  have hx64 : (xOf st : Int) ≤ 9223372036854775807 := by unfold In64 at h64; unfold xOf; omega
  clear h hcl hb0 g1
  by_cases hxn : xOf st < n
  · have HHS := Lib.hid (fun (W : World) => has_any (numOf S n) (xOf st) W (by have := numOf_lt S hn; omega) (by omega))
    rw [numOf_bit, show decide (xOf st < n) = true from decide_eq_true hxn, Bool.true_and] at HHS
    have hS : S (xOf st) = !decide (st < 0) := by
      cases hs : S (xOf st) <;> cases hd : decide (st < 0) <;> first | rfl | exact absurd ⟨hxn, by rw [hs, hd]⟩ ho
    rw [hS] at HHS
    have hxl : (xOf st : Int) < (n : Int) := by omega
    have hx0 : (0 : Int) ≤ (xOf st : Int) := by omega
    have hxg : ¬ (n : Int) ≤ (xOf st : Int) := by omega
    clear ho hS hxn
    by_cases h0 : 0 ≤ st
    · have hst := xOf_pos h0
      have hd : decide (st < 0) = false := decide_eq_false (by omega)
      rw [hd] at HHS
      have hw : IntKind.i64.wrap (-1 - (xOf st : Int)) = -1 - (xOf st : Int) := IntWalk.i64_in _ (by omega)
      have hm : ¬ ((xOf st : Int) < -1 - (xOf st : Int)) := by omega
      have hm2 : ¬ ((xOf st : Int) < 0) := by omega
      have hm3 : ¬ (-1 - (xOf st : Int) > (xOf st : Int)) := by omega
      rw [← hst]
      clear hd h0 hst
      generalize numOf S n = r6 at *
      generalize numOf U n = r7 at *
      generalize xOf st = x at *
      go_enter Try.func87, Try.ntmps87
      go_wp2_with fail
      refine (HHS.out _).mono ?_
      rintro e w' ⟨rfl, rfl⟩
      go_wp2_with fail
      refine bodyPost_ret (v := .tuple #[.agg #[.int .u64 0, .int .u64 0], .bool false]) (by simp [results, Try.results87, go_sem, q0, q1]) rfl ⟨rfl, ?_⟩
      exact HB0.out
    · have hst := xOf_neg (st := st) (by omega)
      have hd : decide (st < 0) = true := decide_eq_true (by omega)
      rw [hd] at HHS
      have hw : IntKind.i64.wrap (-1 - st) = (xOf st : Int) := by rw [← hst]; exact IntWalk.i64_in _ (by omega)
      have hm : st < (xOf st : Int) := by omega
      have hm2 : st < 0 := by omega
      have hm3 : ¬ (st > (xOf st : Int)) := by omega
      clear h0 hst
      generalize numOf S n = r6 at *
      generalize numOf U n = r7 at *
      generalize xOf st = x at *
      go_enter Try.func87, Try.ntmps87
      go_wp2_with fail
      refine (HHS.out _).mono ?_
      rintro e w' ⟨rfl, rfl⟩
      go_wp2_with fail
      refine bodyPost_ret (v := .tuple #[.agg #[.int .u64 0, .int .u64 0], .bool false]) (by simp [results, Try.results87, go_sem, q0, q1]) rfl ⟨rfl, ?_⟩
      exact HB0.out
  · have hx0 : (0 : Int) ≤ (xOf st : Int) := by omega
    have hxg : (n : Int) ≤ (xOf st : Int) := by omega
    clear ho hxn
    by_cases h0 : 0 ≤ st
    · have hst := xOf_pos h0
      have hd : decide (st < 0) = false := decide_eq_false (by omega)
      have hw : IntKind.i64.wrap (-1 - (xOf st : Int)) = -1 - (xOf st : Int) := IntWalk.i64_in _ (by omega)
      have hm : ¬ ((xOf st : Int) < -1 - (xOf st : Int)) := by omega
      have hm2 : ¬ ((xOf st : Int) < 0) := by omega
      have hm3 : ¬ (-1 - (xOf st : Int) > (xOf st : Int)) := by omega
      rw [← hst]
      clear hd h0 hst
      generalize numOf S n = r6 at *
      generalize numOf U n = r7 at *
      generalize xOf st = x at *
      go_enter Try.func87, Try.ntmps87
      go_wp2_with fail
      refine bodyPost_ret (v := .tuple #[.agg #[.int .u64 0, .int .u64 0], .bool false]) (by simp [results, Try.results87, go_sem, q0, q1]) rfl ⟨rfl, ?_⟩
      exact HB0.out
    · have hst := xOf_neg (st := st) (by omega)
      have hd : decide (st < 0) = true := decide_eq_true (by omega)
      have hw : IntKind.i64.wrap (-1 - st) = (xOf st : Int) := by rw [← hst]; exact IntWalk.i64_in _ (by omega)
      have hm : st < (xOf st : Int) := by omega
      have hm2 : st < 0 := by omega
      have hm3 : ¬ (st > (xOf st : Int)) := by omega
      clear h0 hst
      generalize numOf S n = r6 at *
      generalize numOf U n = r7 at *
      generalize xOf st = x at *
      go_enter Try.func87, Try.ntmps87
      go_wp2_with fail
      refine bodyPost_ret (v := .tuple #[.agg #[.int .u64 0, .int .u64 0], .bool false]) (by simp [results, Try.results87, go_sem, q0, q1]) rfl ⟨rfl, ?_⟩
      exact HB0.out
end Go.Proofs.Ytbjcfjgoedpgdaa.moms
