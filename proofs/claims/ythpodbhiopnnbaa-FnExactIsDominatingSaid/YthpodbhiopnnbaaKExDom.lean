/- FnExactIsDominating returns true for every Graph and every list of numbers: the program's IsDominating and the model's return the same and write into nothing that was there. No conditions. -/
import Derived.Test.YthpodbhiopnnbaaK14
import Derived.Test.YthpodbhiopnnbaaK07
import Derived.Test.YthpodbhiopnnbaaRows
import Derived.ProofKit
import Derived.OpenShut
import Derived.ChangeOld
import Derived.Carry
namespace Go.Proofs.Ythpodbhiopnnbaa.exDom
open Go.ChangeShapes Go.WideShapes Go.ChangeAt Go.RowKit P2 words edges ints owns good adjs fns rets sets bags ups _root_.Go.Proofs.Ythpodbhiopnnbaa.opens
set_option linter.unusedVariables false

set_option maxHeartbeats 4000000 in
set_option maxRecDepth 100000 in
theorem core (s0 : Int) (A0 : Option Addr) (c0 : Nat) (l0 : List Ed) (A1 : Option Addr) (c1 : Nat) (l1 : List Int) (w : World) (h0 : Edges w (.slice A0 l0.length c0) l0) (hl0 : l0.length ≤ 1048576) (h1 : Ints w (.slice A1 l1.length c1) l1) (hl1 : l1.length ≤ 1048576)
    (HS : Hid (∀ (B0 : Option Addr) (d0 : Nat) (B1 : Option Addr) (d1 : Nat) (W : World), Edges W (.slice B0 l0.length d0) l0 → Ints W (.slice B1 l1.length d1) l1 → Calls Try.prog 10 #[.agg #[.int .i64 s0, .slice B0 l0.length d0], .slice B1 l1.length d1] W fun e W' => e = .returned (.tuple #[.bool (okG (DomP s0 l0 l1)), .bool (okG (SetOk s0 l0 l1))]) ∧ Below W.heap.size W W'))
    (HI : Hid (∀ (B0 : Option Addr) (d0 : Nat) (B1 : Option Addr) (d1 : Nat) (W : World), Edges W (.slice B0 l0.length d0) l0 → Ints W (.slice B1 l1.length d1) l1 → Calls Try.prog 13 #[.agg #[.int .i64 s0, .slice B0 l0.length d0], .slice B1 l1.length d1] W fun e W' => e = .returned (.tuple #[.bool (okG (DomP s0 l0 l1)), .bool (okG (SetOk s0 l0 l1))]) ∧ Below W.heap.size W W')) :
    Calls Try.prog 3 #[.agg #[.int .i64 s0, .slice A0 l0.length c0], .slice A1 l1.length c1] w fun e w' => e = .returned (.bool true) ∧ Below w.heap.size w w' := by
  have H0 := Lib.hid h0
  have H1 := Lib.hid h1
  have b0_0 : Below w.heap.size w (w.alloc (.cells #[.int .i64 s0, .slice A0 l0.length c0] 24)) := (Below.refl _ _).alloc (Nat.le_refl _) _
  have e0_0 : Below w.heap.size w (w.alloc (.cells #[.int .i64 s0, .slice A0 l0.length c0] 24)) := b0_0
  have g0 := Blk.new w 24 #[.int .i64 s0, .slice A0 l0.length c0]
  have z0_0 := Lib.hid b0_0.size
  have yag := Lib.hid g0.lt
  have hli1 : ((l1.length : Nat) : Int) ≤ 1048576 := by omega
  have hself : ∀ b : Bool, (b != b) = false := fun b => by simp
  have hselfi : ∀ b : Int, (b != b) = false := fun b => by simp
  clear h0 h1
  go_enter Try.func3, Try.ntmps3
  have hz0 : ((l0.length : Nat) : Int) ≤ 1048576 := by omega
  obtain ⟨pag0, pag1, -, -⟩ := g0.two
  go_wp2_with fail
  refine (szGraph_yes s0 (.slice A0 l0.length c0) l0 (1048576) (w.alloc (.cells #[.int .i64 s0, .slice A0 l0.length c0] 24)) (H0.out.below e0_0) (by omega) (by omega)).mono ?_
  rintro e w2 ⟨rfl, bw2⟩
  clear pag0 pag1
  have e0 := btrans e0_0 bw2
  have z0 := Lib.hid bw2.size
  replace g0 := g0.below bw2 g0.lt
  clear bw2
  obtain ⟨pag0, pag1, -, -⟩ := g0.two
  go_wp2_with fail
  refine (toGraph_any s0 (.slice A0 l0.length c0) l0 w2 (H0.out.below e0) hl0).mono ?_
  rintro e w3 ⟨Apg, cpg, rfl, opg, bw3⟩
  clear pag0 pag1
  have e1 := btrans e0 bw3
  have z1 := Lib.hid bw3.size
  replace g0 := g0.below bw3 g0.lt
  clear bw3 e0
  have opg_ := OwnR.new opg
  clear opg
  go_wp2_with fail
  refine (toIntS_any (.slice A1 l1.length c1) l1 w3 (H1.out.below e1) hl1).mono ?_
  rintro e w4 ⟨Apset, cpset, rfl, opset, bw4⟩
  have e2 := btrans e1 bw4
  have z2 := Lib.hid bw4.size
  replace g0 := g0.below bw4 g0.lt
  replace opg_ := opg_.below bw4
  clear bw4 e1
  have opset_ := OwnR.new opset
  clear opset
  go_wp2_with fail
  refine (HS.out Apg cpg Apset cpset w4 opg_.reads opset_.reads).mono ?_
  rintro e w5 ⟨rfl, bw5⟩
  have e3 := btrans e2 bw5
  have z3 := Lib.hid bw5.size
  replace g0 := g0.below bw5 g0.lt
  replace opg_ := opg_.below bw5
  replace opset_ := opset_.below bw5
  clear bw5 e2
  obtain ⟨pag0, pag1, -, -⟩ := g0.two
  go_wp2_with fail
  refine (toGraph_any s0 (.slice A0 l0.length c0) l0 w5 (H0.out.below e3) hl0).mono ?_
  rintro e w6 ⟨Axg, cxg, rfl, oxg, bw6⟩
  clear pag0 pag1
  have e4 := btrans e3 bw6
  have z4 := Lib.hid bw6.size
  replace g0 := g0.below bw6 g0.lt
  clear bw6 e3
  have oxg_ := OwnR.new oxg
  clear oxg
  have bxxg : Below w6.heap.size w6 (w6.alloc (.cells #[.int .i64 s0, .slice Axg l0.length cxg] 29)) := (Below.refl _ _).alloc (Nat.le_refl _) _
  have gxg := Blk.new w6 29 #[.int .i64 s0, .slice Axg l0.length cxg]
  have e5 := btrans e4 bxxg
  have z5 := Lib.hid bxxg.size
  replace g0 := g0.below bxxg g0.lt
  replace oxg_ := oxg_.below bxxg
  clear bxxg e4
  have yxg := Lib.hid gxg.lt
  go_wp2_with fail
  refine (toIntS_any (.slice A1 l1.length c1) l1 (w6.alloc (.cells #[.int .i64 s0, .slice Axg l0.length cxg] 29)) (H1.out.below e5) hl1).mono ?_
  rintro e w7 ⟨Axset, cxset, rfl, oxset, bw7⟩
  have e6 := btrans e5 bw7
  have z6 := Lib.hid bw7.size
  replace g0 := g0.below bw7 g0.lt
  replace gxg := gxg.below bw7 gxg.lt
  replace oxg_ := oxg_.below bw7
  clear bw7 e5
  have oxset_ := OwnR.new oxset
  clear oxset
  obtain ⟨pxg0, pxg1, -, -⟩ := gxg.two
  go_wp2_with fail
  refine (HI.out Axg cxg Axset cxset w7 oxg_.reads oxset_.reads).mono ?_
  rintro e w8 ⟨rfl, bw8⟩
  clear pxg0 pxg1
  have e7 := btrans e6 bw8
  have z7 := Lib.hid bw8.size
  replace g0 := g0.below bw8 g0.lt
  replace gxg := gxg.below bw8 gxg.lt
  replace oxg_ := oxg_.below bw8
  replace oxset_ := oxset_.below bw8
  clear bw8 e6
  obtain ⟨pag0, pag1, -, -⟩ := g0.two
  obtain ⟨pxg0, pxg1, -, -⟩ := gxg.two
  have HA := Lib.hid (H0.out.below e7)
  have HX := Lib.hid (oxg_.reads)
  go_wp2_with fail
  go_region_held3 (fun w' => w'.cell? ⟨w.heap.size, 0, none⟩ = some (.int .i64 s0) ∧ w'.cell? ⟨w.heap.size, 1, none⟩ = some (.slice A0 l0.length c0) ∧ w'.cell? ⟨w6.heap.size, 0, none⟩ = some (.int .i64 s0) ∧ w'.cell? ⟨w6.heap.size, 1, none⟩ = some (.slice Axg l0.length cxg)) (go_keep)
    (first | (go_at_call 11; refine (toGraph_k s0 (.slice A0 l0.length c0) l0 w8.drew HA.out hl0 (p := ⟨w.heap.size, 0, none⟩) (q := ⟨w.heap.size, 1, none⟩) (r := ⟨w6.heap.size, 0, none⟩) (t := ⟨w6.heap.size, 1, none⟩) (a := .int .i64 s0) (b := .slice A0 l0.length c0) (c := .int .i64 s0) (d := .slice Axg l0.length cxg) ?_ ?_ ?_ ?_).mono ?_; (simp [*]); (simp [*]); (simp [*]); (simp [*]); rintro e w9 ⟨⟨Ay, cy, rfl, oy⟩, k0, k1, k2, k3, bw9⟩)
           | (go_at_call 14; refine (eqGraph_k s0 _ _ l0 _ (Reads.below (w := w8.drew) HX.out bw9) (Reads.of_own oy) hl0 (p := ⟨w.heap.size, 0, none⟩) (q := ⟨w.heap.size, 1, none⟩) (r := ⟨w6.heap.size, 0, none⟩) (t := ⟨w6.heap.size, 1, none⟩) (a := .int .i64 s0) (b := .slice A0 l0.length c0) (c := .int .i64 s0) (d := .slice Axg l0.length cxg) ?_ ?_ ?_ ?_).mono ?_; (simp [*]); (simp [*]); (simp [*]); (simp [*]); rintro e w10 ⟨rfl, m0, m1, m2, m3, bw10⟩))
  clear k0 k1 k2 k3 m0 m1 m2 m3 HA HX oy
  clear pag0 pag1 pxg0 pxg1
  have cw9 : Below w8.heap.size w8 w9 := (Below.refl _ _).drew.trans bw9
  clear bw9
  have e8 := btrans e7 cw9
  have z8 := Lib.hid cw9.size
  replace g0 := g0.below cw9 g0.lt
  replace gxg := gxg.below cw9 gxg.lt
  replace oxg_ := oxg_.below cw9
  replace oxset_ := oxset_.below cw9
  clear cw9 e7
  have e9 := btrans e8 bw10
  have z9 := Lib.hid bw10.size
  replace g0 := g0.below bw10 g0.lt
  replace gxg := gxg.below bw10 gxg.lt
  replace oxg_ := oxg_.below bw10
  replace oxset_ := oxset_.below bw10
  clear bw10 e8
  go_wp2_with fail
  refine (toIntS_any (.slice A1 l1.length c1) l1 w10 (H1.out.below e9) hl1).mono ?_
  rintro e w11 ⟨Ayset, cyset, rfl, oyset, bw11⟩
  have e10 := btrans e9 bw11
  have z10 := Lib.hid bw11.size
  replace g0 := g0.below bw11 g0.lt
  replace gxg := gxg.below bw11 gxg.lt
  replace oxg_ := oxg_.below bw11
  replace oxset_ := oxset_.below bw11
  clear bw11 e9
  have oyset_ := OwnR.new oyset
  clear oyset
  go_wp2_with fail
  refine (eqIntS_own _ _ l1 w11 oxset_.reads oyset_.reads hl1).mono ?_
  rintro e w12 ⟨rfl, bw12⟩
  have e11 := btrans e10 bw12
  have z11 := Lib.hid bw12.size
  replace g0 := g0.below bw12 g0.lt
  replace gxg := gxg.below bw12 gxg.lt
  replace oxg_ := oxg_.below bw12
  replace oxset_ := oxset_.below bw12
  replace oyset_ := oyset_.below bw12
  clear bw12 e10
  clear oyset_
  go_wp2_with fail
  go_ret
  exact ⟨rfl, e11⟩

set_option maxHeartbeats 1000000 in
set_option maxRecDepth 100000 in
theorem walk (s0 : Int) (u0 : Value) (l0 : List Ed) (u1 : Value) (l1 : List Int) (w : World) (w0 : IsGr w s0 u0 l0) (w1 : IsIn w u1 l1) :
    Calls Try.prog 3 #[.agg #[.int .i64 s0, u0], u1] w fun e w' => e = .returned (.bool true) ∧ Below w.heap.size w w' := by
  obtain ⟨h0, hm0, hs0, ht0⟩ := w0
  obtain ⟨A0, c0, rfl, -⟩ := h0.form
  unfold maxLen at hm0
  obtain ⟨h1, hm1, hi1⟩ := w1
  obtain ⟨A1, c1, rfl, -⟩ := h1.form
  unfold maxLen at hm1
  by_cases hl1 : l1.length ≤ 1048576
  rotate_left
  · have hlt : (1048576 : Int) < (l1.length : Int) := by omega
    clear h1
    go_enter Try.func3, Try.ntmps3
    go_wp2_with fail
    go_ret
    refine ⟨rfl, ?_⟩
    repeat refine Below.alloc ?_ (by first | exact Nat.le_refl _ | (simp only [World.size_alloc]; omega)) _
    exact Below.refl _ _
  have b0_0 : Below w.heap.size w (w.alloc (.cells #[.int .i64 s0, .slice A0 l0.length c0] 24)) := (Below.refl _ _).alloc (Nat.le_refl _) _
  have e0_0 : Below w.heap.size w (w.alloc (.cells #[.int .i64 s0, .slice A0 l0.length c0] 24)) := b0_0
  have g0 := Blk.new w 24 #[.int .i64 s0, .slice A0 l0.length c0]
  by_cases hl0 : l0.length ≤ 1048576
  rotate_left
  · have hlt : (1048576 : Int) < (l0.length : Int) := by omega
    have HZ := Lib.hid (szGraph_no s0 (.slice A0 l0.length c0) l0 1048576 _ (h0.below e0_0) hlt (by omega) (by omega))
    clear h0 h1
    obtain ⟨p0, p1, -, -⟩ := g0.two
    go_enter Try.func3, Try.ntmps3
    go_wp2_with fail
    refine HZ.out.mono ?_
    rintro e w1 ⟨rfl, b1⟩
    go_wp2_with fail
    go_ret
    exact ⟨rfl, btrans e0_0 b1⟩
  exact core s0 A0 c0 l0 A1 c1 l1 w h0 hl0 h1 hl1 (Lib.hid (fun B0 B1 d0 d1 W k0 k1 => specIsDom_any s0 _ _ l0 l1 W k0 hl0 k1 hl1 hs0 ht0)) (Lib.hid (fun B0 B1 d0 d1 W k0 k1 => implIsDom_any s0 _ _ l0 l1 W k0 hl0 k1 hl1))

theorem own : ownKnob Try.prog.godebug = none := by kernel_rfl
theorem laidOut : laidOutB Try.prog = true := by kernel_rfl

set_option maxHeartbeats 1000000 in
set_option maxRecDepth 100000 in
theorem lifted (os : Os) (started : os.Started) (H : Type) (enc : TypeId × Value → H) :
    ReturnsInHanded {} Try.checked os 3 .any (Rows.fnExactIsDominatingSpec.pre6 enc Try.prog Try.f3 Rows.fnExactIsDominatingRow.domain false) (Rows.fnExactIsDominatingSpec.post enc Try.prog Try.f3 false true false false) := by
  refine returnsInHanded_of_change (C := Try.checked) own started (by kernel_rfl) Try.func3
    (ChangeSpec.witness6 (enc := enc) (C := Try.checked) false ⟨#[], #[.agg #[.int .i64 0, .slice none 0 0], .slice none 0 0], []⟩ 8 (by kernel_rfl) (by kernel_rfl) (by kernel_rfl) (by kernel_rfl)) ?_
  intro W base args ds gs before hval0 hW hcnd _
  have hval : ∀ (j : Nat) t v, Try.f3.params[j]? = some t → args[j]? = some v → Value.okWide Try.prog W .any base t v := hval0
  have hW' := hW
  obtain ⟨p, q, hA0, hV, rfl, hfz, hnd⟩ := hW
  have hA : DataW.TrodAll enc Try.prog W 0 (fun _ => true) true Try.f3.params.toList args.toList ds p := hA0
  rw [Try.params3] at hA hval
  obtain ⟨v0, vs0, d0, ds0, p0, q0, hargs, rfl, rfl, h0, r0⟩ := trodAll_cons hA
  obtain ⟨v1, vs1, d1, ds1, p1, q1, rfl, rfl, rfl, h1, r1⟩ := trodAll_cons r0
  obtain ⟨rfl, rfl, rfl⟩ := trodAll_nil r1
  obtain rfl : args = #[v0, v1] := by cases args; simp_all
  obtain ⟨rfl, rfl⟩ := trodVars_none hV
  have k0 := h0
  have lt0 : ∀ x ∈ p0, x.block < W.heap.size := by obtain ⟨m, hm⟩ := k0; exact DataW.trod_lt m _ _ _ hm
  obtain ⟨s0, u0, l0, rfl, w0⟩ := opens.open_graph (hval 0 24 v0 rfl rfl) h0
  have k1 := h1
  have lt1 : ∀ x ∈ p1, x.block < W.heap.size := by obtain ⟨m, hm⟩ := k1; exact DataW.trod_lt m _ _ _ hm
  obtain ⟨u1, l1, rfl, w1⟩ := opens.open_intsl (hval 1 25 v1 rfl rfl) h1
  clear hA0 hval0
  refine (walk s0 u0 l0 v1 l1 W w0 w1).mono fun e W' ⟨he, bel⟩ => ?_
  subst he
  exact ⟨_, rfl, _, _, _, [], _, [], hW', trodAll_mk1 (shut_bool Try.underlying4 _), (trodAll_cons_mk (Below.trod laidOut (by kernel_rfl) (of_decide_eq_true (by kernel_rfl)) k0 bel lt0) (trodAll_cons_mk (Below.trod laidOut (by kernel_rfl) (of_decide_eq_true (by kernel_rfl)) k1 bel lt1) trodAll_mk0)), rfl, bel.frame _, fun h => by cases h⟩

theorem over : Rows.fnExactIsDominatingRow.holds Try.pinned (OpenSpec.ofChange Rows.fnExactIsDominatingSpec) :=
  OpenClaim.holds_of_wide 3 Try.f3 rfl rfl rfl rfl rfl rfl rfl ⟨rfl, rfl, rfl, rfl, rfl⟩ rfl rfl rfl rfl rfl (by kernel_rfl) Try.func3 (by kernel_rfl)
    (of_decide_eq_true (by kernel_rfl)) (by unfold Func.isWrapper; first | (rw [if_pos (by decide +kernel)]; kernel_rfl) | (rw [if_neg (by decide +kernel)]; exact ⟨rfl, rfl⟩))
    (fun os started H enc _ => lifted os started H enc)

theorem fnExactIsDominating_holds : Rows.FnExactIsDominatingSaid := over
end Go.Proofs.Ythpodbhiopnnbaa.exDom
