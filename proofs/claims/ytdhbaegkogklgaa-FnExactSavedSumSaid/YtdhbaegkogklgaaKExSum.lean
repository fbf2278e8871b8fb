/- FnExactSavedSum returns true for every Graph and every number: the program's SavedSum and the model's return the same, and write into nothing that was there. No conditions. -/
import Derived.Test.YtdhbaegkogklgaaKExSum0
import Derived.Test.YtdhbaegkogklgaaK07
import Derived.Test.YtdhbaegkogklgaaK18
import Derived.Test.YtdhbaegkogklgaaRows
import Derived.ProofKit
import Derived.OpenShut
import Derived.ChangeOld
import Derived.Carry
namespace Go.Proofs.Ytdhbaegkogklgaa.exSum
open Go.ChangeShapes Go.WideShapes Go.ChangeAt Go.RowKit P2 words edges ints owns good adjs fns rets sets bags fires _root_.Go.Proofs.Ytdhbaegkogklgaa.opens
set_option linter.unusedVariables false

set_option maxHeartbeats 4000000 in
set_option maxRecDepth 100000 in
theorem core (s0 : Int) (A0 : Option Addr) (c0 : Nat) (l0 : List Ed) (x1 : Int) (w : World) (h0 : Edges w (.slice A0 l0.length c0) l0) (hl0 : l0.length ≤ 1048576)
    (HS : Hid (∀ (B0 : Option Addr) (d0 : Nat) (W : World), Edges W (.slice B0 l0.length d0) l0 → Calls Try.prog 28 #[.agg #[.int .i64 s0, .slice B0 l0.length d0], .int .i64 x1] W fun e W' => e = .returned (.tuple #[.int .i64 (szG (SumP s0 l0 x1) (sumV s0 l0 x1)), .bool (okG (SumP s0 l0 x1))]) ∧ Below W.heap.size W W'))
    (HI : Hid (∀ (B0 : Option Addr) (d0 : Nat) (W : World), Edges W (.slice B0 l0.length d0) l0 → Calls Try.prog 29 #[.agg #[.int .i64 s0, .slice B0 l0.length d0], .int .i64 x1] W fun e W' => e = .returned (.tuple #[.int .i64 (szG (SumP s0 l0 x1) (sumV s0 l0 x1)), .bool (okG (SumP s0 l0 x1))]) ∧ Below W.heap.size W W')) :
    Calls Try.prog 7 #[.agg #[.int .i64 s0, .slice A0 l0.length c0], .int .i64 x1] w fun e w' => e = .returned (.bool true) ∧ Below w.heap.size w w' := by
  have H0 := Lib.hid h0
  have b0_0 : Below w.heap.size w (w.alloc (.cells #[.int .i64 s0, .slice A0 l0.length c0] 24)) := (Below.refl _ _).alloc (Nat.le_refl _) _
  have e0_0 : Below w.heap.size w (w.alloc (.cells #[.int .i64 s0, .slice A0 l0.length c0] 24)) := b0_0
  have g0 := Blk.new w 24 #[.int .i64 s0, .slice A0 l0.length c0]
  have z0_0 := Lib.hid b0_0.size
  have yag := Lib.hid g0.lt
  have hself : ∀ b : Bool, (b != b) = false := fun b => by simp
  have hselfi : ∀ b : Int, (b != b) = false := fun b => by simp
  clear h0
  go_enter Try.func7, Try.ntmps7
  have hz0 : ((l0.length : Nat) : Int) ≤ 1048576 := by omega
  obtain ⟨pag0, pag1, -, -⟩ := g0.two
  go_wp2_with fail
  refine (szGraph_yes s0 (.slice A0 l0.length c0) l0 (1048576) (w.alloc (.cells #[.int .i64 s0, .slice A0 l0.length c0] 24)) (H0.out.below e0_0) (by omega) (by omega)).mono ?_
  rintro e w2 ⟨rfl, bw2⟩
  clear pag0 pag1
  have e0 := btrans e0_0 bw2
  have z0 := Lib.hid bw2.size
  replace g0 := g0.below bw2 g0.lt
  clear bw2
  obtain ⟨pag0, pag1, -, -⟩ := g0.two
  go_wp2_with fail
  refine (toGraph_any s0 (.slice A0 l0.length c0) l0 w2 (H0.out.below e0) hl0).mono ?_
  rintro e w3 ⟨Apg, cpg, rfl, opg, bw3⟩
  clear pag0 pag1
  have e1 := btrans e0 bw3
  have z1 := Lib.hid bw3.size
  replace g0 := g0.below bw3 g0.lt
  clear bw3 e0
  have opg_ := OwnR.new opg
  clear opg
  go_wp2_with fail
  refine (HS.out Apg cpg w3 opg_.reads).mono ?_
  rintro e w4 ⟨rfl, bw4⟩
  have e2 := btrans e1 bw4
  have z2 := Lib.hid bw4.size
  replace g0 := g0.below bw4 g0.lt
  replace opg_ := opg_.below bw4
  clear bw4 e1
  obtain ⟨pag0, pag1, -, -⟩ := g0.two
  go_wp2_with fail
  refine (toGraph_any s0 (.slice A0 l0.length c0) l0 w4 (H0.out.below e2) hl0).mono ?_
  rintro e w5 ⟨Axg, cxg, rfl, oxg, bw5⟩
  clear pag0 pag1
  have e3 := btrans e2 bw5
  have z3 := Lib.hid bw5.size
  replace g0 := g0.below bw5 g0.lt
  clear bw5 e2
  have oxg_ := OwnR.new oxg
  clear oxg
  have bxxg : Below w5.heap.size w5 (w5.alloc (.cells #[.int .i64 s0, .slice Axg l0.length cxg] 30)) := (Below.refl _ _).alloc (Nat.le_refl _) _
  have gxg := Blk.new w5 30 #[.int .i64 s0, .slice Axg l0.length cxg]
  have e4 := btrans e3 bxxg
  have z4 := Lib.hid bxxg.size
  replace g0 := g0.below bxxg g0.lt
  replace oxg_ := oxg_.below bxxg
  clear bxxg e3
  have yxg := Lib.hid gxg.lt
  obtain ⟨pxg0, pxg1, -, -⟩ := gxg.two
  go_wp2_with fail
  refine (HI.out Axg cxg (w5.alloc (.cells #[.int .i64 s0, .slice Axg l0.length cxg] 30)) oxg_.reads).mono ?_
  rintro e w6 ⟨rfl, bw6⟩
  clear pxg0 pxg1
  have e5 := btrans e4 bw6
  have z5 := Lib.hid bw6.size
  replace g0 := g0.below bw6 g0.lt
  replace gxg := gxg.below bw6 gxg.lt
  replace oxg_ := oxg_.below bw6
  clear bw6 e4
  obtain ⟨pag0, pag1, -, -⟩ := g0.two
  obtain ⟨pxg0, pxg1, -, -⟩ := gxg.two
  have HA := Lib.hid (H0.out.below e5)
  have HX := Lib.hid (oxg_.reads)
  go_wp2_with fail
  go_region_held3 (fun w' => w'.cell? ⟨w.heap.size, 0, none⟩ = some (.int .i64 s0) ∧ w'.cell? ⟨w.heap.size, 1, none⟩ = some (.slice A0 l0.length c0) ∧ w'.cell? ⟨w5.heap.size, 0, none⟩ = some (.int .i64 s0) ∧ w'.cell? ⟨w5.heap.size, 1, none⟩ = some (.slice Axg l0.length cxg)) (go_keep)
    (first | (go_at_call 12; refine (toGraph_k s0 (.slice A0 l0.length c0) l0 w6.drew HA.out hl0 (p := ⟨w.heap.size, 0, none⟩) (q := ⟨w.heap.size, 1, none⟩) (r := ⟨w5.heap.size, 0, none⟩) (t := ⟨w5.heap.size, 1, none⟩) (a := .int .i64 s0) (b := .slice A0 l0.length c0) (c := .int .i64 s0) (d := .slice Axg l0.length cxg) ?_ ?_ ?_ ?_).mono ?_; (simp [*]); (simp [*]); (simp [*]); (simp [*]); rintro e w7 ⟨⟨Ay, cy, rfl, oy⟩, k0, k1, k2, k3, bw7⟩)
           | (go_at_call 16; refine (eqGraph_k s0 _ _ l0 _ (Reads.below (w := w6.drew) HX.out bw7) (Reads.of_own oy) hl0 (p := ⟨w.heap.size, 0, none⟩) (q := ⟨w.heap.size, 1, none⟩) (r := ⟨w5.heap.size, 0, none⟩) (t := ⟨w5.heap.size, 1, none⟩) (a := .int .i64 s0) (b := .slice A0 l0.length c0) (c := .int .i64 s0) (d := .slice Axg l0.length cxg) ?_ ?_ ?_ ?_).mono ?_; (simp [*]); (simp [*]); (simp [*]); (simp [*]); rintro e w8 ⟨rfl, m0, m1, m2, m3, bw8⟩))
  clear k0 k1 k2 k3 m0 m1 m2 m3 HA HX oy
  clear pag0 pag1 pxg0 pxg1
  have cw7 : Below w6.heap.size w6 w7 := (Below.refl _ _).drew.trans bw7
  clear bw7
  have e6 := btrans e5 cw7
  have z6 := Lib.hid cw7.size
  replace g0 := g0.below cw7 g0.lt
  replace gxg := gxg.below cw7 gxg.lt
  replace oxg_ := oxg_.below cw7
  clear cw7 e5
  have e7 := btrans e6 bw8
  have z7 := Lib.hid bw8.size
  replace g0 := g0.below bw8 g0.lt
  replace gxg := gxg.below bw8 gxg.lt
  replace oxg_ := oxg_.below bw8
  clear bw8 e6
  go_wp2_with fail
  go_ret
  exact ⟨rfl, e7⟩

set_option maxHeartbeats 1000000 in
set_option maxRecDepth 100000 in
theorem walk (s0 : Int) (u0 : Value) (l0 : List Ed) (x1 : Int) (w : World) (w0 : IsGr w s0 u0 l0) (w1 : (Lit.int .i64 x1).wf = true) :
    Calls Try.prog 7 #[.agg #[.int .i64 s0, u0], .int .i64 x1] w fun e w' => e = .returned (.bool true) ∧ Below w.heap.size w w' := by
  obtain ⟨h0, hm0, hs0, ht0⟩ := w0
  obtain ⟨A0, c0, rfl, -⟩ := h0.form
  unfold maxLen at hm0
  have hb1 := opens.bounds64 w1
  clear w1
  have b0_0 : Below w.heap.size w (w.alloc (.cells #[.int .i64 s0, .slice A0 l0.length c0] 24)) := (Below.refl _ _).alloc (Nat.le_refl _) _
  have e0_0 : Below w.heap.size w (w.alloc (.cells #[.int .i64 s0, .slice A0 l0.length c0] 24)) := b0_0
  have g0 := Blk.new w 24 #[.int .i64 s0, .slice A0 l0.length c0]
  by_cases hl0 : l0.length ≤ 1048576
  rotate_left
  · have hlt : (1048576 : Int) < (l0.length : Int) := by omega
    have HZ := Lib.hid (szGraph_no s0 (.slice A0 l0.length c0) l0 1048576 _ (h0.below e0_0) hlt (by omega) (by omega))
    clear h0
    obtain ⟨p0, p1, -, -⟩ := g0.two
    go_enter Try.func7, Try.ntmps7
    go_wp2_with fail
    refine HZ.out.mono ?_
    rintro e w1 ⟨rfl, b1⟩
    go_wp2_with fail
    go_ret
    exact ⟨rfl, btrans e0_0 b1⟩
  exact core s0 A0 c0 l0 x1 w h0 hl0 (Lib.hid (fun B0 d0 W k0 => specSum_any s0 x1 _ l0 W k0 hl0 hs0 ht0)) (Lib.hid (fun B0 d0 W k0 => implSum_any s0 x1 _ l0 W k0 hl0))

theorem own : ownKnob Try.prog.godebug = none := by kernel_rfl
theorem laidOut : laidOutB Try.prog = true := by kernel_rfl

set_option maxHeartbeats 1000000 in
set_option maxRecDepth 100000 in
theorem lifted (os : Os) (started : os.Started) (H : Type) (enc : TypeId × Value → H) :
    ReturnsInHanded {} Try.checked os 7 .any (Rows.fnExactSavedSumSpec.pre6 enc Try.prog Try.f7 Rows.fnExactSavedSumRow.domain false) (Rows.fnExactSavedSumSpec.post enc Try.prog Try.f7 false true false false) := by
  refine returnsInHanded_of_change (C := Try.checked) own started (by kernel_rfl) Try.func7
    (ChangeSpec.witness6 (enc := enc) (C := Try.checked) false ⟨#[], #[.agg #[.int .i64 0, .slice none 0 0], .int .i64 0], []⟩ 8 (by kernel_rfl) (by kernel_rfl) (by kernel_rfl) (by kernel_rfl)) ?_
  intro W base args ds gs before hval0 hW hcnd _
  have hval : ∀ (j : Nat) t v, Try.f7.params[j]? = some t → args[j]? = some v → Value.okWide Try.prog W .any base t v := hval0
  have hW' := hW
  obtain ⟨p, q, hA0, hV, rfl, hfz, hnd⟩ := hW
  have hA : DataW.TrodAll enc Try.prog W 0 (fun _ => true) true Try.f7.params.toList args.toList ds p := hA0
  rw [Try.params7] at hA hval
  obtain ⟨v0, vs0, d0, ds0, p0, q0, hargs, rfl, rfl, h0, r0⟩ := trodAll_cons hA
  obtain ⟨v1, vs1, d1, ds1, p1, q1, rfl, rfl, rfl, h1, r1⟩ := trodAll_cons r0
  obtain ⟨rfl, rfl, rfl⟩ := trodAll_nil r1
  obtain rfl : args = #[v0, v1] := by cases args; simp_all
  obtain ⟨rfl, rfl⟩ := trodVars_none hV
  have k0 := h0
  have lt0 : ∀ x ∈ p0, x.block < W.heap.size := by obtain ⟨m, hm⟩ := k0; exact DataW.trod_lt m _ _ _ hm
  obtain ⟨s0, u0, l0, rfl, w0⟩ := opens.open_graph (hval 0 24 v0 rfl rfl) h0
  obtain ⟨a1, rfl, rfl, rfl, w1⟩ := open_int Try.underlying3 (hval 1 3 v1 rfl rfl) h1
  clear hA0 hval0
  refine (walk s0 u0 l0 a1 W w0 w1).mono fun e W' ⟨he, bel⟩ => ?_
  subst he
  exact ⟨_, rfl, _, _, _, [], _, [], hW', trodAll_mk1 (shut_bool Try.underlying4 _), (trodAll_cons_mk (Below.trod laidOut (by kernel_rfl) (of_decide_eq_true (by kernel_rfl)) k0 bel lt0) (trodAll_cons_mk (shut_int Try.underlying3 w1) trodAll_mk0)), rfl, bel.frame _, fun h => by cases h⟩

theorem over : Rows.fnExactSavedSumRow.holds Try.pinned (OpenSpec.ofChange Rows.fnExactSavedSumSpec) :=
  OpenClaim.holds_of_wide 7 Try.f7 rfl rfl rfl rfl rfl rfl rfl ⟨rfl, rfl, rfl, rfl, rfl⟩ rfl rfl rfl rfl rfl (by kernel_rfl) Try.func7 (by kernel_rfl)
    (of_decide_eq_true (by kernel_rfl)) (by unfold Func.isWrapper; first | (rw [if_pos (by decide +kernel)]; kernel_rfl) | (rw [if_neg (by decide +kernel)]; exact ⟨rfl, rfl⟩))
    (fun os started H enc _ => lifted os started H enc)

theorem fnExactSavedSum_holds : Rows.FnExactSavedSumSaid := over
end Go.Proofs.Ytdhbaegkogklgaa.exSum
