/- FnExactBestFirePlan returns true for every Graph and every two numbers: the program's BestFirePlan and the model's return the same, in memory of their own, and write into nothing that was there. No conditions. -/
import Derived.Test.YtdhbaegkogklgaaKExBfp0
import Derived.Test.YtdhbaegkogklgaaK10
import Derived.Test.YtdhbaegkogklgaaK07
import Derived.Test.YtdhbaegkogklgaaK18
import Derived.Test.YtdhbaegkogklgaaRows
import Derived.ProofKit
import Derived.OpenShut
import Derived.ChangeOld
import Derived.Carry
namespace Go.Proofs.Ytdhbaegkogklgaa.exBfp
open Go.ChangeShapes Go.WideShapes Go.ChangeAt Go.RowKit P2 words edges ints owns good adjs fns rets sets ups fires grid gridl _root_.Go.Proofs.Ytdhbaegkogklgaa.opens
set_option linter.unusedVariables false

set_option maxHeartbeats 4000000 in
set_option maxRecDepth 100000 in
theorem core (s0 : Int) (A0 : Option Addr) (c0 : Nat) (l0 : List Ed) (x1 : Int) (x2 : Int) (w : World) (h0 : Edges w (.slice A0 l0.length c0) l0) (hl0 : l0.length ≤ 1048576)
    (HS : Hid (∀ (B0 : Option Addr) (d0 : Nat) (W : World), Edges W (.slice B0 l0.length d0) l0 → Calls Try.prog 26 #[.agg #[.int .i64 s0, .slice B0 l0.length d0], .int .i64 x1, .int .i64 x2] W fun e W' => ∃ Ar cr us, e = .returned (.tuple #[.slice Ar (gdG (FireP s0 l0 x1 x2) (rowN (bfpN s0 l0 x1 x2))).length cr, .bool (okG (FireP s0 l0 x1 x2))]) ∧ grid.OwnG W' W.heap.size (.slice Ar (gdG (FireP s0 l0 x1 x2) (rowN (bfpN s0 l0 x1 x2))).length cr) us (gdG (FireP s0 l0 x1 x2) (rowN (bfpN s0 l0 x1 x2))) ∧ Below W.heap.size W W'))
    (HI : Hid (∀ (B0 : Option Addr) (d0 : Nat) (W : World), Edges W (.slice B0 l0.length d0) l0 → Calls Try.prog 27 #[.agg #[.int .i64 s0, .slice B0 l0.length d0], .int .i64 x1, .int .i64 x2] W fun e W' => ∃ Ar cr us, e = .returned (.tuple #[.slice Ar (gdG (FireP s0 l0 x1 x2) (rowN (bfpN s0 l0 x1 x2))).length cr, .bool (okG (FireP s0 l0 x1 x2))]) ∧ grid.OwnG W' W.heap.size (.slice Ar (gdG (FireP s0 l0 x1 x2) (rowN (bfpN s0 l0 x1 x2))).length cr) us (gdG (FireP s0 l0 x1 x2) (rowN (bfpN s0 l0 x1 x2))) ∧ Below W.heap.size W W')) (hlen : gridl.tot (gdG (FireP s0 l0 x1 x2) (rowN (bfpN s0 l0 x1 x2))) ≤ 1048576 ∧ (gdG (FireP s0 l0 x1 x2) (rowN (bfpN s0 l0 x1 x2))).length ≤ 1048576) :
    Calls Try.prog 6 #[.agg #[.int .i64 s0, .slice A0 l0.length c0], .int .i64 x1, .int .i64 x2] w fun e w' => e = .returned (.bool true) ∧ Below w.heap.size w w' := by
  obtain ⟨hlen, hlen2⟩ := hlen
  have H0 := Lib.hid h0
  have b0_0 : Below w.heap.size w (w.alloc (.cells #[.int .i64 s0, .slice A0 l0.length c0] 24)) := (Below.refl _ _).alloc (Nat.le_refl _) _
  have e0_0 : Below w.heap.size w (w.alloc (.cells #[.int .i64 s0, .slice A0 l0.length c0] 24)) := b0_0
  have g0 := Blk.new w 24 #[.int .i64 s0, .slice A0 l0.length c0]
  have z0_0 := Lib.hid b0_0.size
  have yag := Lib.hid g0.lt
  have hself : ∀ b : Bool, (b != b) = false := fun b => by simp
  clear h0
  go_enter Try.func6, Try.ntmps6
  have hz0 : ((l0.length : Nat) : Int) ≤ 1048576 := by omega
  obtain ⟨pag0, pag1, -, -⟩ := g0.two
  go_wp2_with fail
  refine (szGraph_yes s0 (.slice A0 l0.length c0) l0 (1048576) (w.alloc (.cells #[.int .i64 s0, .slice A0 l0.length c0] 24)) (H0.out.below e0_0) (by omega) (by omega)).mono ?_
  rintro e w2 ⟨rfl, bw2⟩
  clear pag0 pag1
  have e0 := btrans e0_0 bw2
  have z0 := Lib.hid bw2.size
  replace g0 := g0.below bw2 g0.lt
  clear bw2
  obtain ⟨pag0, pag1, -, -⟩ := g0.two
  go_wp2_with fail
  refine (toGraph_any s0 (.slice A0 l0.length c0) l0 w2 (H0.out.below e0) hl0).mono ?_
  rintro e w3 ⟨Apg, cpg, rfl, opg, bw3⟩
  clear pag0 pag1
  have e1 := btrans e0 bw3
  have z1 := Lib.hid bw3.size
  replace g0 := g0.below bw3 g0.lt
  clear bw3 e0
  have opg_ := OwnR.new opg
  clear opg
  go_wp2_with fail
  refine (HS.out Apg cpg w3 opg_.reads).mono ?_
  rintro e w4 ⟨Aw, cw, usw, rfl, ow, bw4⟩
  have e2 := btrans e1 bw4
  have z2 := Lib.hid bw4.size
  replace g0 := g0.below bw4 g0.lt
  replace opg_ := opg_.below bw4
  clear bw4 e1
  have ow_ := gridl.OwnGR.new ow
  clear ow
  obtain ⟨pag0, pag1, -, -⟩ := g0.two
  go_wp2_with fail
  refine (toGraph_any s0 (.slice A0 l0.length c0) l0 w4 (H0.out.below e2) hl0).mono ?_
  rintro e w5 ⟨Axg, cxg, rfl, oxg, bw5⟩
  clear pag0 pag1
  have e3 := btrans e2 bw5
  have z3 := Lib.hid bw5.size
  replace g0 := g0.below bw5 g0.lt
  replace ow_ := ow_.below bw5
  clear bw5 e2
  have oxg_ := OwnR.new oxg
  clear oxg
  have bxxg : Below w5.heap.size w5 (w5.alloc (.cells #[.int .i64 s0, .slice Axg l0.length cxg] 30)) := (Below.refl _ _).alloc (Nat.le_refl _) _
  have gxg := Blk.new w5 30 #[.int .i64 s0, .slice Axg l0.length cxg]
  have e4 := btrans e3 bxxg
  have z4 := Lib.hid bxxg.size
  replace g0 := g0.below bxxg g0.lt
  replace ow_ := ow_.below bxxg
  replace oxg_ := oxg_.below bxxg
  clear bxxg e3
  have yxg := Lib.hid gxg.lt
  obtain ⟨pxg0, pxg1, -, -⟩ := gxg.two
  go_wp2_with fail
  refine (HI.out Axg cxg (w5.alloc (.cells #[.int .i64 s0, .slice Axg l0.length cxg] 30)) oxg_.reads).mono ?_
  rintro e w6 ⟨Ag, cg, usg, rfl, og, bw6⟩
  clear pxg0 pxg1
  have e5 := btrans e4 bw6
  have z5 := Lib.hid bw6.size
  replace g0 := g0.below bw6 g0.lt
  replace gxg := gxg.below bw6 gxg.lt
  replace ow_ := ow_.below bw6
  replace oxg_ := oxg_.below bw6
  clear bw6 e4
  have og_ := gridl.OwnGR.new og
  clear og
  go_wp2_with fail
  refine (gridl.eqIntSS_own _ _ _ _ (gdG (FireP s0 l0 x1 x2) (rowN (bfpN s0 l0 x1 x2))) w6 og_.reads ow_.reads hlen hlen2).mono ?_
  rintro e w7 ⟨rfl, bw7⟩
  have e6 := btrans e5 bw7
  have z6 := Lib.hid bw7.size
  replace g0 := g0.below bw7 g0.lt
  replace gxg := gxg.below bw7 gxg.lt
  replace ow_ := ow_.below bw7
  replace oxg_ := oxg_.below bw7
  replace og_ := og_.below bw7
  clear bw7 e5
  obtain ⟨pag0, pag1, -, -⟩ := g0.two
  obtain ⟨pxg0, pxg1, -, -⟩ := gxg.two
  have HA := Lib.hid (H0.out.below e6)
  have HX := Lib.hid (oxg_.reads)
  go_wp2_with fail
  go_region_held3 (fun w' => w'.cell? ⟨w.heap.size, 0, none⟩ = some (.int .i64 s0) ∧ w'.cell? ⟨w.heap.size, 1, none⟩ = some (.slice A0 l0.length c0) ∧ w'.cell? ⟨w5.heap.size, 0, none⟩ = some (.int .i64 s0) ∧ w'.cell? ⟨w5.heap.size, 1, none⟩ = some (.slice Axg l0.length cxg)) (go_keep)
    (first | (go_at_call 12; refine (toGraph_k s0 (.slice A0 l0.length c0) l0 w7.drew HA.out hl0 (p := ⟨w.heap.size, 0, none⟩) (q := ⟨w.heap.size, 1, none⟩) (r := ⟨w5.heap.size, 0, none⟩) (t := ⟨w5.heap.size, 1, none⟩) (a := .int .i64 s0) (b := .slice A0 l0.length c0) (c := .int .i64 s0) (d := .slice Axg l0.length cxg) ?_ ?_ ?_ ?_).mono ?_; (simp [*]); (simp [*]); (simp [*]); (simp [*]); rintro e w8 ⟨⟨Ay, cy, rfl, oy⟩, k0, k1, k2, k3, bw8⟩)
           | (go_at_call 16; refine (eqGraph_k s0 _ _ l0 _ (Reads.below (w := w7.drew) HX.out bw8) (Reads.of_own oy) hl0 (p := ⟨w.heap.size, 0, none⟩) (q := ⟨w.heap.size, 1, none⟩) (r := ⟨w5.heap.size, 0, none⟩) (t := ⟨w5.heap.size, 1, none⟩) (a := .int .i64 s0) (b := .slice A0 l0.length c0) (c := .int .i64 s0) (d := .slice Axg l0.length cxg) ?_ ?_ ?_ ?_).mono ?_; (simp [*]); (simp [*]); (simp [*]); (simp [*]); rintro e w9 ⟨rfl, m0, m1, m2, m3, bw9⟩))
  clear k0 k1 k2 k3 m0 m1 m2 m3 HA HX oy
  clear pag0 pag1 pxg0 pxg1
  have cw8 : Below w7.heap.size w7 w8 := (Below.refl _ _).drew.trans bw8
  clear bw8
  have e7 := btrans e6 cw8
  have z7 := Lib.hid cw8.size
  replace g0 := g0.below cw8 g0.lt
  replace gxg := gxg.below cw8 gxg.lt
  replace ow_ := ow_.below cw8
  replace oxg_ := oxg_.below cw8
  replace og_ := og_.below cw8
  clear cw8 e6
  have e8 := btrans e7 bw9
  have z8 := Lib.hid bw9.size
  replace g0 := g0.below bw9 g0.lt
  replace gxg := gxg.below bw9 gxg.lt
  replace ow_ := ow_.below bw9
  replace oxg_ := oxg_.below bw9
  replace og_ := og_.below bw9
  clear bw9 e7
  obtain ⟨pxg0, pxg1, -, -⟩ := gxg.two
  go_wp2_with fail
  refine (markGraph_own s0 _ l0 _ _ (1) w9 oxg_ (by omega)).mono ?_
  rintro e w10 ⟨rfl, om, tw10⟩
  clear pxg0 pxg1
  have uz0_0 := z0_0.out
  have uyag := yag.out
  have uz0 := z0.out
  have uz1 := z1.out
  have uz2 := z2.out
  have uz3 := z3.out
  have uz4 := z4.out
  have uyxg := yxg.out
  have uz5 := z5.out
  have uz6 := z6.out
  have uz7 := z7.out
  have uz8 := z8.out
  have e9 : Below w.heap.size w w10 := e8.trans (tw10.below (by omega) (by omega))
  have z9 := Lib.hid tw10.size
  replace g0 := blk_turned g0 tw10 (by omega)
  replace gxg := blk_turned gxg tw10 (by omega)
  replace ow_ := ow_.turned tw10 (by omega)
  replace og_ := og_.turned tw10 (by omega)
  clear uz0_0 uyag uz0 uz1 uz2 uz3 uz4 uyxg uz5 uz6 uz7 uz8
  clear oxg_ tw10 e8
  have oxg_ := om
  clear om
  go_wp2_with fail
  refine (gridl.eqIntSS_own _ _ _ _ (gdG (FireP s0 l0 x1 x2) (rowN (bfpN s0 l0 x1 x2))) w10 og_.reads ow_.reads hlen hlen2).mono ?_
  rintro e w11 ⟨rfl, bw11⟩
  have e10 := btrans e9 bw11
  have z10 := Lib.hid bw11.size
  replace g0 := g0.below bw11 g0.lt
  replace gxg := gxg.below bw11 gxg.lt
  replace ow_ := ow_.below bw11
  replace oxg_ := oxg_.below bw11
  replace og_ := og_.below bw11
  clear bw11 e9
  clear oxg_
  clear gxg
  go_wp2_with fail
  refine (gridl.markIntSS_own _ _ (gdG (FireP s0 l0 x1 x2) (rowN (bfpN s0 l0 x1 x2))) _ _ 1 w11 og_ (by omega) hlen2).mono ?_
  rintro e w12 ⟨rfl, om, tw12⟩
  have uz0_0 := z0_0.out
  have uyag := yag.out
  have uz0 := z0.out
  have uz1 := z1.out
  have uz2 := z2.out
  have uz3 := z3.out
  have uz4 := z4.out
  have uyxg := yxg.out
  have uz5 := z5.out
  have uz6 := z6.out
  have uz7 := z7.out
  have uz8 := z8.out
  have uz9 := z9.out
  have uz10 := z10.out
  have e11 : Below w.heap.size w w12 := e10.trans (tw12.below (by omega) (by omega))
  have z11 := Lib.hid tw12.size
  replace g0 := blk_turned g0 tw12 (by omega)
  replace ow_ := ow_.turned tw12 (by omega)
  clear uz0_0 uyag uz0 uz1 uz2 uz3 uz4 uyxg uz5 uz6 uz7 uz8 uz9 uz10
  clear og_ tw12 e10
  have og_ := om
  clear om
  go_wp2_with fail
  refine (gridl.heldIntSS_own _ _ (gdG (FireP s0 l0 x1 x2) (rowN (bfpN s0 l0 x1 x2))) _ _ 1 w12 og_ (by omega) hlen2).mono ?_
  rintro e w13 ⟨rfl, bw13⟩
  have e12 := btrans e11 bw13
  have z12 := Lib.hid bw13.size
  replace g0 := g0.below bw13 g0.lt
  replace ow_ := ow_.below bw13
  replace og_ := og_.below bw13
  clear bw13 e11
  obtain ⟨pag0, pag1, -, -⟩ := g0.two
  go_wp2_with fail
  refine (toGraph_any s0 (.slice A0 l0.length c0) l0 w13 (H0.out.below e12) hl0).mono ?_
  rintro e w14 ⟨Aqg, cqg, rfl, oqg, bw14⟩
  clear pag0 pag1
  have e13 := btrans e12 bw14
  have z13 := Lib.hid bw14.size
  replace g0 := g0.below bw14 g0.lt
  replace ow_ := ow_.below bw14
  replace og_ := og_.below bw14
  clear bw14 e12
  have oqg_ := OwnR.new oqg
  clear oqg
  go_wp2_with fail
  refine (HI.out Aqg cqg w14 oqg_.reads).mono ?_
  rintro e w15 ⟨Ah, ch, ush, rfl, oh, bw15⟩
  have e14 := btrans e13 bw15
  have z14 := Lib.hid bw15.size
  replace g0 := g0.below bw15 g0.lt
  replace ow_ := ow_.below bw15
  replace og_ := og_.below bw15
  replace oqg_ := oqg_.below bw15
  clear bw15 e13
  have oh_ := gridl.OwnGR.new oh
  clear oh
  clear oqg_
  go_wp2_with fail
  refine (gridl.eqIntSS_own _ _ _ _ (gdG (FireP s0 l0 x1 x2) (rowN (bfpN s0 l0 x1 x2))) w15 oh_.reads ow_.reads hlen hlen2).mono ?_
  rintro e w16 ⟨rfl, bw16⟩
  have e15 := btrans e14 bw16
  have z15 := Lib.hid bw16.size
  replace g0 := g0.below bw16 g0.lt
  replace ow_ := ow_.below bw16
  replace og_ := og_.below bw16
  replace oh_ := oh_.below bw16
  clear bw16 e14
  go_wp2_with fail
  refine (gridl.heldIntSS_own _ _ (gdG (FireP s0 l0 x1 x2) (rowN (bfpN s0 l0 x1 x2))) _ _ 1 w16 og_ (by omega) hlen2).mono ?_
  rintro e w17 ⟨rfl, bw17⟩
  have e16 := btrans e15 bw17
  have z16 := Lib.hid bw17.size
  replace g0 := g0.below bw17 g0.lt
  replace ow_ := ow_.below bw17
  replace og_ := og_.below bw17
  replace oh_ := oh_.below bw17
  clear bw17 e15
  go_wp2_with fail
  go_ret
  exact ⟨rfl, e16⟩

set_option maxHeartbeats 1000000 in
set_option maxRecDepth 100000 in
theorem walk (s0 : Int) (u0 : Value) (l0 : List Ed) (x1 : Int) (x2 : Int) (w : World) (w0 : IsGr w s0 u0 l0) (w1 : (Lit.int .i64 x1).wf = true) (w2 : (Lit.int .i64 x2).wf = true) :
    Calls Try.prog 6 #[.agg #[.int .i64 s0, u0], .int .i64 x1, .int .i64 x2] w fun e w' => e = .returned (.bool true) ∧ Below w.heap.size w w' := by
  obtain ⟨h0, hm0, hs0, ht0⟩ := w0
  obtain ⟨A0, c0, rfl, -⟩ := h0.form
  unfold maxLen at hm0
  have hb1 := opens.bounds64 w1
  clear w1
  have hb2 := opens.bounds64 w2
  clear w2
  have b0_0 : Below w.heap.size w (w.alloc (.cells #[.int .i64 s0, .slice A0 l0.length c0] 24)) := (Below.refl _ _).alloc (Nat.le_refl _) _
  have e0_0 : Below w.heap.size w (w.alloc (.cells #[.int .i64 s0, .slice A0 l0.length c0] 24)) := b0_0
  have g0 := Blk.new w 24 #[.int .i64 s0, .slice A0 l0.length c0]
  by_cases hl0 : l0.length ≤ 1048576
  rotate_left
  · have hlt : (1048576 : Int) < (l0.length : Int) := by omega
    have HZ := Lib.hid (szGraph_no s0 (.slice A0 l0.length c0) l0 1048576 _ (h0.below e0_0) hlt (by omega) (by omega))
    clear h0
    obtain ⟨p0, p1, -, -⟩ := g0.two
    go_enter Try.func6, Try.ntmps6
    go_wp2_with fail
    refine HZ.out.mono ?_
    rintro e w1 ⟨rfl, b1⟩
    go_wp2_with fail
    go_ret
    exact ⟨rfl, btrans e0_0 b1⟩
  exact core s0 A0 c0 l0 x1 x2 w h0 hl0 (Lib.hid (fun B0 d0 W k0 => specBfp_any s0 x1 x2 _ l0 W k0 hl0 hs0 ht0)) (Lib.hid (fun B0 d0 W k0 => implBfp_any s0 x1 x2 _ l0 W k0 hl0)) (bfp_len s0 x1 x2 l0)

theorem own : ownKnob Try.prog.godebug = none := by kernel_rfl
theorem laidOut : laidOutB Try.prog = true := by kernel_rfl

set_option maxHeartbeats 1000000 in
set_option maxRecDepth 100000 in
theorem lifted (os : Os) (started : os.Started) (H : Type) (enc : TypeId × Value → H) :
    ReturnsInHanded {} Try.checked os 6 .any (Rows.fnExactBestFirePlanSpec.pre6 enc Try.prog Try.f6 Rows.fnExactBestFirePlanRow.domain false) (Rows.fnExactBestFirePlanSpec.post enc Try.prog Try.f6 false true false false) := by
  refine returnsInHanded_of_change (C := Try.checked) own started (by kernel_rfl) Try.func6
    (ChangeSpec.witness6 (enc := enc) (C := Try.checked) false ⟨#[], #[.agg #[.int .i64 0, .slice none 0 0], .int .i64 0, .int .i64 0], []⟩ 8 (by kernel_rfl) (by kernel_rfl) (by kernel_rfl) (by kernel_rfl)) ?_
  intro W base args ds gs before hval0 hW hcnd _
  have hval : ∀ (j : Nat) t v, Try.f6.params[j]? = some t → args[j]? = some v → Value.okWide Try.prog W .any base t v := hval0
  have hW' := hW
  obtain ⟨p, q, hA0, hV, rfl, hfz, hnd⟩ := hW
  have hA : DataW.TrodAll enc Try.prog W 0 (fun _ => true) true Try.f6.params.toList args.toList ds p := hA0
  rw [Try.params6] at hA hval
  obtain ⟨v0, vs0, d0, ds0, p0, q0, hargs, rfl, rfl, h0, r0⟩ := trodAll_cons hA
  obtain ⟨v1, vs1, d1, ds1, p1, q1, rfl, rfl, rfl, h1, r1⟩ := trodAll_cons r0
  obtain ⟨v2, vs2, d2, ds2, p2, q2, rfl, rfl, rfl, h2, r2⟩ := trodAll_cons r1
  obtain ⟨rfl, rfl, rfl⟩ := trodAll_nil r2
  obtain rfl : args = #[v0, v1, v2] := by cases args; simp_all
  obtain ⟨rfl, rfl⟩ := trodVars_none hV
  have k0 := h0
  have lt0 : ∀ x ∈ p0, x.block < W.heap.size := by obtain ⟨m, hm⟩ := k0; exact DataW.trod_lt m _ _ _ hm
  obtain ⟨s0, u0, l0, rfl, w0⟩ := opens.open_graph (hval 0 24 v0 rfl rfl) h0
  obtain ⟨a1, rfl, rfl, rfl, w1⟩ := open_int Try.underlying3 (hval 1 3 v1 rfl rfl) h1
  obtain ⟨a2, rfl, rfl, rfl, w2⟩ := open_int Try.underlying3 (hval 2 3 v2 rfl rfl) h2
  clear hA0 hval0
  refine (walk s0 u0 l0 a1 a2 W w0 w1 w2).mono fun e W' ⟨he, bel⟩ => ?_
  subst he
  exact ⟨_, rfl, _, _, _, [], _, [], hW', trodAll_mk1 (shut_bool Try.underlying4 _), (trodAll_cons_mk (Below.trod laidOut (by kernel_rfl) (of_decide_eq_true (by kernel_rfl)) k0 bel lt0) (trodAll_cons_mk (shut_int Try.underlying3 w1) (trodAll_cons_mk (shut_int Try.underlying3 w2) trodAll_mk0))), rfl, bel.frame _, fun h => by cases h⟩

theorem over : Rows.fnExactBestFirePlanRow.holds Try.pinned (OpenSpec.ofChange Rows.fnExactBestFirePlanSpec) :=
  OpenClaim.holds_of_wide 6 Try.f6 rfl rfl rfl rfl rfl rfl rfl ⟨rfl, rfl, rfl, rfl, rfl⟩ rfl rfl rfl rfl rfl (by kernel_rfl) Try.func6 (by kernel_rfl)
    (of_decide_eq_true (by kernel_rfl)) (by unfold Func.isWrapper; first | (rw [if_pos (by decide +kernel)]; kernel_rfl) | (rw [if_neg (by decide +kernel)]; exact ⟨rfl, rfl⟩))
    (fun os started H enc _ => lifted os started H enc)

theorem fnExactBestFirePlan_holds : Rows.FnExactBestFirePlanSaid := over
end Go.Proofs.Ytdhbaegkogklgaa.exBfp
