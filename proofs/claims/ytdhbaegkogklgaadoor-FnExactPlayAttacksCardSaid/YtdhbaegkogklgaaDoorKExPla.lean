/- FnExactPlayAttacks returns true for every Graph, every two lists of numbers and both ways of moving: the program's PlayAttacks and the model's return the same, in memory of their own, and write into nothing that was there. No conditions but the row's own about math/bits's tables. -/
import Derived.Test.YtdhbaegkogklgaaDoorCards
import Derived.Test.YtdhbaegkogklgaaDoorTie
import Derived.Test.YtdhbaegkogklgaaDoorKExPla0
import Derived.Test.YtdhbaegkogklgaaDoorK10
import Derived.Test.YtdhbaegkogklgaaDoorK26
import Derived.Test.YtdhbaegkogklgaaDoorK07
import Derived.Test.YtdhbaegkogklgaaDoorRows
import Derived.ProofKit
import Derived.OpenShut
import Derived.ChangeOld
import Derived.Carry
import Derived.LaidMore
import Derived.Deep.DeepHandedRow
import Derived.Deep.DeepWitnessRowRef
namespace Go.Proofs.YtdhbaegkogklgaaDoor.exPla
open Go.ChangeShapes Go.WideShapes Go.ChangeAt Go.RowKit P2 words edges ints owns good adjs fns rets sets bags ups least grid gridl _root_.Go.Proofs.YtdhbaegkogklgaaDoor.opens
set_option linter.unusedVariables false

set_option maxHeartbeats 4000000 in
set_option maxRecDepth 100000 in
theorem core (s0 : Int) (A0 : Option Addr) (c0 : Nat) (l0 : List Ed) (A1 : Option Addr) (c1 : Nat) (l1 : List Int) (A2 : Option Addr) (c2 : Nat) (l2 : List Int) (x3 : Bool) (w : World) (h0 : Edges w (.slice A0 l0.length c0) l0) (hl0 : l0.length ≤ 1048576) (h1 : Ints w (.slice A1 l1.length c1) l1) (hl1 : l1.length ≤ 1048576) (h2 : Ints w (.slice A2 l2.length c2) l2) (hl2 : l2.length ≤ 1048576)
    (HS : Hid (∀ (B0 : Option Addr) (d0 : Nat) (B1 : Option Addr) (d1 : Nat) (B2 : Option Addr) (d2 : Nat) (W : World), Edges W (.slice B0 l0.length d0) l0 → Ints W (.slice B1 l1.length d1) l1 → Ints W (.slice B2 l2.length d2) l2 → Calls Tryd.prog 21 #[.agg #[.int .i64 s0, .slice B0 l0.length d0], .slice B1 l1.length d1, .slice B2 l2.length d2, .bool x3] W fun e W' => ∃ Ar cr us, e = .returned (.tuple #[.slice Ar (gdG (PlaOk s0 l0 l1 l2) (rowN (plaN s0 l0 x3 l1 l2))).length cr, .bool (okG (PlaOk s0 l0 l1 l2))]) ∧ grid.OwnG W' W.heap.size (.slice Ar (gdG (PlaOk s0 l0 l1 l2) (rowN (plaN s0 l0 x3 l1 l2))).length cr) us (gdG (PlaOk s0 l0 l1 l2) (rowN (plaN s0 l0 x3 l1 l2))) ∧ Below W.heap.size W W'))
    (HEnv : Hid (Env w))
    (HI : Hid (∀ (B0 : Option Addr) (d0 : Nat) (B1 : Option Addr) (d1 : Nat) (B2 : Option Addr) (d2 : Nat) (W : World), Edges W (.slice B0 l0.length d0) l0 → Ints W (.slice B1 l1.length d1) l1 → Ints W (.slice B2 l2.length d2) l2 → Env W → Calls Tryd.prog 22 #[.agg #[.int .i64 s0, .slice B0 l0.length d0], .slice B1 l1.length d1, .slice B2 l2.length d2, .bool x3] W fun e W' => ∃ Ar cr us, e = .returned (.tuple #[.slice Ar (gdG (PlaOk s0 l0 l1 l2) (rowN (plaN s0 l0 x3 l1 l2))).length cr, .bool (okG (PlaOk s0 l0 l1 l2))]) ∧ grid.OwnG W' W.heap.size (.slice Ar (gdG (PlaOk s0 l0 l1 l2) (rowN (plaN s0 l0 x3 l1 l2))).length cr) us (gdG (PlaOk s0 l0 l1 l2) (rowN (plaN s0 l0 x3 l1 l2))) ∧ Below W.heap.size W W')) (hlen : gridl.tot (gdG (PlaOk s0 l0 l1 l2) (rowN (plaN s0 l0 x3 l1 l2))) ≤ 1048576 ∧ (gdG (PlaOk s0 l0 l1 l2) (rowN (plaN s0 l0 x3 l1 l2))).length ≤ 1048576) :
    Calls Tryd.prog 5 #[.agg #[.int .i64 s0, .slice A0 l0.length c0], .slice A1 l1.length c1, .slice A2 l2.length c2, .bool x3] w fun e w' => e = .returned (.bool true) ∧ Below w.heap.size w w' := by
  obtain ⟨hlen, hlen2⟩ := hlen
  have H0 := Lib.hid h0
  have H1 := Lib.hid h1
  have H2 := Lib.hid h2
  have b0_0 : Below w.heap.size w (w.alloc (.cells #[.int .i64 s0, .slice A0 l0.length c0] 24)) := (Below.refl _ _).alloc (Nat.le_refl _) _
  have e0_0 : Below w.heap.size w (w.alloc (.cells #[.int .i64 s0, .slice A0 l0.length c0] 24)) := b0_0
  have g0 := Blk.new w 24 #[.int .i64 s0, .slice A0 l0.length c0]
  have z0_0 := Lib.hid b0_0.size
  have yag := Lib.hid g0.lt
  have hli1 : ((l1.length : Nat) : Int) ≤ 1048576 := by omega
  have hli2 : ((l2.length : Nat) : Int) ≤ 1048576 := by omega
  have hself : ∀ b : Bool, (b != b) = false := fun b => by simp
  clear h0 h1 h2
  go_enter Tryd.func5, Tryd.ntmps5
  have hz0 : ((l0.length : Nat) : Int) ≤ 1048576 := by omega
  obtain ⟨pag0, pag1, -, -⟩ := g0.two
  go_wp2_with fail
  refine (szGraph_yes s0 (.slice A0 l0.length c0) l0 (1048576) (w.alloc (.cells #[.int .i64 s0, .slice A0 l0.length c0] 24)) (H0.out.below e0_0) (by omega) (by omega)).mono ?_
  rintro e w2 ⟨rfl, bw2⟩
  clear pag0 pag1
  have e0 := btrans e0_0 bw2
  have z0 := Lib.hid bw2.size
  replace g0 := g0.below bw2 g0.lt
  clear bw2
  obtain ⟨pag0, pag1, -, -⟩ := g0.two
  go_wp2_with fail
  refine (toGraph_any s0 (.slice A0 l0.length c0) l0 w2 (H0.out.below e0) hl0).mono ?_
  rintro e w3 ⟨Apg, cpg, rfl, opg, bw3⟩
  clear pag0 pag1
  have e1 := btrans e0 bw3
  have z1 := Lib.hid bw3.size
  replace g0 := g0.below bw3 g0.lt
  clear bw3 e0
  have opg_ := OwnR.new opg
  clear opg
  go_wp2_with fail
  refine (toIntS_any (.slice A1 l1.length c1) l1 w3 (H1.out.below e1) hl1).mono ?_
  rintro e w4 ⟨Apset, cpset, rfl, opset, bw4⟩
  have e2 := btrans e1 bw4
  have z2 := Lib.hid bw4.size
  replace g0 := g0.below bw4 g0.lt
  replace opg_ := opg_.below bw4
  clear bw4 e1
  have opset_ := OwnR.new opset
  clear opset
  go_wp2_with fail
  refine (toIntS_any (.slice A2 l2.length c2) l2 w4 (H2.out.below e2) hl2).mono ?_
  rintro e w5 ⟨Apattacks, cpattacks, rfl, opattacks, bw5⟩
  have e3 := btrans e2 bw5
  have z3 := Lib.hid bw5.size
  replace g0 := g0.below bw5 g0.lt
  replace opg_ := opg_.below bw5
  replace opset_ := opset_.below bw5
  clear bw5 e2
  have opattacks_ := OwnR.new opattacks
  clear opattacks
  go_wp2_with fail
  refine (HS.out Apg cpg Apset cpset Apattacks cpattacks w5 opg_.reads opset_.reads opattacks_.reads).mono ?_
  rintro e w6 ⟨Aw, cw, usw, rfl, ow, bw6⟩
  have e4 := btrans e3 bw6
  have z4 := Lib.hid bw6.size
  replace g0 := g0.below bw6 g0.lt
  replace opg_ := opg_.below bw6
  replace opset_ := opset_.below bw6
  replace opattacks_ := opattacks_.below bw6
  clear bw6 e3
  have ow_ := gridl.OwnGR.new ow
  clear ow
  obtain ⟨pag0, pag1, -, -⟩ := g0.two
  go_wp2_with fail
  refine (toGraph_any s0 (.slice A0 l0.length c0) l0 w6 (H0.out.below e4) hl0).mono ?_
  rintro e w7 ⟨Axg, cxg, rfl, oxg, bw7⟩
  clear pag0 pag1
  have e5 := btrans e4 bw7
  have z5 := Lib.hid bw7.size
  replace g0 := g0.below bw7 g0.lt
  replace ow_ := ow_.below bw7
  clear bw7 e4
  have oxg_ := OwnR.new oxg
  clear oxg
  have bxxg : Below w7.heap.size w7 (w7.alloc (.cells #[.int .i64 s0, .slice Axg l0.length cxg] 29)) := (Below.refl _ _).alloc (Nat.le_refl _) _
  have gxg := Blk.new w7 29 #[.int .i64 s0, .slice Axg l0.length cxg]
  have e6 := btrans e5 bxxg
  have z6 := Lib.hid bxxg.size
  replace g0 := g0.below bxxg g0.lt
  replace ow_ := ow_.below bxxg
  replace oxg_ := oxg_.below bxxg
  clear bxxg e5
  have yxg := Lib.hid gxg.lt
  go_wp2_with fail
  refine (toIntS_any (.slice A1 l1.length c1) l1 (w7.alloc (.cells #[.int .i64 s0, .slice Axg l0.length cxg] 29)) (H1.out.below e6) hl1).mono ?_
  rintro e w8 ⟨Axset, cxset, rfl, oxset, bw8⟩
  have e7 := btrans e6 bw8
  have z7 := Lib.hid bw8.size
  replace g0 := g0.below bw8 g0.lt
  replace gxg := gxg.below bw8 gxg.lt
  replace ow_ := ow_.below bw8
  replace oxg_ := oxg_.below bw8
  clear bw8 e6
  have oxset_ := OwnR.new oxset
  clear oxset
  go_wp2_with fail
  refine (toIntS_any (.slice A2 l2.length c2) l2 w8 (H2.out.below e7) hl2).mono ?_
  rintro e w9 ⟨Axattacks, cxattacks, rfl, oxattacks, bw9⟩
  have e8 := btrans e7 bw9
  have z8 := Lib.hid bw9.size
  replace g0 := g0.below bw9 g0.lt
  replace gxg := gxg.below bw9 gxg.lt
  replace ow_ := ow_.below bw9
  replace oxg_ := oxg_.below bw9
  replace oxset_ := oxset_.below bw9
  clear bw9 e7
  have oxattacks_ := OwnR.new oxattacks
  clear oxattacks
  obtain ⟨pxg0, pxg1, -, -⟩ := gxg.two
  go_wp2_with fail
  refine (HI.out Axg cxg Axset cxset Axattacks cxattacks w9 oxg_.reads oxset_.reads oxattacks_.reads (HEnv.out.next e8)).mono ?_
  rintro e w10 ⟨Ag, cg, usg, rfl, og, bw10⟩
  clear pxg0 pxg1
  have e9 := btrans e8 bw10
  have z9 := Lib.hid bw10.size
  replace g0 := g0.below bw10 g0.lt
  replace gxg := gxg.below bw10 gxg.lt
  replace ow_ := ow_.below bw10
  replace oxg_ := oxg_.below bw10
  replace oxset_ := oxset_.below bw10
  replace oxattacks_ := oxattacks_.below bw10
  clear bw10 e8
  have og_ := gridl.OwnGR.new og
  clear og
  go_wp2_with fail
  refine (gridl.eqIntSS_own _ _ _ _ (gdG (PlaOk s0 l0 l1 l2) (rowN (plaN s0 l0 x3 l1 l2))) w10 og_.reads ow_.reads hlen hlen2).mono ?_
  rintro e w11 ⟨rfl, bw11⟩
  have e10 := btrans e9 bw11
  have z10 := Lib.hid bw11.size
  replace g0 := g0.below bw11 g0.lt
  replace gxg := gxg.below bw11 gxg.lt
  replace ow_ := ow_.below bw11
  replace oxg_ := oxg_.below bw11
  replace oxset_ := oxset_.below bw11
  replace oxattacks_ := oxattacks_.below bw11
  replace og_ := og_.below bw11
  clear bw11 e9
  obtain ⟨pag0, pag1, -, -⟩ := g0.two
  obtain ⟨pxg0, pxg1, -, -⟩ := gxg.two
  have HA := Lib.hid (H0.out.below e10)
  have HX := Lib.hid (oxg_.reads)
  go_wp2_with fail
  go_region_held3 (fun w' => w'.cell? ⟨w.heap.size, 0, none⟩ = some (.int .i64 s0) ∧ w'.cell? ⟨w.heap.size, 1, none⟩ = some (.slice A0 l0.length c0) ∧ w'.cell? ⟨w7.heap.size, 0, none⟩ = some (.int .i64 s0) ∧ w'.cell? ⟨w7.heap.size, 1, none⟩ = some (.slice Axg l0.length cxg)) (go_keep)
    (first | (go_at_call 11; refine (toGraph_k s0 (.slice A0 l0.length c0) l0 w11.drew HA.out hl0 (p := ⟨w.heap.size, 0, none⟩) (q := ⟨w.heap.size, 1, none⟩) (r := ⟨w7.heap.size, 0, none⟩) (t := ⟨w7.heap.size, 1, none⟩) (a := .int .i64 s0) (b := .slice A0 l0.length c0) (c := .int .i64 s0) (d := .slice Axg l0.length cxg) ?_ ?_ ?_ ?_).mono ?_; (simp [*]); (simp [*]); (simp [*]); (simp [*]); rintro e w12 ⟨⟨Ay, cy, rfl, oy⟩, k0, k1, k2, k3, bw12⟩)
           | (go_at_call 14; refine (eqGraph_k s0 _ _ l0 _ (Reads.below (w := w11.drew) HX.out bw12) (Reads.of_own oy) hl0 (p := ⟨w.heap.size, 0, none⟩) (q := ⟨w.heap.size, 1, none⟩) (r := ⟨w7.heap.size, 0, none⟩) (t := ⟨w7.heap.size, 1, none⟩) (a := .int .i64 s0) (b := .slice A0 l0.length c0) (c := .int .i64 s0) (d := .slice Axg l0.length cxg) ?_ ?_ ?_ ?_).mono ?_; (simp [*]); (simp [*]); (simp [*]); (simp [*]); rintro e w13 ⟨rfl, m0, m1, m2, m3, bw13⟩))
  clear k0 k1 k2 k3 m0 m1 m2 m3 HA HX oy
  clear pag0 pag1 pxg0 pxg1
  have cw12 : Below w11.heap.size w11 w12 := (Below.refl _ _).drew.trans bw12
  clear bw12
  have e11 := btrans e10 cw12
  have z11 := Lib.hid cw12.size
  replace g0 := g0.below cw12 g0.lt
  replace gxg := gxg.below cw12 gxg.lt
  replace ow_ := ow_.below cw12
  replace oxg_ := oxg_.below cw12
  replace oxset_ := oxset_.below cw12
  replace oxattacks_ := oxattacks_.below cw12
  replace og_ := og_.below cw12
  clear cw12 e10
  have e12 := btrans e11 bw13
  have z12 := Lib.hid bw13.size
  replace g0 := g0.below bw13 g0.lt
  replace gxg := gxg.below bw13 gxg.lt
  replace ow_ := ow_.below bw13
  replace oxg_ := oxg_.below bw13
  replace oxset_ := oxset_.below bw13
  replace oxattacks_ := oxattacks_.below bw13
  replace og_ := og_.below bw13
  clear bw13 e11
  go_wp2_with fail
  refine (toIntS_any (.slice A1 l1.length c1) l1 w13 (H1.out.below e12) hl1).mono ?_
  rintro e w14 ⟨Ayset, cyset, rfl, oyset, bw14⟩
  have e13 := btrans e12 bw14
  have z13 := Lib.hid bw14.size
  replace g0 := g0.below bw14 g0.lt
  replace gxg := gxg.below bw14 gxg.lt
  replace ow_ := ow_.below bw14
  replace oxg_ := oxg_.below bw14
  replace oxset_ := oxset_.below bw14
  replace oxattacks_ := oxattacks_.below bw14
  replace og_ := og_.below bw14
  clear bw14 e12
  have oyset_ := OwnR.new oyset
  clear oyset
  go_wp2_with fail
  refine (eqIntS_own _ _ l1 w14 oxset_.reads oyset_.reads hl1).mono ?_
  rintro e w15 ⟨rfl, bw15⟩
  have e14 := btrans e13 bw15
  have z14 := Lib.hid bw15.size
  replace g0 := g0.below bw15 g0.lt
  replace gxg := gxg.below bw15 gxg.lt
  replace ow_ := ow_.below bw15
  replace oxg_ := oxg_.below bw15
  replace oxset_ := oxset_.below bw15
  replace oxattacks_ := oxattacks_.below bw15
  replace og_ := og_.below bw15
  replace oyset_ := oyset_.below bw15
  clear bw15 e13
  clear oyset_
  go_wp2_with fail
  refine (toIntS_any (.slice A2 l2.length c2) l2 w15 (H2.out.below e14) hl2).mono ?_
  rintro e w16 ⟨Ayattacks, cyattacks, rfl, oyattacks, bw16⟩
  have e15 := btrans e14 bw16
  have z15 := Lib.hid bw16.size
  replace g0 := g0.below bw16 g0.lt
  replace gxg := gxg.below bw16 gxg.lt
  replace ow_ := ow_.below bw16
  replace oxg_ := oxg_.below bw16
  replace oxset_ := oxset_.below bw16
  replace oxattacks_ := oxattacks_.below bw16
  replace og_ := og_.below bw16
  clear bw16 e14
  have oyattacks_ := OwnR.new oyattacks
  clear oyattacks
  go_wp2_with fail
  refine (eqIntS_own _ _ l2 w16 oxattacks_.reads oyattacks_.reads hl2).mono ?_
  rintro e w17 ⟨rfl, bw17⟩
  have e16 := btrans e15 bw17
  have z16 := Lib.hid bw17.size
  replace g0 := g0.below bw17 g0.lt
  replace gxg := gxg.below bw17 gxg.lt
  replace ow_ := ow_.below bw17
  replace oxg_ := oxg_.below bw17
  replace oxset_ := oxset_.below bw17
  replace oxattacks_ := oxattacks_.below bw17
  replace og_ := og_.below bw17
  replace oyattacks_ := oyattacks_.below bw17
  clear bw17 e15
  clear oyattacks_
  obtain ⟨pxg0, pxg1, -, -⟩ := gxg.two
  go_wp2_with fail
  refine (markGraph_own s0 _ l0 _ _ (1) w17 oxg_ (by omega)).mono ?_
  rintro e w18 ⟨rfl, om, tw18⟩
  clear pxg0 pxg1
  have uz0_0 := z0_0.out
  have uyag := yag.out
  have uz0 := z0.out
  have uz1 := z1.out
  have uz2 := z2.out
  have uz3 := z3.out
  have uz4 := z4.out
  have uz5 := z5.out
  have uz6 := z6.out
  have uyxg := yxg.out
  have uz7 := z7.out
  have uz8 := z8.out
  have uz9 := z9.out
  have uz10 := z10.out
  have uz11 := z11.out
  have uz12 := z12.out
  have uz13 := z13.out
  have uz14 := z14.out
  have uz15 := z15.out
  have uz16 := z16.out
  have e17 : Below w.heap.size w w18 := e16.trans (tw18.below (by omega) (by omega))
  have z17 := Lib.hid tw18.size
  replace g0 := blk_turned g0 tw18 (by omega)
  replace gxg := blk_turned gxg tw18 (by omega)
  replace ow_ := ow_.turned tw18 (by omega)
  replace oxset_ := oxset_.turned tw18 (by omega)
  replace oxattacks_ := oxattacks_.turned tw18 (by omega)
  replace og_ := og_.turned tw18 (by omega)
  clear uz0_0 uyag uz0 uz1 uz2 uz3 uz4 uz5 uz6 uyxg uz7 uz8 uz9 uz10 uz11 uz12 uz13 uz14 uz15 uz16
  clear oxg_ tw18 e16
  have oxg_ := om
  clear om
  go_wp2_with fail
  refine (markIntS_own _ l1 _ _ (1 + 2 * l0.length) w18 oxset_ (by omega)).mono ?_
  rintro e w19 ⟨rfl, om, tw19⟩
  have uz0_0 := z0_0.out
  have uyag := yag.out
  have uz0 := z0.out
  have uz1 := z1.out
  have uz2 := z2.out
  have uz3 := z3.out
  have uz4 := z4.out
  have uz5 := z5.out
  have uz6 := z6.out
  have uyxg := yxg.out
  have uz7 := z7.out
  have uz8 := z8.out
  have uz9 := z9.out
  have uz10 := z10.out
  have uz11 := z11.out
  have uz12 := z12.out
  have uz13 := z13.out
  have uz14 := z14.out
  have uz15 := z15.out
  have uz16 := z16.out
  have uz17 := z17.out
  have e18 : Below w.heap.size w w19 := e17.trans (tw19.below (by omega) (by omega))
  have z18 := Lib.hid tw19.size
  replace g0 := blk_turned g0 tw19 (by omega)
  replace gxg := blk_turned gxg tw19 (by omega)
  replace ow_ := ow_.turned tw19 (by omega)
  replace oxg_ := oxg_.turned tw19 (by omega)
  replace oxattacks_ := oxattacks_.turned tw19 (by omega)
  replace og_ := og_.turned tw19 (by omega)
  clear uz0_0 uyag uz0 uz1 uz2 uz3 uz4 uz5 uz6 uyxg uz7 uz8 uz9 uz10 uz11 uz12 uz13 uz14 uz15 uz16 uz17
  clear oxset_ tw19 e17
  have oxset_ := om
  clear om
  go_wp2_with fail
  refine (markIntS_own _ l2 _ _ (1 + 2 * l0.length + l1.length) w19 oxattacks_ (by omega)).mono ?_
  rintro e w20 ⟨rfl, om, tw20⟩
  have uz0_0 := z0_0.out
  have uyag := yag.out
  have uz0 := z0.out
  have uz1 := z1.out
  have uz2 := z2.out
  have uz3 := z3.out
  have uz4 := z4.out
  have uz5 := z5.out
  have uz6 := z6.out
  have uyxg := yxg.out
  have uz7 := z7.out
  have uz8 := z8.out
  have uz9 := z9.out
  have uz10 := z10.out
  have uz11 := z11.out
  have uz12 := z12.out
  have uz13 := z13.out
  have uz14 := z14.out
  have uz15 := z15.out
  have uz16 := z16.out
  have uz17 := z17.out
  have uz18 := z18.out
  have e19 : Below w.heap.size w w20 := e18.trans (tw20.below (by omega) (by omega))
  have z19 := Lib.hid tw20.size
  replace g0 := blk_turned g0 tw20 (by omega)
  replace gxg := blk_turned gxg tw20 (by omega)
  replace ow_ := ow_.turned tw20 (by omega)
  replace oxg_ := oxg_.turned tw20 (by omega)
  replace oxset_ := oxset_.turned tw20 (by omega)
  replace og_ := og_.turned tw20 (by omega)
  clear uz0_0 uyag uz0 uz1 uz2 uz3 uz4 uz5 uz6 uyxg uz7 uz8 uz9 uz10 uz11 uz12 uz13 uz14 uz15 uz16 uz17 uz18
  clear oxattacks_ tw20 e18
  have oxattacks_ := om
  clear om
  go_wp2_with fail
  refine (gridl.eqIntSS_own _ _ _ _ (gdG (PlaOk s0 l0 l1 l2) (rowN (plaN s0 l0 x3 l1 l2))) w20 og_.reads ow_.reads hlen hlen2).mono ?_
  rintro e w21 ⟨rfl, bw21⟩
  have e20 := btrans e19 bw21
  have z20 := Lib.hid bw21.size
  replace g0 := g0.below bw21 g0.lt
  replace gxg := gxg.below bw21 gxg.lt
  replace ow_ := ow_.below bw21
  replace oxg_ := oxg_.below bw21
  replace oxset_ := oxset_.below bw21
  replace oxattacks_ := oxattacks_.below bw21
  replace og_ := og_.below bw21
  clear bw21 e19
  clear oxg_
  clear gxg
  clear oxset_
  clear oxattacks_
  go_wp2_with fail
  refine (gridl.markIntSS_own _ _ (gdG (PlaOk s0 l0 l1 l2) (rowN (plaN s0 l0 x3 l1 l2))) _ _ 1 w21 og_ (by omega) hlen2).mono ?_
  rintro e w22 ⟨rfl, om, tw22⟩
  have uz0_0 := z0_0.out
  have uyag := yag.out
  have uz0 := z0.out
  have uz1 := z1.out
  have uz2 := z2.out
  have uz3 := z3.out
  have uz4 := z4.out
  have uz5 := z5.out
  have uz6 := z6.out
  have uyxg := yxg.out
  have uz7 := z7.out
  have uz8 := z8.out
  have uz9 := z9.out
  have uz10 := z10.out
  have uz11 := z11.out
  have uz12 := z12.out
  have uz13 := z13.out
  have uz14 := z14.out
  have uz15 := z15.out
  have uz16 := z16.out
  have uz17 := z17.out
  have uz18 := z18.out
  have uz19 := z19.out
  have uz20 := z20.out
  have e21 : Below w.heap.size w w22 := e20.trans (tw22.below (by omega) (by omega))
  have z21 := Lib.hid tw22.size
  replace g0 := blk_turned g0 tw22 (by omega)
  replace ow_ := ow_.turned tw22 (by omega)
  clear uz0_0 uyag uz0 uz1 uz2 uz3 uz4 uz5 uz6 uyxg uz7 uz8 uz9 uz10 uz11 uz12 uz13 uz14 uz15 uz16 uz17 uz18 uz19 uz20
  clear og_ tw22 e20
  have og_ := om
  clear om
  go_wp2_with fail
  refine (gridl.heldIntSS_own _ _ (gdG (PlaOk s0 l0 l1 l2) (rowN (plaN s0 l0 x3 l1 l2))) _ _ 1 w22 og_ (by omega) hlen2).mono ?_
  rintro e w23 ⟨rfl, bw23⟩
  have e22 := btrans e21 bw23
  have z22 := Lib.hid bw23.size
  replace g0 := g0.below bw23 g0.lt
  replace ow_ := ow_.below bw23
  replace og_ := og_.below bw23
  clear bw23 e21
  obtain ⟨pag0, pag1, -, -⟩ := g0.two
  go_wp2_with fail
  refine (toGraph_any s0 (.slice A0 l0.length c0) l0 w23 (H0.out.below e22) hl0).mono ?_
  rintro e w24 ⟨Aqg, cqg, rfl, oqg, bw24⟩
  clear pag0 pag1
  have e23 := btrans e22 bw24
  have z23 := Lib.hid bw24.size
  replace g0 := g0.below bw24 g0.lt
  replace ow_ := ow_.below bw24
  replace og_ := og_.below bw24
  clear bw24 e22
  have oqg_ := OwnR.new oqg
  clear oqg
  go_wp2_with fail
  refine (toIntS_any (.slice A1 l1.length c1) l1 w24 (H1.out.below e23) hl1).mono ?_
  rintro e w25 ⟨Aqset, cqset, rfl, oqset, bw25⟩
  have e24 := btrans e23 bw25
  have z24 := Lib.hid bw25.size
  replace g0 := g0.below bw25 g0.lt
  replace ow_ := ow_.below bw25
  replace og_ := og_.below bw25
  replace oqg_ := oqg_.below bw25
  clear bw25 e23
  have oqset_ := OwnR.new oqset
  clear oqset
  go_wp2_with fail
  refine (toIntS_any (.slice A2 l2.length c2) l2 w25 (H2.out.below e24) hl2).mono ?_
  rintro e w26 ⟨Aqattacks, cqattacks, rfl, oqattacks, bw26⟩
  have e25 := btrans e24 bw26
  have z25 := Lib.hid bw26.size
  replace g0 := g0.below bw26 g0.lt
  replace ow_ := ow_.below bw26
  replace og_ := og_.below bw26
  replace oqg_ := oqg_.below bw26
  replace oqset_ := oqset_.below bw26
  clear bw26 e24
  have oqattacks_ := OwnR.new oqattacks
  clear oqattacks
  go_wp2_with fail
  refine (HI.out Aqg cqg Aqset cqset Aqattacks cqattacks w26 oqg_.reads oqset_.reads oqattacks_.reads (HEnv.out.next e25)).mono ?_
  rintro e w27 ⟨Ah, ch, ush, rfl, oh, bw27⟩
  have e26 := btrans e25 bw27
  have z26 := Lib.hid bw27.size
  replace g0 := g0.below bw27 g0.lt
  replace ow_ := ow_.below bw27
  replace og_ := og_.below bw27
  replace oqg_ := oqg_.below bw27
  replace oqset_ := oqset_.below bw27
  replace oqattacks_ := oqattacks_.below bw27
  clear bw27 e25
  have oh_ := gridl.OwnGR.new oh
  clear oh
  clear oqg_
  clear oqset_
  clear oqattacks_
  go_wp2_with fail
  refine (gridl.eqIntSS_own _ _ _ _ (gdG (PlaOk s0 l0 l1 l2) (rowN (plaN s0 l0 x3 l1 l2))) w27 oh_.reads ow_.reads hlen hlen2).mono ?_
  rintro e w28 ⟨rfl, bw28⟩
  have e27 := btrans e26 bw28
  have z27 := Lib.hid bw28.size
  replace g0 := g0.below bw28 g0.lt
  replace ow_ := ow_.below bw28
  replace og_ := og_.below bw28
  replace oh_ := oh_.below bw28
  clear bw28 e26
  go_wp2_with fail
  refine (gridl.heldIntSS_own _ _ (gdG (PlaOk s0 l0 l1 l2) (rowN (plaN s0 l0 x3 l1 l2))) _ _ 1 w28 og_ (by omega) hlen2).mono ?_
  rintro e w29 ⟨rfl, bw29⟩
  have e28 := btrans e27 bw29
  have z28 := Lib.hid bw29.size
  replace g0 := g0.below bw29 g0.lt
  replace ow_ := ow_.below bw29
  replace og_ := og_.below bw29
  replace oh_ := oh_.below bw29
  clear bw29 e27
  go_wp2_with fail
  go_ret
  exact ⟨rfl, e28⟩

set_option maxHeartbeats 1000000 in
set_option maxRecDepth 100000 in
theorem walk (s0 : Int) (u0 : Value) (l0 : List Ed) (u1 : Value) (l1 : List Int) (u2 : Value) (l2 : List Int) (x3 : Bool) (w : World) (hE : Env w) (w0 : IsGr w s0 u0 l0) (w1 : IsIn w u1 l1) (w2 : IsIn w u2 l2) :
    Calls Tryd.prog 5 #[.agg #[.int .i64 s0, u0], u1, u2, .bool x3] w fun e w' => e = .returned (.bool true) ∧ Below w.heap.size w w' := by
  obtain ⟨h0, hm0, hs0, ht0⟩ := w0
  obtain ⟨A0, c0, rfl, -⟩ := h0.form
  unfold maxLen at hm0
  obtain ⟨h1, hm1, hi1⟩ := w1
  obtain ⟨A1, c1, rfl, -⟩ := h1.form
  unfold maxLen at hm1
  obtain ⟨h2, hm2, hi2⟩ := w2
  obtain ⟨A2, c2, rfl, -⟩ := h2.form
  unfold maxLen at hm2
  by_cases hl1 : l1.length ≤ 1048576
  rotate_left
  · have hlt : (1048576 : Int) < (l1.length : Int) := by omega
    clear h1
    clear h2
    go_enter Tryd.func5, Tryd.ntmps5
    go_wp2_with fail
    go_ret
    refine ⟨rfl, ?_⟩
    repeat refine Below.alloc ?_ (by first | exact Nat.le_refl _ | (simp only [World.size_alloc]; omega)) _
    exact Below.refl _ _
  by_cases hl2 : l2.length ≤ 1048576
  rotate_left
  · have hlt : (1048576 : Int) < (l2.length : Int) := by omega
    clear h1
    clear h2
    go_enter Tryd.func5, Tryd.ntmps5
    go_wp2_with fail
    go_ret
    refine ⟨rfl, ?_⟩
    repeat refine Below.alloc ?_ (by first | exact Nat.le_refl _ | (simp only [World.size_alloc]; omega)) _
    exact Below.refl _ _
  have b0_0 : Below w.heap.size w (w.alloc (.cells #[.int .i64 s0, .slice A0 l0.length c0] 24)) := (Below.refl _ _).alloc (Nat.le_refl _) _
  have e0_0 : Below w.heap.size w (w.alloc (.cells #[.int .i64 s0, .slice A0 l0.length c0] 24)) := b0_0
  have g0 := Blk.new w 24 #[.int .i64 s0, .slice A0 l0.length c0]
  by_cases hl0 : l0.length ≤ 1048576
  rotate_left
  · have hlt : (1048576 : Int) < (l0.length : Int) := by omega
    have HZ := Lib.hid (szGraph_no s0 (.slice A0 l0.length c0) l0 1048576 _ (h0.below e0_0) hlt (by omega) (by omega))
    clear h0 h1 h2
    obtain ⟨p0, p1, -, -⟩ := g0.two
    go_enter Tryd.func5, Tryd.ntmps5
    go_wp2_with fail
    refine HZ.out.mono ?_
    rintro e w1 ⟨rfl, b1⟩
    go_wp2_with fail
    go_ret
    exact ⟨rfl, btrans e0_0 b1⟩
  exact core s0 A0 c0 l0 A1 c1 l1 A2 c2 l2 x3 w h0 hl0 h1 hl1 h2 hl2 (Lib.hid (fun B0 B1 B2 d0 d1 d2 W k0 k1 k2 => specPla_any s0 x3 _ _ _ l0 l1 l2 W k0 hl0 k1 hl1 k2 hl2 hs0 ht0)) (Lib.hid hE) (Lib.hid (fun B0 B1 B2 d0 d1 d2 W k0 k1 k2 hv => implPla_any s0 x3 _ _ _ l0 l1 l2 W hv k0 hl0 k1 hl1 k2 hl2)) (pla_len s0 l0 x3 l1 l2)

theorem own : ownKnob Tryd.prog.godebug = none := by kernel_rfl
theorem laidOut : laidOutB Tryd.prog = true := by kernel_rfl

theorem door_met (os : Os) : laidMet Tryd.prog Rows.fnExactPlayAttacksRow.laid ((World.doorLaid Tryd.prog 400 os).forCall (fun _ _ => 0) ⟨#[], #[.agg #[.int .i64 0, .slice none 0 0], .slice none 0 0, .slice none 0 0, .bool false], []⟩).memory :=
  laidMet_of_run' 8 (by kernel_rfl) (by kernel_rfl)
theorem reads (os : Os) {H : Type} (enc : TypeId × Value → H) : ∃ places, DataW.whole enc Tryd.prog ((World.doorLaid Tryd.prog 400 os).forCall (fun _ _ => 0) ⟨#[], #[.agg #[.int .i64 0, .slice none 0 0], .slice none 0 0, .slice none 0 0, .bool false], []⟩).memory Tryd.f5.params.toList Rows.fnExactPlayAttacksSpec.vars false (#[.agg #[.int .i64 0, .slice none 0 0], .slice none 0 0, .slice none 0 0, .bool false] : Array Value).toList 8 = some ([.agg [.lit (.int .i64 0), .nil], .nil, .nil, .lit (.bool false)], [], places) :=
  ⟨[], by kernel_rfl⟩

set_option maxRecDepth 100000 in
theorem lifted (os : Os) (started : os.Started) (H : Type) (enc : TypeId × Value → H) (F : Stop.Interp) :
    ReturnsInHanded {} Tryd.checked os 5 .any ((OpenSpec.ofChange Rows.fnExactPlayAttacksSpec).preRow enc Tryd.prog Tryd.f5 Rows.fnExactPlayAttacksRow.domain false Rows.fnExactPlayAttacksRow.laid) (((OpenSpec.ofChange Rows.fnExactPlayAttacksSpec).at F).post enc Tryd.prog Tryd.f5 false true false false) := by
  obtain ⟨places, hx⟩ := reads os enc
  refine returnsInHanded_of_row (C := Tryd.checked) (s := OpenSpec.ofChange Rows.fnExactPlayAttacksSpec) own started (by kernel_rfl) Tryd.func5
    (witness_row_atRef (enc := enc) (C := Tryd.checked) false (World.doorLaid Tryd.prog 400 os) #[.agg #[.int .i64 0, .slice none 0 0], .slice none 0 0, .slice none 0 0, .bool false] rfl (by kernel_rfl) (by kernel_rfl) (by kernel_rfl)
      (OpenSpec.preRow_of_cond 8 hx (by kernel_rfl) (fun k hk => by cases hk) (by kernel_rfl) (door_met os))) ?_
  intro W base args ds gs before hval0 hW _ _ _ hL hsh _
  have hval : ∀ (j : Nat) t v, Tryd.f5.params[j]? = some t → args[j]? = some v → Value.okWide Tryd.prog W .any base t v := hval0
  have hW' := hW
  obtain ⟨p, q, hA0, hV, rfl, hfz, hnd⟩ := hW
  have hA : DataW.TrodAll enc Tryd.prog W 0 (fun _ => true) true Tryd.f5.params.toList args.toList ds p := hA0
  rw [Tryd.params5] at hA hval
  obtain ⟨v0, vs0, d0, ds0, p0, q0, hargs, rfl, rfl, h0, r0⟩ := trodAll_cons hA
  obtain ⟨v1, vs1, d1, ds1, p1, q1, rfl, rfl, rfl, h1, r1⟩ := trodAll_cons r0
  obtain ⟨v2, vs2, d2, ds2, p2, q2, rfl, rfl, rfl, h2, r2⟩ := trodAll_cons r1
  obtain ⟨v3, vs3, d3, ds3, p3, q3, rfl, rfl, rfl, h3, r3⟩ := trodAll_cons r2
  obtain ⟨rfl, rfl, rfl⟩ := trodAll_nil r3
  obtain rfl : args = #[v0, v1, v2, v3] := by cases args; simp_all
  obtain ⟨rfl, rfl⟩ := trodVars_none hV
  have k0 := h0
  have lt0 : ∀ x ∈ p0, x.block < W.heap.size := by obtain ⟨m, hm⟩ := k0; exact DataW.trod_lt m _ _ _ hm
  obtain ⟨s0, u0, l0, rfl, w0⟩ := opens.open_graph (hval 0 24 v0 rfl rfl) h0
  have k1 := h1
  have lt1 : ∀ x ∈ p1, x.block < W.heap.size := by obtain ⟨m, hm⟩ := k1; exact DataW.trod_lt m _ _ _ hm
  obtain ⟨u1, l1, rfl, w1⟩ := opens.open_intsl (hval 1 25 v1 rfl rfl) h1
  have k2 := h2
  have lt2 : ∀ x ∈ p2, x.block < W.heap.size := by obtain ⟨m, hm⟩ := k2; exact DataW.trod_lt m _ _ _ hm
  obtain ⟨u2, l2, rfl, w2⟩ := opens.open_intsl (hval 2 25 v2 rfl rfl) h2
  obtain ⟨a3, rfl, rfl, rfl⟩ := open_bool Tryd.underlying4 (hval 3 4 v3 rfl rfl) h3
  clear hA0 hval0
  refine (walk s0 u0 l0 v1 l1 v2 l2 a3 W (env_of hL) w0 w1 w2).mono fun e W' ⟨he, bel⟩ => ?_
  subst he
  exact ⟨_, rfl, _, _, _, [], _, [], hW', trodAll_mk1 (shut_bool Tryd.underlying4 _), (trodAll_cons_mk (Below.trod laidOut (by kernel_rfl) (of_decide_eq_true (by kernel_rfl)) k0 bel lt0) (trodAll_cons_mk (Below.trod laidOut (by kernel_rfl) (of_decide_eq_true (by kernel_rfl)) k1 bel lt1) (trodAll_cons_mk (Below.trod laidOut (by kernel_rfl) (of_decide_eq_true (by kernel_rfl)) k2 bel lt2) (trodAll_cons_mk (shut_bool Tryd.underlying4 _) trodAll_mk0)))), rfl, bel.frame _, fun h => by cases h⟩

theorem said : Rows.FnExactPlayAttacksSaid :=
  OpenClaim.holds_of_cond 5 Tryd.f5 rfl rfl rfl rfl rfl rfl rfl ⟨rfl, rfl, rfl, rfl, rfl⟩ rfl rfl rfl rfl rfl (by kernel_rfl) Tryd.func5 (by kernel_rfl)
    (of_decide_eq_true (by kernel_rfl)) (by unfold Func.isWrapper; first | (rw [if_pos (by decide +kernel)]; kernel_rfl) | (rw [if_neg (by decide +kernel)]; exact ⟨rfl, rfl⟩))
    (fun os started H enc _ F => by rw [OpenClaim.pre_eq_preRow]; exact lifted os started H enc F)

theorem plain (f : FuncId) (fn : Func) (hf : Tryd.pinned.checked.prog.funcNamed Rows.fnExactPlayAttacksRow.func = some f) (hfn : Tryd.pinned.checked.prog.funcs[f]? = some fn) :
    false = Tryd.pinned.checked.prog.looks [] ∧ ∀ (j : Nat) t, fn.params[j]? = some t → Tryd.pinned.checked.prog.wantsStandIn t = false := by
  obtain rfl : f = 5 := Option.some.inj ((show Tryd.prog.funcNamed Rows.fnExactPlayAttacksRow.func = some 5 by kernel_rfl).symm.trans hf) |>.symm
  obtain rfl : fn = Tryd.f5 := (Option.some.inj (Tryd.func5.symm.trans hfn)).symm
  refine ⟨by kernel_rfl, fun j t ht => ?_⟩
  rw [Tryd.params5] at ht
  have hm := Array.mem_of_getElem? ht
  have hall : ∀ t ∈ (#[24, 25, 25, 4] : Array TypeId), Tryd.prog.wantsStandIn t = false := by
    intro t ht
    simp at ht
    rcases ht with rfl | rfl | rfl
    all_goals kernel_rfl
  exact hall t hm

theorem fnExactPlayAttacks_card : Rows.FnExactPlayAttacksCardSaid :=
  Claim7.holds_tied_plain_at .later [] _ _ _ _ said (fun _ h => by cases h) (by kernel_rfl) (fun _ h => by cases h) fnExactPlayAttacks_row_tie rfl ⟨rfl, rfl⟩ (by kernel_rfl) rfl plain (by kernel_rfl)
end Go.Proofs.YtdhbaegkogklgaaDoor.exPla
