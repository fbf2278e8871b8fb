/- FnExactBestAnswer returns true for every Graph, every list of numbers, every number and both ways of moving: the program's BestAnswer and the model's return the same, in memory of their own, and write into nothing that was there. No conditions but the row's own about math/bits's tables. -/
import Derived.Test.YtdhbaegkogklgaaDoorCards
import Derived.Test.YtdhbaegkogklgaaDoorTie
import Derived.Test.YtdhbaegkogklgaaDoorK26
import Derived.Test.YtdhbaegkogklgaaDoorK07
import Derived.Test.YtdhbaegkogklgaaDoorRows
import Derived.ProofKit
import Derived.OpenShut
import Derived.ChangeOld
import Derived.Carry
import Derived.LaidMore
import Derived.Deep.DeepHandedRow
import Derived.Deep.DeepWitnessRowRef
namespace Go.Proofs.YtdhbaegkogklgaaDoor.exBan
open Go.ChangeShapes Go.WideShapes Go.ChangeAt Go.RowKit P2 words edges ints owns good adjs fns rets sets bags ups least gridr grid gridl _root_.Go.Proofs.YtdhbaegkogklgaaDoor.opens
set_option linter.unusedVariables false

set_option maxHeartbeats 4000000 in
set_option maxRecDepth 100000 in
theorem core (s0 : Int) (A0 : Option Addr) (c0 : Nat) (l0 : List Ed) (A1 : Option Addr) (c1 : Nat) (l1 : List Int) (x2 : Int) (x3 : Bool) (w : World) (h0 : Edges w (.slice A0 l0.length c0) l0) (hl0 : l0.length ≤ 1048576) (h1 : Ints w (.slice A1 l1.length c1) l1) (hl1 : l1.length ≤ 1048576)
    (HS : Hid (∀ (B0 : Option Addr) (d0 : Nat) (B1 : Option Addr) (d1 : Nat) (W : World), Edges W (.slice B0 l0.length d0) l0 → Ints W (.slice B1 l1.length d1) l1 → Calls Tryd.prog 16 #[.agg #[.int .i64 s0, .slice B0 l0.length d0], .slice B1 l1.length d1, .int .i64 x2, .bool x3] W fun e W' => ∃ Ar cr, e = .returned (.tuple #[.slice Ar (inG (BanOk s0 l0 x3 l1 x2) (banL s0 l0 x3 l1 x2)).length cr, .bool (okG (BanOk s0 l0 x3 l1 x2))]) ∧ W'.ownsRow W.heap.size 3 1 (.slice Ar (inG (BanOk s0 l0 x3 l1 x2) (banL s0 l0 x3 l1 x2)).length cr) (inG (BanOk s0 l0 x3 l1 x2) (banL s0 l0 x3 l1 x2)).length (cellsI (inG (BanOk s0 l0 x3 l1 x2) (banL s0 l0 x3 l1 x2))) ∧ Below W.heap.size W W'))
    (HEnv : Hid (Env w))
    (HI : Hid (∀ (B0 : Option Addr) (d0 : Nat) (B1 : Option Addr) (d1 : Nat) (W : World), Edges W (.slice B0 l0.length d0) l0 → Ints W (.slice B1 l1.length d1) l1 → Env W → Calls Tryd.prog 17 #[.agg #[.int .i64 s0, .slice B0 l0.length d0], .slice B1 l1.length d1, .int .i64 x2, .bool x3] W fun e W' => ∃ Ar cr, e = .returned (.tuple #[.slice Ar (inG (BanOk s0 l0 x3 l1 x2) (banL s0 l0 x3 l1 x2)).length cr, .bool (okG (BanOk s0 l0 x3 l1 x2))]) ∧ W'.ownsRow W.heap.size 3 1 (.slice Ar (inG (BanOk s0 l0 x3 l1 x2) (banL s0 l0 x3 l1 x2)).length cr) (inG (BanOk s0 l0 x3 l1 x2) (banL s0 l0 x3 l1 x2)).length (cellsI (inG (BanOk s0 l0 x3 l1 x2) (banL s0 l0 x3 l1 x2))) ∧ Below W.heap.size W W')) (hlen : (inG (BanOk s0 l0 x3 l1 x2) (banL s0 l0 x3 l1 x2)).length ≤ 1048576) :
    Calls Tryd.prog 4 #[.agg #[.int .i64 s0, .slice A0 l0.length c0], .slice A1 l1.length c1, .int .i64 x2, .bool x3] w fun e w' => e = .returned (.bool true) ∧ Below w.heap.size w w' := by
  have H0 := Lib.hid h0
  have H1 := Lib.hid h1
  have b0_0 : Below w.heap.size w (w.alloc (.cells #[.int .i64 s0, .slice A0 l0.length c0] 24)) := (Below.refl _ _).alloc (Nat.le_refl _) _
  have e0_0 : Below w.heap.size w (w.alloc (.cells #[.int .i64 s0, .slice A0 l0.length c0] 24)) := b0_0
  have g0 := Blk.new w 24 #[.int .i64 s0, .slice A0 l0.length c0]
  have z0_0 := Lib.hid b0_0.size
  have yag := Lib.hid g0.lt
  have hli1 : ((l1.length : Nat) : Int) ≤ 1048576 := by omega
  have hself : ∀ b : Bool, (b != b) = false := fun b => by simp
  clear h0 h1
  go_enter Tryd.func4, Tryd.ntmps4
  have hz0 : ((l0.length : Nat) : Int) ≤ 1048576 := by omega
  obtain ⟨pag0, pag1, -, -⟩ := g0.two
  go_wp2_with fail
  refine (szGraph_yes s0 (.slice A0 l0.length c0) l0 (1048576) (w.alloc (.cells #[.int .i64 s0, .slice A0 l0.length c0] 24)) (H0.out.below e0_0) (by omega) (by omega)).mono ?_
  rintro e w2 ⟨rfl, bw2⟩
  clear pag0 pag1
  have e0 := btrans e0_0 bw2
  have z0 := Lib.hid bw2.size
  replace g0 := g0.below bw2 g0.lt
  clear bw2
  obtain ⟨pag0, pag1, -, -⟩ := g0.two
  go_wp2_with fail
  refine (toGraph_any s0 (.slice A0 l0.length c0) l0 w2 (H0.out.below e0) hl0).mono ?_
  rintro e w3 ⟨Apg, cpg, rfl, opg, bw3⟩
  clear pag0 pag1
  have e1 := btrans e0 bw3
  have z1 := Lib.hid bw3.size
  replace g0 := g0.below bw3 g0.lt
  clear bw3 e0
  have opg_ := OwnR.new opg
  clear opg
  go_wp2_with fail
  refine (toIntS_any (.slice A1 l1.length c1) l1 w3 (H1.out.below e1) hl1).mono ?_
  rintro e w4 ⟨Apset, cpset, rfl, opset, bw4⟩
  have e2 := btrans e1 bw4
  have z2 := Lib.hid bw4.size
  replace g0 := g0.below bw4 g0.lt
  replace opg_ := opg_.below bw4
  clear bw4 e1
  have opset_ := OwnR.new opset
  clear opset
  go_wp2_with fail
  refine (HS.out Apg cpg Apset cpset w4 opg_.reads opset_.reads).mono ?_
  rintro e w5 ⟨Aw, cw, rfl, ow, bw5⟩
  have e3 := btrans e2 bw5
  have z3 := Lib.hid bw5.size
  replace g0 := g0.below bw5 g0.lt
  replace opg_ := opg_.below bw5
  replace opset_ := opset_.below bw5
  clear bw5 e2
  have ow_ := OwnR.new ow
  clear ow
  obtain ⟨pag0, pag1, -, -⟩ := g0.two
  go_wp2_with fail
  refine (toGraph_any s0 (.slice A0 l0.length c0) l0 w5 (H0.out.below e3) hl0).mono ?_
  rintro e w6 ⟨Axg, cxg, rfl, oxg, bw6⟩
  clear pag0 pag1
  have e4 := btrans e3 bw6
  have z4 := Lib.hid bw6.size
  replace g0 := g0.below bw6 g0.lt
  replace ow_ := ow_.below bw6
  clear bw6 e3
  have oxg_ := OwnR.new oxg
  clear oxg
  have bxxg : Below w6.heap.size w6 (w6.alloc (.cells #[.int .i64 s0, .slice Axg l0.length cxg] 29)) := (Below.refl _ _).alloc (Nat.le_refl _) _
  have gxg := Blk.new w6 29 #[.int .i64 s0, .slice Axg l0.length cxg]
  have e5 := btrans e4 bxxg
  have z5 := Lib.hid bxxg.size
  replace g0 := g0.below bxxg g0.lt
  replace ow_ := ow_.below bxxg
  replace oxg_ := oxg_.below bxxg
  clear bxxg e4
  have yxg := Lib.hid gxg.lt
  go_wp2_with fail
  refine (toIntS_any (.slice A1 l1.length c1) l1 (w6.alloc (.cells #[.int .i64 s0, .slice Axg l0.length cxg] 29)) (H1.out.below e5) hl1).mono ?_
  rintro e w7 ⟨Axset, cxset, rfl, oxset, bw7⟩
  have e6 := btrans e5 bw7
  have z6 := Lib.hid bw7.size
  replace g0 := g0.below bw7 g0.lt
  replace gxg := gxg.below bw7 gxg.lt
  replace ow_ := ow_.below bw7
  replace oxg_ := oxg_.below bw7
  clear bw7 e5
  have oxset_ := OwnR.new oxset
  clear oxset
  obtain ⟨pxg0, pxg1, -, -⟩ := gxg.two
  go_wp2_with fail
  refine (HI.out Axg cxg Axset cxset w7 oxg_.reads oxset_.reads (HEnv.out.next e6)).mono ?_
  rintro e w8 ⟨Ag, cg, rfl, og, bw8⟩
  clear pxg0 pxg1
  have e7 := btrans e6 bw8
  have z7 := Lib.hid bw8.size
  replace g0 := g0.below bw8 g0.lt
  replace gxg := gxg.below bw8 gxg.lt
  replace ow_ := ow_.below bw8
  replace oxg_ := oxg_.below bw8
  replace oxset_ := oxset_.below bw8
  clear bw8 e6
  have og_ := OwnR.new og
  clear og
  go_wp2_with fail
  refine (eqIntS_own _ _ (inG (BanOk s0 l0 x3 l1 x2) (banL s0 l0 x3 l1 x2)) w8 og_.reads ow_.reads hlen).mono ?_
  rintro e w9 ⟨rfl, bw9⟩
  have e8 := btrans e7 bw9
  have z8 := Lib.hid bw9.size
  replace g0 := g0.below bw9 g0.lt
  replace gxg := gxg.below bw9 gxg.lt
  replace ow_ := ow_.below bw9
  replace oxg_ := oxg_.below bw9
  replace oxset_ := oxset_.below bw9
  replace og_ := og_.below bw9
  clear bw9 e7
  obtain ⟨pag0, pag1, -, -⟩ := g0.two
  obtain ⟨pxg0, pxg1, -, -⟩ := gxg.two
  have HA := Lib.hid (H0.out.below e8)
  have HX := Lib.hid (oxg_.reads)
  go_wp2_with fail
  go_region_held3 (fun w' => w'.cell? ⟨w.heap.size, 0, none⟩ = some (.int .i64 s0) ∧ w'.cell? ⟨w.heap.size, 1, none⟩ = some (.slice A0 l0.length c0) ∧ w'.cell? ⟨w6.heap.size, 0, none⟩ = some (.int .i64 s0) ∧ w'.cell? ⟨w6.heap.size, 1, none⟩ = some (.slice Axg l0.length cxg)) (go_keep)
    (first | (go_at_call 11; refine (toGraph_k s0 (.slice A0 l0.length c0) l0 w9.drew HA.out hl0 (p := ⟨w.heap.size, 0, none⟩) (q := ⟨w.heap.size, 1, none⟩) (r := ⟨w6.heap.size, 0, none⟩) (t := ⟨w6.heap.size, 1, none⟩) (a := .int .i64 s0) (b := .slice A0 l0.length c0) (c := .int .i64 s0) (d := .slice Axg l0.length cxg) ?_ ?_ ?_ ?_).mono ?_; (simp [*]); (simp [*]); (simp [*]); (simp [*]); rintro e w10 ⟨⟨Ay, cy, rfl, oy⟩, k0, k1, k2, k3, bw10⟩)
           | (go_at_call 14; refine (eqGraph_k s0 _ _ l0 _ (Reads.below (w := w9.drew) HX.out bw10) (Reads.of_own oy) hl0 (p := ⟨w.heap.size, 0, none⟩) (q := ⟨w.heap.size, 1, none⟩) (r := ⟨w6.heap.size, 0, none⟩) (t := ⟨w6.heap.size, 1, none⟩) (a := .int .i64 s0) (b := .slice A0 l0.length c0) (c := .int .i64 s0) (d := .slice Axg l0.length cxg) ?_ ?_ ?_ ?_).mono ?_; (simp [*]); (simp [*]); (simp [*]); (simp [*]); rintro e w11 ⟨rfl, m0, m1, m2, m3, bw11⟩))
  clear k0 k1 k2 k3 m0 m1 m2 m3 HA HX oy
  clear pag0 pag1 pxg0 pxg1
  have cw10 : Below w9.heap.size w9 w10 := (Below.refl _ _).drew.trans bw10
  clear bw10
  have e9 := btrans e8 cw10
  have z9 := Lib.hid cw10.size
  replace g0 := g0.below cw10 g0.lt
  replace gxg := gxg.below cw10 gxg.lt
  replace ow_ := ow_.below cw10
  replace oxg_ := oxg_.below cw10
  replace oxset_ := oxset_.below cw10
  replace og_ := og_.below cw10
  clear cw10 e8
  have e10 := btrans e9 bw11
  have z10 := Lib.hid bw11.size
  replace g0 := g0.below bw11 g0.lt
  replace gxg := gxg.below bw11 gxg.lt
  replace ow_ := ow_.below bw11
  replace oxg_ := oxg_.below bw11
  replace oxset_ := oxset_.below bw11
  replace og_ := og_.below bw11
  clear bw11 e9
  go_wp2_with fail
  refine (toIntS_any (.slice A1 l1.length c1) l1 w11 (H1.out.below e10) hl1).mono ?_
  rintro e w12 ⟨Ayset, cyset, rfl, oyset, bw12⟩
  have e11 := btrans e10 bw12
  have z11 := Lib.hid bw12.size
  replace g0 := g0.below bw12 g0.lt
  replace gxg := gxg.below bw12 gxg.lt
  replace ow_ := ow_.below bw12
  replace oxg_ := oxg_.below bw12
  replace oxset_ := oxset_.below bw12
  replace og_ := og_.below bw12
  clear bw12 e10
  have oyset_ := OwnR.new oyset
  clear oyset
  go_wp2_with fail
  refine (eqIntS_own _ _ l1 w12 oxset_.reads oyset_.reads hl1).mono ?_
  rintro e w13 ⟨rfl, bw13⟩
  have e12 := btrans e11 bw13
  have z12 := Lib.hid bw13.size
  replace g0 := g0.below bw13 g0.lt
  replace gxg := gxg.below bw13 gxg.lt
  replace ow_ := ow_.below bw13
  replace oxg_ := oxg_.below bw13
  replace oxset_ := oxset_.below bw13
  replace og_ := og_.below bw13
  replace oyset_ := oyset_.below bw13
  clear bw13 e11
  clear oyset_
  obtain ⟨pxg0, pxg1, -, -⟩ := gxg.two
  go_wp2_with fail
  refine (markGraph_own s0 _ l0 _ _ (1) w13 oxg_ (by omega)).mono ?_
  rintro e w14 ⟨rfl, om, tw14⟩
  clear pxg0 pxg1
  have uz0_0 := z0_0.out
  have uyag := yag.out
  have uz0 := z0.out
  have uz1 := z1.out
  have uz2 := z2.out
  have uz3 := z3.out
  have uz4 := z4.out
  have uz5 := z5.out
  have uyxg := yxg.out
  have uz6 := z6.out
  have uz7 := z7.out
  have uz8 := z8.out
  have uz9 := z9.out
  have uz10 := z10.out
  have uz11 := z11.out
  have uz12 := z12.out
  have e13 : Below w.heap.size w w14 := e12.trans (tw14.below (by omega) (by omega))
  have z13 := Lib.hid tw14.size
  replace g0 := blk_turned g0 tw14 (by omega)
  replace gxg := blk_turned gxg tw14 (by omega)
  replace ow_ := ow_.turned tw14 (by omega)
  replace oxset_ := oxset_.turned tw14 (by omega)
  replace og_ := og_.turned tw14 (by omega)
  clear uz0_0 uyag uz0 uz1 uz2 uz3 uz4 uz5 uyxg uz6 uz7 uz8 uz9 uz10 uz11 uz12
  clear oxg_ tw14 e12
  have oxg_ := om
  clear om
  go_wp2_with fail
  refine (markIntS_own _ l1 _ _ (1 + 2 * l0.length) w14 oxset_ (by omega)).mono ?_
  rintro e w15 ⟨rfl, om, tw15⟩
  have uz0_0 := z0_0.out
  have uyag := yag.out
  have uz0 := z0.out
  have uz1 := z1.out
  have uz2 := z2.out
  have uz3 := z3.out
  have uz4 := z4.out
  have uz5 := z5.out
  have uyxg := yxg.out
  have uz6 := z6.out
  have uz7 := z7.out
  have uz8 := z8.out
  have uz9 := z9.out
  have uz10 := z10.out
  have uz11 := z11.out
  have uz12 := z12.out
  have uz13 := z13.out
  have e14 : Below w.heap.size w w15 := e13.trans (tw15.below (by omega) (by omega))
  have z14 := Lib.hid tw15.size
  replace g0 := blk_turned g0 tw15 (by omega)
  replace gxg := blk_turned gxg tw15 (by omega)
  replace ow_ := ow_.turned tw15 (by omega)
  replace oxg_ := oxg_.turned tw15 (by omega)
  replace og_ := og_.turned tw15 (by omega)
  clear uz0_0 uyag uz0 uz1 uz2 uz3 uz4 uz5 uyxg uz6 uz7 uz8 uz9 uz10 uz11 uz12 uz13
  clear oxset_ tw15 e13
  have oxset_ := om
  clear om
  go_wp2_with fail
  refine (eqIntS_own _ _ (inG (BanOk s0 l0 x3 l1 x2) (banL s0 l0 x3 l1 x2)) w15 og_.reads ow_.reads hlen).mono ?_
  rintro e w16 ⟨rfl, bw16⟩
  have e15 := btrans e14 bw16
  have z15 := Lib.hid bw16.size
  replace g0 := g0.below bw16 g0.lt
  replace gxg := gxg.below bw16 gxg.lt
  replace ow_ := ow_.below bw16
  replace oxg_ := oxg_.below bw16
  replace oxset_ := oxset_.below bw16
  replace og_ := og_.below bw16
  clear bw16 e14
  clear oxg_
  clear gxg
  clear oxset_
  go_wp2_with fail
  refine (markIntS_own _ (inG (BanOk s0 l0 x3 l1 x2) (banL s0 l0 x3 l1 x2)) _ _ 1 w16 og_ (by omega)).mono ?_
  rintro e w17 ⟨rfl, om, tw17⟩
  have uz0_0 := z0_0.out
  have uyag := yag.out
  have uz0 := z0.out
  have uz1 := z1.out
  have uz2 := z2.out
  have uz3 := z3.out
  have uz4 := z4.out
  have uz5 := z5.out
  have uyxg := yxg.out
  have uz6 := z6.out
  have uz7 := z7.out
  have uz8 := z8.out
  have uz9 := z9.out
  have uz10 := z10.out
  have uz11 := z11.out
  have uz12 := z12.out
  have uz13 := z13.out
  have uz14 := z14.out
  have uz15 := z15.out
  have e16 : Below w.heap.size w w17 := e15.trans (tw17.below (by omega) (by omega))
  have z16 := Lib.hid tw17.size
  replace g0 := blk_turned g0 tw17 (by omega)
  replace ow_ := ow_.turned tw17 (by omega)
  clear uz0_0 uyag uz0 uz1 uz2 uz3 uz4 uz5 uyxg uz6 uz7 uz8 uz9 uz10 uz11 uz12 uz13 uz14 uz15
  clear og_ tw17 e15
  have og_ := om
  clear om
  go_wp2_with fail
  refine (heldIntS_own _ (inG (BanOk s0 l0 x3 l1 x2) (banL s0 l0 x3 l1 x2)).length _ _ 1 w17 og_ (by omega)).mono ?_
  rintro e w18 ⟨rfl, bw18⟩
  have e17 := btrans e16 bw18
  have z17 := Lib.hid bw18.size
  replace g0 := g0.below bw18 g0.lt
  replace ow_ := ow_.below bw18
  replace og_ := og_.below bw18
  clear bw18 e16
  obtain ⟨pag0, pag1, -, -⟩ := g0.two
  go_wp2_with fail
  refine (toGraph_any s0 (.slice A0 l0.length c0) l0 w18 (H0.out.below e17) hl0).mono ?_
  rintro e w19 ⟨Aqg, cqg, rfl, oqg, bw19⟩
  clear pag0 pag1
  have e18 := btrans e17 bw19
  have z18 := Lib.hid bw19.size
  replace g0 := g0.below bw19 g0.lt
  replace ow_ := ow_.below bw19
  replace og_ := og_.below bw19
  clear bw19 e17
  have oqg_ := OwnR.new oqg
  clear oqg
  go_wp2_with fail
  refine (toIntS_any (.slice A1 l1.length c1) l1 w19 (H1.out.below e18) hl1).mono ?_
  rintro e w20 ⟨Aqset, cqset, rfl, oqset, bw20⟩
  have e19 := btrans e18 bw20
  have z19 := Lib.hid bw20.size
  replace g0 := g0.below bw20 g0.lt
  replace ow_ := ow_.below bw20
  replace og_ := og_.below bw20
  replace oqg_ := oqg_.below bw20
  clear bw20 e18
  have oqset_ := OwnR.new oqset
  clear oqset
  go_wp2_with fail
  refine (HI.out Aqg cqg Aqset cqset w20 oqg_.reads oqset_.reads (HEnv.out.next e19)).mono ?_
  rintro e w21 ⟨Ah, ch, rfl, oh, bw21⟩
  have e20 := btrans e19 bw21
  have z20 := Lib.hid bw21.size
  replace g0 := g0.below bw21 g0.lt
  replace ow_ := ow_.below bw21
  replace og_ := og_.below bw21
  replace oqg_ := oqg_.below bw21
  replace oqset_ := oqset_.below bw21
  clear bw21 e19
  have oh_ := OwnR.new oh
  clear oh
  clear oqg_
  clear oqset_
  go_wp2_with fail
  refine (eqIntS_own _ _ (inG (BanOk s0 l0 x3 l1 x2) (banL s0 l0 x3 l1 x2)) w21 oh_.reads ow_.reads hlen).mono ?_
  rintro e w22 ⟨rfl, bw22⟩
  have e21 := btrans e20 bw22
  have z21 := Lib.hid bw22.size
  replace g0 := g0.below bw22 g0.lt
  replace ow_ := ow_.below bw22
  replace og_ := og_.below bw22
  replace oh_ := oh_.below bw22
  clear bw22 e20
  go_wp2_with fail
  refine (heldIntS_own _ (inG (BanOk s0 l0 x3 l1 x2) (banL s0 l0 x3 l1 x2)).length _ _ 1 w22 og_ (by omega)).mono ?_
  rintro e w23 ⟨rfl, bw23⟩
  have e22 := btrans e21 bw23
  have z22 := Lib.hid bw23.size
  replace g0 := g0.below bw23 g0.lt
  replace ow_ := ow_.below bw23
  replace og_ := og_.below bw23
  replace oh_ := oh_.below bw23
  clear bw23 e21
  go_wp2_with fail
  go_ret
  exact ⟨rfl, e22⟩

set_option maxHeartbeats 1000000 in
set_option maxRecDepth 100000 in
theorem walk (s0 : Int) (u0 : Value) (l0 : List Ed) (u1 : Value) (l1 : List Int) (x2 : Int) (x3 : Bool) (w : World) (hE : Env w) (w0 : IsGr w s0 u0 l0) (w1 : IsIn w u1 l1) (w2 : (Lit.int .i64 x2).wf = true) :
    Calls Tryd.prog 4 #[.agg #[.int .i64 s0, u0], u1, .int .i64 x2, .bool x3] w fun e w' => e = .returned (.bool true) ∧ Below w.heap.size w w' := by
  obtain ⟨h0, hm0, hs0, ht0⟩ := w0
  obtain ⟨A0, c0, rfl, -⟩ := h0.form
  unfold maxLen at hm0
  obtain ⟨h1, hm1, hi1⟩ := w1
  obtain ⟨A1, c1, rfl, -⟩ := h1.form
  unfold maxLen at hm1
  have hb2 := opens.bounds64 w2
  clear w2
  by_cases hl1 : l1.length ≤ 1048576
  rotate_left
  · have hlt : (1048576 : Int) < (l1.length : Int) := by omega
    clear h1
    go_enter Tryd.func4, Tryd.ntmps4
    go_wp2_with fail
    go_ret
    refine ⟨rfl, ?_⟩
    repeat refine Below.alloc ?_ (by first | exact Nat.le_refl _ | (simp only [World.size_alloc]; omega)) _
    exact Below.refl _ _
  have b0_0 : Below w.heap.size w (w.alloc (.cells #[.int .i64 s0, .slice A0 l0.length c0] 24)) := (Below.refl _ _).alloc (Nat.le_refl _) _
  have e0_0 : Below w.heap.size w (w.alloc (.cells #[.int .i64 s0, .slice A0 l0.length c0] 24)) := b0_0
  have g0 := Blk.new w 24 #[.int .i64 s0, .slice A0 l0.length c0]
  by_cases hl0 : l0.length ≤ 1048576
  rotate_left
  · have hlt : (1048576 : Int) < (l0.length : Int) := by omega
    have HZ := Lib.hid (szGraph_no s0 (.slice A0 l0.length c0) l0 1048576 _ (h0.below e0_0) hlt (by omega) (by omega))
    clear h0 h1
    obtain ⟨p0, p1, -, -⟩ := g0.two
    go_enter Tryd.func4, Tryd.ntmps4
    go_wp2_with fail
    refine HZ.out.mono ?_
    rintro e w1 ⟨rfl, b1⟩
    go_wp2_with fail
    go_ret
    exact ⟨rfl, btrans e0_0 b1⟩
  exact core s0 A0 c0 l0 A1 c1 l1 x2 x3 w h0 hl0 h1 hl1 (Lib.hid (fun B0 B1 d0 d1 W k0 k1 => specBan_any s0 x2 x3 _ _ l0 l1 W k0 hl0 k1 hl1 hs0 ht0)) (Lib.hid hE) (Lib.hid (fun B0 B1 d0 d1 W k0 k1 hv => implBan_any s0 x2 x3 _ _ l0 l1 W hv k0 hl0 k1 hl1)) (ban_len s0 x2 l0 x3 l1)

theorem own : ownKnob Tryd.prog.godebug = none := by kernel_rfl
theorem laidOut : laidOutB Tryd.prog = true := by kernel_rfl

theorem door_met (os : Os) : laidMet Tryd.prog Rows.fnExactBestAnswerRow.laid ((World.doorLaid Tryd.prog 400 os).forCall (fun _ _ => 0) ⟨#[], #[.agg #[.int .i64 0, .slice none 0 0], .slice none 0 0, .int .i64 0, .bool false], []⟩).memory :=
  laidMet_of_run' 8 (by kernel_rfl) (by kernel_rfl)
theorem reads (os : Os) {H : Type} (enc : TypeId × Value → H) : ∃ places, DataW.whole enc Tryd.prog ((World.doorLaid Tryd.prog 400 os).forCall (fun _ _ => 0) ⟨#[], #[.agg #[.int .i64 0, .slice none 0 0], .slice none 0 0, .int .i64 0, .bool false], []⟩).memory Tryd.f4.params.toList Rows.fnExactBestAnswerSpec.vars false (#[.agg #[.int .i64 0, .slice none 0 0], .slice none 0 0, .int .i64 0, .bool false] : Array Value).toList 8 = some ([.agg [.lit (.int .i64 0), .nil], .nil, .lit (.int .i64 0), .lit (.bool false)], [], places) :=
  ⟨[], by kernel_rfl⟩

set_option maxRecDepth 100000 in
theorem lifted (os : Os) (started : os.Started) (H : Type) (enc : TypeId × Value → H) (F : Stop.Interp) :
    ReturnsInHanded {} Tryd.checked os 4 .any ((OpenSpec.ofChange Rows.fnExactBestAnswerSpec).preRow enc Tryd.prog Tryd.f4 Rows.fnExactBestAnswerRow.domain false Rows.fnExactBestAnswerRow.laid) (((OpenSpec.ofChange Rows.fnExactBestAnswerSpec).at F).post enc Tryd.prog Tryd.f4 false true false false) := by
  obtain ⟨places, hx⟩ := reads os enc
  refine returnsInHanded_of_row (C := Tryd.checked) (s := OpenSpec.ofChange Rows.fnExactBestAnswerSpec) own started (by kernel_rfl) Tryd.func4
    (witness_row_atRef (enc := enc) (C := Tryd.checked) false (World.doorLaid Tryd.prog 400 os) #[.agg #[.int .i64 0, .slice none 0 0], .slice none 0 0, .int .i64 0, .bool false] rfl (by kernel_rfl) (by kernel_rfl) (by kernel_rfl)
      (OpenSpec.preRow_of_cond 8 hx (by kernel_rfl) (fun k hk => by cases hk) (by kernel_rfl) (door_met os))) ?_
  intro W base args ds gs before hval0 hW _ _ _ hL hsh _
  have hval : ∀ (j : Nat) t v, Tryd.f4.params[j]? = some t → args[j]? = some v → Value.okWide Tryd.prog W .any base t v := hval0
  have hW' := hW
  obtain ⟨p, q, hA0, hV, rfl, hfz, hnd⟩ := hW
  have hA : DataW.TrodAll enc Tryd.prog W 0 (fun _ => true) true Tryd.f4.params.toList args.toList ds p := hA0
  rw [Tryd.params4] at hA hval
  obtain ⟨v0, vs0, d0, ds0, p0, q0, hargs, rfl, rfl, h0, r0⟩ := trodAll_cons hA
  obtain ⟨v1, vs1, d1, ds1, p1, q1, rfl, rfl, rfl, h1, r1⟩ := trodAll_cons r0
  obtain ⟨v2, vs2, d2, ds2, p2, q2, rfl, rfl, rfl, h2, r2⟩ := trodAll_cons r1
  obtain ⟨v3, vs3, d3, ds3, p3, q3, rfl, rfl, rfl, h3, r3⟩ := trodAll_cons r2
  obtain ⟨rfl, rfl, rfl⟩ := trodAll_nil r3
  obtain rfl : args = #[v0, v1, v2, v3] := by cases args; simp_all
  obtain ⟨rfl, rfl⟩ := trodVars_none hV
  have k0 := h0
  have lt0 : ∀ x ∈ p0, x.block < W.heap.size := by obtain ⟨m, hm⟩ := k0; exact DataW.trod_lt m _ _ _ hm
  obtain ⟨s0, u0, l0, rfl, w0⟩ := opens.open_graph (hval 0 24 v0 rfl rfl) h0
  have k1 := h1
  have lt1 : ∀ x ∈ p1, x.block < W.heap.size := by obtain ⟨m, hm⟩ := k1; exact DataW.trod_lt m _ _ _ hm
  obtain ⟨u1, l1, rfl, w1⟩ := opens.open_intsl (hval 1 25 v1 rfl rfl) h1
  obtain ⟨a2, rfl, rfl, rfl, w2⟩ := open_int Tryd.underlying3 (hval 2 3 v2 rfl rfl) h2
  obtain ⟨a3, rfl, rfl, rfl⟩ := open_bool Tryd.underlying4 (hval 3 4 v3 rfl rfl) h3
  clear hA0 hval0
  refine (walk s0 u0 l0 v1 l1 a2 a3 W (env_of hL) w0 w1 w2).mono fun e W' ⟨he, bel⟩ => ?_
  subst he
  exact ⟨_, rfl, _, _, _, [], _, [], hW', trodAll_mk1 (shut_bool Tryd.underlying4 _), (trodAll_cons_mk (Below.trod laidOut (by kernel_rfl) (of_decide_eq_true (by kernel_rfl)) k0 bel lt0) (trodAll_cons_mk (Below.trod laidOut (by kernel_rfl) (of_decide_eq_true (by kernel_rfl)) k1 bel lt1) (trodAll_cons_mk (shut_int Tryd.underlying3 w2) (trodAll_cons_mk (shut_bool Tryd.underlying4 _) trodAll_mk0)))), rfl, bel.frame _, fun h => by cases h⟩

theorem said : Rows.FnExactBestAnswerSaid :=
  OpenClaim.holds_of_cond 4 Tryd.f4 rfl rfl rfl rfl rfl rfl rfl ⟨rfl, rfl, rfl, rfl, rfl⟩ rfl rfl rfl rfl rfl (by kernel_rfl) Tryd.func4 (by kernel_rfl)
    (of_decide_eq_true (by kernel_rfl)) (by unfold Func.isWrapper; first | (rw [if_pos (by decide +kernel)]; kernel_rfl) | (rw [if_neg (by decide +kernel)]; exact ⟨rfl, rfl⟩))
    (fun os started H enc _ F => by rw [OpenClaim.pre_eq_preRow]; exact lifted os started H enc F)

theorem plain (f : FuncId) (fn : Func) (hf : Tryd.pinned.checked.prog.funcNamed Rows.fnExactBestAnswerRow.func = some f) (hfn : Tryd.pinned.checked.prog.funcs[f]? = some fn) :
    false = Tryd.pinned.checked.prog.looks [] ∧ ∀ (j : Nat) t, fn.params[j]? = some t → Tryd.pinned.checked.prog.wantsStandIn t = false := by
  obtain rfl : f = 4 := Option.some.inj ((show Tryd.prog.funcNamed Rows.fnExactBestAnswerRow.func = some 4 by kernel_rfl).symm.trans hf) |>.symm
  obtain rfl : fn = Tryd.f4 := (Option.some.inj (Tryd.func4.symm.trans hfn)).symm
  refine ⟨by kernel_rfl, fun j t ht => ?_⟩
  rw [Tryd.params4] at ht
  have hm := Array.mem_of_getElem? ht
  have hall : ∀ t ∈ (#[24, 25, 3, 4] : Array TypeId), Tryd.prog.wantsStandIn t = false := by
    intro t ht
    simp at ht
    rcases ht with rfl | rfl | rfl | rfl
    all_goals kernel_rfl
  exact hall t hm

theorem fnExactBestAnswer_card : Rows.FnExactBestAnswerCardSaid :=
  Claim7.holds_tied_plain_at .later [] _ _ _ _ said (fun _ h => by cases h) (by kernel_rfl) (fun _ h => by cases h) fnExactBestAnswer_row_tie rfl ⟨rfl, rfl⟩ (by kernel_rfl) rfl plain (by kernel_rfl)
end Go.Proofs.YtdhbaegkogklgaaDoor.exBan
