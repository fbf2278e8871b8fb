/- FnExactBrambleCover returns true for every Graph and every list of lists of numbers: the program's BrambleCover and the model's return the same, in memory of their own, and write into nothing that was there. No conditions but the row's own about math/bits's tables. -/
import Derived.Test.YtdhbaegkogklgaaDoorCards
import Derived.Test.YtdhbaegkogklgaaDoorTie
import Derived.Test.YtdhbaegkogklgaaDoorK26
import Derived.Test.YtdhbaegkogklgaaDoorKExBrc0
import Derived.Test.YtdhbaegkogklgaaDoorK07
import Derived.Test.YtdhbaegkogklgaaDoorRows
import Derived.ProofKit
import Derived.OpenShut
import Derived.ChangeOld
import Derived.Carry
import Derived.LaidMore
import Derived.Deep.DeepHandedRow
import Derived.Deep.DeepWitnessRowRef
namespace Go.Proofs.YtdhbaegkogklgaaDoor.exBrc
open Go.ChangeShapes Go.WideShapes Go.ChangeAt Go.RowKit P2 words edges ints owns good adjs fns rets sets bags ups least joins _root_.Go.Proofs.YtdhbaegkogklgaaDoor.opens
set_option linter.unusedVariables false

/-- one row of a table is no longer than all together -/
theorem tot_mem : ∀ {rows : List (List Int)} {r : List Int}, r ∈ rows → r.length ≤ gridl.tot rows
  | x :: rs, r, h => by
    have e : gridl.tot (x :: rs) = x.length + gridl.tot rs := by simp [gridl.tot]
    rcases List.mem_cons.1 h with rfl | h
    · omega
    · have := tot_mem h; omega
set_option maxHeartbeats 4000000 in
set_option maxRecDepth 100000 in
theorem core (s0 : Int) (A0 : Option Addr) (c0 : Nat) (l0 : List Ed) (A1 : Option Addr) (c1 : Nat) (q1 : List Value) (l1 : List (List Int)) (w : World) (h0 : Edges w (.slice A0 l0.length c0) l0) (hl0 : l0.length ≤ 1048576) (h1 : gridr.ReadsG w (.slice A1 l1.length c1) q1 l1) (hl1 : gridl.tot l1 ≤ 1048576) (hm1 : l1.length ≤ 1048576) (hb1 : l0.length + l1.length + gridl.tot l1 ≤ 1048576)
    (HS : Hid (∀ (B0 : Option Addr) (d0 : Nat) (B1 : Option Addr) (d1 : Nat) (q1 : List Value) (W : World), Edges W (.slice B0 l0.length d0) l0 → gridr.ReadsG W (.slice B1 l1.length d1) q1 l1 → Calls Tryd.prog 27 #[.agg #[.int .i64 s0, .slice B0 l0.length d0], .slice B1 l1.length d1] W fun e W' => ∃ Ar cr, e = .returned (.tuple #[.slice Ar (inG (BramP s0 l0 l1) (ndN (bcN s0.toNat l1))).length cr, .bool (okG (BramP s0 l0 l1))]) ∧ W'.ownsRow W.heap.size 3 1 (.slice Ar (inG (BramP s0 l0 l1) (ndN (bcN s0.toNat l1))).length cr) (inG (BramP s0 l0 l1) (ndN (bcN s0.toNat l1))).length (cellsI (inG (BramP s0 l0 l1) (ndN (bcN s0.toNat l1)))) ∧ Below W.heap.size W W'))
    (HEnv : Hid (Env w))
    (HI : Hid (∀ (B0 : Option Addr) (d0 : Nat) (B1 : Option Addr) (d1 : Nat) (q1 : List Value) (W : World), Edges W (.slice B0 l0.length d0) l0 → gridr.ReadsG W (.slice B1 l1.length d1) q1 l1 → Env W → Calls Tryd.prog 29 #[.agg #[.int .i64 s0, .slice B0 l0.length d0], .slice B1 l1.length d1] W fun e W' => ∃ Ar cr, e = .returned (.tuple #[.slice Ar (inG (BramP s0 l0 l1) (ndN (bcN s0.toNat l1))).length cr, .bool (okG (BramP s0 l0 l1))]) ∧ W'.ownsRow W.heap.size 3 1 (.slice Ar (inG (BramP s0 l0 l1) (ndN (bcN s0.toNat l1))).length cr) (inG (BramP s0 l0 l1) (ndN (bcN s0.toNat l1))).length (cellsI (inG (BramP s0 l0 l1) (ndN (bcN s0.toNat l1)))) ∧ Below W.heap.size W W')) (hlen : (inG (BramP s0 l0 l1) (ndN (bcN s0.toNat l1))).length ≤ 1048576) :
    Calls Tryd.prog 6 #[.agg #[.int .i64 s0, .slice A0 l0.length c0], .slice A1 l1.length c1] w fun e w' => e = .returned (.bool true) ∧ Below w.heap.size w w' := by
  have H0 := Lib.hid h0
  have H1 := Lib.hid h1
  have b0_0 : Below w.heap.size w (w.alloc (.cells #[.int .i64 s0, .slice A0 l0.length c0] 24)) := (Below.refl _ _).alloc (Nat.le_refl _) _
  have e0_0 : Below w.heap.size w (w.alloc (.cells #[.int .i64 s0, .slice A0 l0.length c0] 24)) := b0_0
  have g0 := Blk.new w 24 #[.int .i64 s0, .slice A0 l0.length c0]
  have z0_0 := Lib.hid b0_0.size
  have yag := Lib.hid g0.lt
  have hself : ∀ b : Bool, (b != b) = false := fun b => by simp
  clear h0 h1
  go_enter Tryd.func6, Tryd.ntmps6
  have hz0 : ((l0.length : Nat) : Int) ≤ 1048576 := by omega
  obtain ⟨pag0, pag1, -, -⟩ := g0.two
  go_wp2_with fail
  refine (szGraph_yes s0 (.slice A0 l0.length c0) l0 (1048576) (w.alloc (.cells #[.int .i64 s0, .slice A0 l0.length c0] 24)) (H0.out.below e0_0) (by omega) (by omega)).mono ?_
  rintro e w2 ⟨rfl, bw2⟩
  clear pag0 pag1
  have e0 := btrans e0_0 bw2
  have z0 := Lib.hid bw2.size
  replace g0 := g0.below bw2 g0.lt
  clear bw2
  go_wp2_with fail
  refine (gridl.szIntSS_yes (.slice A1 l1.length c1) q1 l1 (1048576 - (l0.length : Int)) w2 (H1.out.below e0) (by omega) (by omega) (by omega)).mono ?_
  rintro e w3 ⟨rfl, bw3⟩
  have e1 := btrans e0 bw3
  have z1 := Lib.hid bw3.size
  replace g0 := g0.below bw3 g0.lt
  clear bw3 e0
  have hy1 : ¬ (1048576 - (l0.length : Int) - (l1.length : Int) - (gridl.tot l1 : Int) < 0) := by omega
  obtain ⟨pag0, pag1, -, -⟩ := g0.two
  go_wp2_with fail
  refine (toGraph_any s0 (.slice A0 l0.length c0) l0 w3 (H0.out.below e1) hl0).mono ?_
  rintro e w4 ⟨Apg, cpg, rfl, opg, bw4⟩
  clear pag0 pag1
  have e2 := btrans e1 bw4
  have z2 := Lib.hid bw4.size
  replace g0 := g0.below bw4 g0.lt
  clear bw4 e1
  have opg_ := OwnR.new opg
  clear opg
  go_wp2_with fail
  refine (gridl.toIntSS_any (.slice A1 l1.length c1) q1 l1 w4 (H1.out.below e2) hl1 hm1).mono ?_
  rintro e w5 ⟨Apsets, cpsets, uspsets, rfl, opsets, bw5⟩
  have e3 := btrans e2 bw5
  have z3 := Lib.hid bw5.size
  replace g0 := g0.below bw5 g0.lt
  replace opg_ := opg_.below bw5
  clear bw5 e2
  have opsets_ := gridl.OwnGR.new opsets
  clear opsets
  go_wp2_with fail
  refine (HS.out Apg cpg Apsets cpsets uspsets w5 opg_.reads opsets_.reads).mono ?_
  rintro e w6 ⟨Aw, cw, rfl, ow, bw6⟩
  have e4 := btrans e3 bw6
  have z4 := Lib.hid bw6.size
  replace g0 := g0.below bw6 g0.lt
  replace opg_ := opg_.below bw6
  replace opsets_ := opsets_.below bw6
  clear bw6 e3
  have ow_ := OwnR.new ow
  clear ow
  obtain ⟨pag0, pag1, -, -⟩ := g0.two
  go_wp2_with fail
  refine (toGraph_any s0 (.slice A0 l0.length c0) l0 w6 (H0.out.below e4) hl0).mono ?_
  rintro e w7 ⟨Axg, cxg, rfl, oxg, bw7⟩
  clear pag0 pag1
  have e5 := btrans e4 bw7
  have z5 := Lib.hid bw7.size
  replace g0 := g0.below bw7 g0.lt
  replace ow_ := ow_.below bw7
  clear bw7 e4
  have oxg_ := OwnR.new oxg
  clear oxg
  have bxxg : Below w7.heap.size w7 (w7.alloc (.cells #[.int .i64 s0, .slice Axg l0.length cxg] 29)) := (Below.refl _ _).alloc (Nat.le_refl _) _
  have gxg := Blk.new w7 29 #[.int .i64 s0, .slice Axg l0.length cxg]
  have e6 := btrans e5 bxxg
  have z6 := Lib.hid bxxg.size
  replace g0 := g0.below bxxg g0.lt
  replace ow_ := ow_.below bxxg
  replace oxg_ := oxg_.below bxxg
  clear bxxg e5
  have yxg := Lib.hid gxg.lt
  go_wp2_with fail
  refine (gridl.toIntSS_any (.slice A1 l1.length c1) q1 l1 (w7.alloc (.cells #[.int .i64 s0, .slice Axg l0.length cxg] 29)) (H1.out.below e6) hl1 hm1).mono ?_
  rintro e w8 ⟨Axsets, cxsets, usxsets, rfl, oxsets, bw8⟩
  have e7 := btrans e6 bw8
  have z7 := Lib.hid bw8.size
  replace g0 := g0.below bw8 g0.lt
  replace gxg := gxg.below bw8 gxg.lt
  replace ow_ := ow_.below bw8
  replace oxg_ := oxg_.below bw8
  clear bw8 e6
  have oxsets_ := gridl.OwnGR.new oxsets
  clear oxsets
  obtain ⟨pxg0, pxg1, -, -⟩ := gxg.two
  go_wp2_with fail
  refine (HI.out Axg cxg Axsets cxsets usxsets w8 oxg_.reads oxsets_.reads (HEnv.out.next e7)).mono ?_
  rintro e w9 ⟨Ag, cg, rfl, og, bw9⟩
  clear pxg0 pxg1
  have e8 := btrans e7 bw9
  have z8 := Lib.hid bw9.size
  replace g0 := g0.below bw9 g0.lt
  replace gxg := gxg.below bw9 gxg.lt
  replace ow_ := ow_.below bw9
  replace oxg_ := oxg_.below bw9
  replace oxsets_ := oxsets_.below bw9
  clear bw9 e7
  have og_ := OwnR.new og
  clear og
  go_wp2_with fail
  refine (eqIntS_own _ _ (inG (BramP s0 l0 l1) (ndN (bcN s0.toNat l1))) w9 og_.reads ow_.reads hlen).mono ?_
  rintro e w10 ⟨rfl, bw10⟩
  have e9 := btrans e8 bw10
  have z9 := Lib.hid bw10.size
  replace g0 := g0.below bw10 g0.lt
  replace gxg := gxg.below bw10 gxg.lt
  replace ow_ := ow_.below bw10
  replace oxg_ := oxg_.below bw10
  replace oxsets_ := oxsets_.below bw10
  replace og_ := og_.below bw10
  clear bw10 e8
  obtain ⟨pag0, pag1, -, -⟩ := g0.two
  obtain ⟨pxg0, pxg1, -, -⟩ := gxg.two
  have HA := Lib.hid (H0.out.below e9)
  have HX := Lib.hid (oxg_.reads)
  go_wp2_with fail
  go_region_held3 (fun w' => w'.cell? ⟨w.heap.size, 0, none⟩ = some (.int .i64 s0) ∧ w'.cell? ⟨w.heap.size, 1, none⟩ = some (.slice A0 l0.length c0) ∧ w'.cell? ⟨w7.heap.size, 0, none⟩ = some (.int .i64 s0) ∧ w'.cell? ⟨w7.heap.size, 1, none⟩ = some (.slice Axg l0.length cxg)) (go_keep)
    (first | (go_at_call 11; refine (toGraph_k s0 (.slice A0 l0.length c0) l0 w10.drew HA.out hl0 (p := ⟨w.heap.size, 0, none⟩) (q := ⟨w.heap.size, 1, none⟩) (r := ⟨w7.heap.size, 0, none⟩) (t := ⟨w7.heap.size, 1, none⟩) (a := .int .i64 s0) (b := .slice A0 l0.length c0) (c := .int .i64 s0) (d := .slice Axg l0.length cxg) ?_ ?_ ?_ ?_).mono ?_; (simp [*]); (simp [*]); (simp [*]); (simp [*]); rintro e w11 ⟨⟨Ay, cy, rfl, oy⟩, k0, k1, k2, k3, bw11⟩)
           | (go_at_call 14; refine (eqGraph_k s0 _ _ l0 _ (Reads.below (w := w10.drew) HX.out bw11) (Reads.of_own oy) hl0 (p := ⟨w.heap.size, 0, none⟩) (q := ⟨w.heap.size, 1, none⟩) (r := ⟨w7.heap.size, 0, none⟩) (t := ⟨w7.heap.size, 1, none⟩) (a := .int .i64 s0) (b := .slice A0 l0.length c0) (c := .int .i64 s0) (d := .slice Axg l0.length cxg) ?_ ?_ ?_ ?_).mono ?_; (simp [*]); (simp [*]); (simp [*]); (simp [*]); rintro e w12 ⟨rfl, m0, m1, m2, m3, bw12⟩))
  clear k0 k1 k2 k3 m0 m1 m2 m3 HA HX oy
  clear pag0 pag1 pxg0 pxg1
  have cw11 : Below w10.heap.size w10 w11 := (Below.refl _ _).drew.trans bw11
  clear bw11
  have e10 := btrans e9 cw11
  have z10 := Lib.hid cw11.size
  replace g0 := g0.below cw11 g0.lt
  replace gxg := gxg.below cw11 gxg.lt
  replace ow_ := ow_.below cw11
  replace oxg_ := oxg_.below cw11
  replace oxsets_ := oxsets_.below cw11
  replace og_ := og_.below cw11
  clear cw11 e9
  have e11 := btrans e10 bw12
  have z11 := Lib.hid bw12.size
  replace g0 := g0.below bw12 g0.lt
  replace gxg := gxg.below bw12 gxg.lt
  replace ow_ := ow_.below bw12
  replace oxg_ := oxg_.below bw12
  replace oxsets_ := oxsets_.below bw12
  replace og_ := og_.below bw12
  clear bw12 e10
  go_wp2_with fail
  refine (gridl.toIntSS_any (.slice A1 l1.length c1) q1 l1 w12 (H1.out.below e11) hl1 hm1).mono ?_
  rintro e w13 ⟨Aysets, cysets, usysets, rfl, oysets, bw13⟩
  have e12 := btrans e11 bw13
  have z12 := Lib.hid bw13.size
  replace g0 := g0.below bw13 g0.lt
  replace gxg := gxg.below bw13 gxg.lt
  replace ow_ := ow_.below bw13
  replace oxg_ := oxg_.below bw13
  replace oxsets_ := oxsets_.below bw13
  replace og_ := og_.below bw13
  clear bw13 e11
  have oysets_ := gridl.OwnGR.new oysets
  clear oysets
  go_wp2_with fail
  refine (gridl.eqIntSS_own _ _ _ _ l1 w13 oxsets_.reads oysets_.reads hl1 hm1).mono ?_
  rintro e w14 ⟨rfl, bw14⟩
  have e13 := btrans e12 bw14
  have z13 := Lib.hid bw14.size
  replace g0 := g0.below bw14 g0.lt
  replace gxg := gxg.below bw14 gxg.lt
  replace ow_ := ow_.below bw14
  replace oxg_ := oxg_.below bw14
  replace oxsets_ := oxsets_.below bw14
  replace og_ := og_.below bw14
  replace oysets_ := oysets_.below bw14
  clear bw14 e12
  clear oysets_
  obtain ⟨pxg0, pxg1, -, -⟩ := gxg.two
  go_wp2_with fail
  refine (markGraph_own s0 _ l0 _ _ (1) w14 oxg_ (by omega)).mono ?_
  rintro e w15 ⟨rfl, om, tw15⟩
  clear pxg0 pxg1
  have uz0_0 := z0_0.out
  have uyag := yag.out
  have uz0 := z0.out
  have uz1 := z1.out
  have uz2 := z2.out
  have uz3 := z3.out
  have uz4 := z4.out
  have uz5 := z5.out
  have uz6 := z6.out
  have uyxg := yxg.out
  have uz7 := z7.out
  have uz8 := z8.out
  have uz9 := z9.out
  have uz10 := z10.out
  have uz11 := z11.out
  have uz12 := z12.out
  have uz13 := z13.out
  have e14 : Below w.heap.size w w15 := e13.trans (tw15.below (by omega) (by omega))
  have z14 := Lib.hid tw15.size
  replace g0 := blk_turned g0 tw15 (by omega)
  replace gxg := blk_turned gxg tw15 (by omega)
  replace ow_ := ow_.turned tw15 (by omega)
  replace oxsets_ := oxsets_.turned tw15 (by omega)
  replace og_ := og_.turned tw15 (by omega)
  clear uz0_0 uyag uz0 uz1 uz2 uz3 uz4 uz5 uz6 uyxg uz7 uz8 uz9 uz10 uz11 uz12 uz13
  clear oxg_ tw15 e13
  have oxg_ := om
  clear om
  go_wp2_with fail
  refine (gridl.markIntSS_own _ _ l1 _ _ (1 + 2 * l0.length) w15 oxsets_ (by omega) hm1).mono ?_
  rintro e w16 ⟨rfl, om, tw16⟩
  have uz0_0 := z0_0.out
  have uyag := yag.out
  have uz0 := z0.out
  have uz1 := z1.out
  have uz2 := z2.out
  have uz3 := z3.out
  have uz4 := z4.out
  have uz5 := z5.out
  have uz6 := z6.out
  have uyxg := yxg.out
  have uz7 := z7.out
  have uz8 := z8.out
  have uz9 := z9.out
  have uz10 := z10.out
  have uz11 := z11.out
  have uz12 := z12.out
  have uz13 := z13.out
  have uz14 := z14.out
  have e15 : Below w.heap.size w w16 := e14.trans (tw16.below (by omega) (by omega))
  have z15 := Lib.hid tw16.size
  replace g0 := blk_turned g0 tw16 (by omega)
  replace gxg := blk_turned gxg tw16 (by omega)
  replace ow_ := ow_.turned tw16 (by omega)
  replace oxg_ := oxg_.turned tw16 (by omega)
  replace og_ := og_.turned tw16 (by omega)
  clear uz0_0 uyag uz0 uz1 uz2 uz3 uz4 uz5 uz6 uyxg uz7 uz8 uz9 uz10 uz11 uz12 uz13 uz14
  clear oxsets_ tw16 e14
  have oxsets_ := om
  clear om
  go_wp2_with fail
  refine (eqIntS_own _ _ (inG (BramP s0 l0 l1) (ndN (bcN s0.toNat l1))) w16 og_.reads ow_.reads hlen).mono ?_
  rintro e w17 ⟨rfl, bw17⟩
  have e16 := btrans e15 bw17
  have z16 := Lib.hid bw17.size
  replace g0 := g0.below bw17 g0.lt
  replace gxg := gxg.below bw17 gxg.lt
  replace ow_ := ow_.below bw17
  replace oxg_ := oxg_.below bw17
  replace oxsets_ := oxsets_.below bw17
  replace og_ := og_.below bw17
  clear bw17 e15
  clear oxg_
  clear gxg
  clear oxsets_
  go_wp2_with fail
  refine (markIntS_own _ (inG (BramP s0 l0 l1) (ndN (bcN s0.toNat l1))) _ _ 1 w17 og_ (by omega)).mono ?_
  rintro e w18 ⟨rfl, om, tw18⟩
  have uz0_0 := z0_0.out
  have uyag := yag.out
  have uz0 := z0.out
  have uz1 := z1.out
  have uz2 := z2.out
  have uz3 := z3.out
  have uz4 := z4.out
  have uz5 := z5.out
  have uz6 := z6.out
  have uyxg := yxg.out
  have uz7 := z7.out
  have uz8 := z8.out
  have uz9 := z9.out
  have uz10 := z10.out
  have uz11 := z11.out
  have uz12 := z12.out
  have uz13 := z13.out
  have uz14 := z14.out
  have uz15 := z15.out
  have uz16 := z16.out
  have e17 : Below w.heap.size w w18 := e16.trans (tw18.below (by omega) (by omega))
  have z17 := Lib.hid tw18.size
  replace g0 := blk_turned g0 tw18 (by omega)
  replace ow_ := ow_.turned tw18 (by omega)
  clear uz0_0 uyag uz0 uz1 uz2 uz3 uz4 uz5 uz6 uyxg uz7 uz8 uz9 uz10 uz11 uz12 uz13 uz14 uz15 uz16
  clear og_ tw18 e16
  have og_ := om
  clear om
  go_wp2_with fail
  refine (heldIntS_own _ (inG (BramP s0 l0 l1) (ndN (bcN s0.toNat l1))).length _ _ 1 w18 og_ (by omega)).mono ?_
  rintro e w19 ⟨rfl, bw19⟩
  have e18 := btrans e17 bw19
  have z18 := Lib.hid bw19.size
  replace g0 := g0.below bw19 g0.lt
  replace ow_ := ow_.below bw19
  replace og_ := og_.below bw19
  clear bw19 e17
  obtain ⟨pag0, pag1, -, -⟩ := g0.two
  go_wp2_with fail
  refine (toGraph_any s0 (.slice A0 l0.length c0) l0 w19 (H0.out.below e18) hl0).mono ?_
  rintro e w20 ⟨Aqg, cqg, rfl, oqg, bw20⟩
  clear pag0 pag1
  have e19 := btrans e18 bw20
  have z19 := Lib.hid bw20.size
  replace g0 := g0.below bw20 g0.lt
  replace ow_ := ow_.below bw20
  replace og_ := og_.below bw20
  clear bw20 e18
  have oqg_ := OwnR.new oqg
  clear oqg
  go_wp2_with fail
  refine (gridl.toIntSS_any (.slice A1 l1.length c1) q1 l1 w20 (H1.out.below e19) hl1 hm1).mono ?_
  rintro e w21 ⟨Aqsets, cqsets, usqsets, rfl, oqsets, bw21⟩
  have e20 := btrans e19 bw21
  have z20 := Lib.hid bw21.size
  replace g0 := g0.below bw21 g0.lt
  replace ow_ := ow_.below bw21
  replace og_ := og_.below bw21
  replace oqg_ := oqg_.below bw21
  clear bw21 e19
  have oqsets_ := gridl.OwnGR.new oqsets
  clear oqsets
  go_wp2_with fail
  refine (HI.out Aqg cqg Aqsets cqsets usqsets w21 oqg_.reads oqsets_.reads (HEnv.out.next e20)).mono ?_
  rintro e w22 ⟨Ah, ch, rfl, oh, bw22⟩
  have e21 := btrans e20 bw22
  have z21 := Lib.hid bw22.size
  replace g0 := g0.below bw22 g0.lt
  replace ow_ := ow_.below bw22
  replace og_ := og_.below bw22
  replace oqg_ := oqg_.below bw22
  replace oqsets_ := oqsets_.below bw22
  clear bw22 e20
  have oh_ := OwnR.new oh
  clear oh
  clear oqg_
  clear oqsets_
  go_wp2_with fail
  refine (eqIntS_own _ _ (inG (BramP s0 l0 l1) (ndN (bcN s0.toNat l1))) w22 oh_.reads ow_.reads hlen).mono ?_
  rintro e w23 ⟨rfl, bw23⟩
  have e22 := btrans e21 bw23
  have z22 := Lib.hid bw23.size
  replace g0 := g0.below bw23 g0.lt
  replace ow_ := ow_.below bw23
  replace og_ := og_.below bw23
  replace oh_ := oh_.below bw23
  clear bw23 e21
  go_wp2_with fail
  refine (heldIntS_own _ (inG (BramP s0 l0 l1) (ndN (bcN s0.toNat l1))).length _ _ 1 w23 og_ (by omega)).mono ?_
  rintro e w24 ⟨rfl, bw24⟩
  have e23 := btrans e22 bw24
  have z23 := Lib.hid bw24.size
  replace g0 := g0.below bw24 g0.lt
  replace ow_ := ow_.below bw24
  replace og_ := og_.below bw24
  replace oh_ := oh_.below bw24
  clear bw24 e22
  go_wp2_with fail
  go_ret
  exact ⟨rfl, e23⟩

set_option maxHeartbeats 1000000 in
set_option maxRecDepth 100000 in
theorem walk (s0 : Int) (u0 : Value) (l0 : List Ed) (u1 : Value) (q1 : List Value) (l1 : List (List Int)) (w : World) (hE : Env w) (w0 : IsGr w s0 u0 l0) (w1 : IsRows w u1 q1 l1) :
    Calls Tryd.prog 6 #[.agg #[.int .i64 s0, u0], u1] w fun e w' => e = .returned (.bool true) ∧ Below w.heap.size w w' := by
  obtain ⟨h0, hm0, hs0, ht0⟩ := w0
  obtain ⟨A0, c0, rfl, -⟩ := h0.form
  unfold maxLen at hm0
  obtain ⟨h1, hm1, hi1⟩ := w1
  obtain ⟨A1, c1, rfl, -⟩ := h1.1
  unfold maxLen at hm1 hi1
  have b0_0 : Below w.heap.size w (w.alloc (.cells #[.int .i64 s0, .slice A0 l0.length c0] 24)) := (Below.refl _ _).alloc (Nat.le_refl _) _
  have e0_0 : Below w.heap.size w (w.alloc (.cells #[.int .i64 s0, .slice A0 l0.length c0] 24)) := b0_0
  have g0 := Blk.new w 24 #[.int .i64 s0, .slice A0 l0.length c0]
  by_cases hl0 : l0.length ≤ 1048576
  rotate_left
  · have hlt : (1048576 : Int) < (l0.length : Int) := by omega
    have HZ := Lib.hid (szGraph_no s0 (.slice A0 l0.length c0) l0 1048576 _ (h0.below e0_0) hlt (by omega) (by omega))
    clear h0 h1
    obtain ⟨p0, p1, -, -⟩ := g0.two
    go_enter Tryd.func6, Tryd.ntmps6
    go_wp2_with fail
    refine HZ.out.mono ?_
    rintro e w1 ⟨rfl, b1⟩
    go_wp2_with fail
    go_ret
    exact ⟨rfl, btrans e0_0 b1⟩
  by_cases hb1 : l0.length + l1.length + gridl.tot l1 ≤ 1048576
  rotate_left
  · have HZ := Lib.hid (szGraph_yes s0 (.slice A0 l0.length c0) l0 1048576 _ (h0.below e0_0) (by omega) (by omega))
    have HY := Lib.hid (fun (w1 : World) (b1 : Below (w.alloc (.cells #[.int .i64 s0, .slice A0 l0.length c0] 24)).heap.size (w.alloc (.cells #[.int .i64 s0, .slice A0 l0.length c0] 24)) w1) => gridl.szIntSS_no (.slice A1 l1.length c1) q1 l1 (1048576 - (l0.length : Int)) w1 (h1.below (btrans e0_0 b1)) (by omega) (by omega) (by omega) (fun r hr => by have := (hi1 r hr).1; omega) (by omega))
    have hln : ((l0.length : Nat) : Int) ≤ 1048576 := by omega
    clear h0 h1
    obtain ⟨p0, p1, -, -⟩ := g0.two
    go_enter Tryd.func6, Tryd.ntmps6
    go_wp2_with fail
    refine HZ.out.mono ?_
    rintro e w1 ⟨rfl, b1⟩
    clear p0 p1
    go_wp2_with fail
    refine (HY.out w1 b1).mono ?_
    rintro e w2 ⟨rfl, b2⟩
    go_wp2_with fail
    go_ret
    exact ⟨rfl, btrans (btrans e0_0 b1) b2⟩
  have hl1 : gridl.tot l1 ≤ 1048576 := by omega
  exact core s0 A0 c0 l0 A1 c1 q1 l1 w h0 hl0 h1 hl1 (by omega) hb1 (Lib.hid (fun B0 d0 B1 d1 q1 W k0 k1 => specBrc_any s0 _ B1 d1 q1 l1 l0 W k0 hl0 k1 (by omega) (fun r hr => Nat.le_trans (tot_mem hr) hl1) hs0 ht0)) (Lib.hid hE) (Lib.hid (fun B0 d0 B1 d1 q1 W k0 k1 hv => implBrc_any s0 _ B1 d1 q1 l1 l0 W k0 hl0 k1 (by omega) (fun r hr => Nat.le_trans (tot_mem hr) hl1) hv)) (brc_len s0 l0 l1)

theorem own : ownKnob Tryd.prog.godebug = none := by kernel_rfl
theorem laidOut : laidOutB Tryd.prog = true := by kernel_rfl

theorem door_met (os : Os) : laidMet Tryd.prog Rows.fnExactBrambleCoverRow.laid ((World.doorLaid Tryd.prog 400 os).forCall (fun _ _ => 0) ⟨#[], #[.agg #[.int .i64 0, .slice none 0 0], .slice none 0 0], []⟩).memory :=
  laidMet_of_run' 8 (by kernel_rfl) (by kernel_rfl)
theorem reads (os : Os) {H : Type} (enc : TypeId × Value → H) : ∃ places, DataW.whole enc Tryd.prog ((World.doorLaid Tryd.prog 400 os).forCall (fun _ _ => 0) ⟨#[], #[.agg #[.int .i64 0, .slice none 0 0], .slice none 0 0], []⟩).memory Tryd.f6.params.toList Rows.fnExactBrambleCoverSpec.vars false (#[.agg #[.int .i64 0, .slice none 0 0], .slice none 0 0] : Array Value).toList 8 = some ([.agg [.lit (.int .i64 0), .nil], .nil], [], places) :=
  ⟨[], by kernel_rfl⟩

set_option maxRecDepth 100000 in
theorem lifted (os : Os) (started : os.Started) (H : Type) (enc : TypeId × Value → H) (F : Stop.Interp) :
    ReturnsInHanded {} Tryd.checked os 6 .any ((OpenSpec.ofChange Rows.fnExactBrambleCoverSpec).preRow enc Tryd.prog Tryd.f6 Rows.fnExactBrambleCoverRow.domain false Rows.fnExactBrambleCoverRow.laid) (((OpenSpec.ofChange Rows.fnExactBrambleCoverSpec).at F).post enc Tryd.prog Tryd.f6 false true false false) := by
  obtain ⟨places, hx⟩ := reads os enc
  refine returnsInHanded_of_row (C := Tryd.checked) (s := OpenSpec.ofChange Rows.fnExactBrambleCoverSpec) own started (by kernel_rfl) Tryd.func6
    (witness_row_atRef (enc := enc) (C := Tryd.checked) false (World.doorLaid Tryd.prog 400 os) #[.agg #[.int .i64 0, .slice none 0 0], .slice none 0 0] rfl (by kernel_rfl) (by kernel_rfl) (by kernel_rfl)
      (OpenSpec.preRow_of_cond 8 hx (by kernel_rfl) (fun k hk => by cases hk) (by kernel_rfl) (door_met os))) ?_
  intro W base args ds gs before hval0 hW _ _ _ hL hsh _
  have hval : ∀ (j : Nat) t v, Tryd.f6.params[j]? = some t → args[j]? = some v → Value.okWide Tryd.prog W .any base t v := hval0
  have hW' := hW
  obtain ⟨p, q, hA0, hV, rfl, hfz, hnd⟩ := hW
  have hA : DataW.TrodAll enc Tryd.prog W 0 (fun _ => true) true Tryd.f6.params.toList args.toList ds p := hA0
  rw [Tryd.params6] at hA hval
  obtain ⟨v0, vs0, d0, ds0, p0, q0, hargs, rfl, rfl, h0, r0⟩ := trodAll_cons hA
  obtain ⟨v1, vs1, d1, ds1, p1, q1, rfl, rfl, rfl, h1, r1⟩ := trodAll_cons r0
  obtain ⟨rfl, rfl, rfl⟩ := trodAll_nil r1
  obtain rfl : args = #[v0, v1] := by cases args; simp_all
  obtain ⟨rfl, rfl⟩ := trodVars_none hV
  have k0 := h0
  have lt0 : ∀ x ∈ p0, x.block < W.heap.size := by obtain ⟨m, hm⟩ := k0; exact DataW.trod_lt m _ _ _ hm
  obtain ⟨s0, u0, l0, rfl, w0⟩ := opens.open_graph (hval 0 24 v0 rfl rfl) h0
  have k1 := h1
  have lt1 : ∀ x ∈ p1, x.block < W.heap.size := by obtain ⟨m, hm⟩ := k1; exact DataW.trod_lt m _ _ _ hm
  obtain ⟨u1, q1, l1, rfl, w1⟩ := opens.open_rowsl (hval 1 40 v1 rfl rfl) h1
  clear hA0 hval0
  refine (walk s0 u0 l0 v1 q1 l1 W (env_of hL) w0 w1).mono fun e W' ⟨he, bel⟩ => ?_
  subst he
  exact ⟨_, rfl, _, _, _, [], _, [], hW', trodAll_mk1 (shut_bool Tryd.underlying4 _), (trodAll_cons_mk (Below.trod laidOut (by kernel_rfl) (of_decide_eq_true (by kernel_rfl)) k0 bel lt0) (trodAll_cons_mk (Below.trod laidOut (by kernel_rfl) (of_decide_eq_true (by kernel_rfl)) k1 bel lt1) trodAll_mk0)), rfl, bel.frame _, fun h => by cases h⟩

theorem said : Rows.FnExactBrambleCoverSaid :=
  OpenClaim.holds_of_cond 6 Tryd.f6 rfl rfl rfl rfl rfl rfl rfl ⟨rfl, rfl, rfl, rfl, rfl⟩ rfl rfl rfl rfl rfl (by kernel_rfl) Tryd.func6 (by kernel_rfl)
    (of_decide_eq_true (by kernel_rfl)) (by unfold Func.isWrapper; first | (rw [if_pos (by decide +kernel)]; kernel_rfl) | (rw [if_neg (by decide +kernel)]; exact ⟨rfl, rfl⟩))
    (fun os started H enc _ F => by rw [OpenClaim.pre_eq_preRow]; exact lifted os started H enc F)

theorem plain (f : FuncId) (fn : Func) (hf : Tryd.pinned.checked.prog.funcNamed Rows.fnExactBrambleCoverRow.func = some f) (hfn : Tryd.pinned.checked.prog.funcs[f]? = some fn) :
    false = Tryd.pinned.checked.prog.looks [] ∧ ∀ (j : Nat) t, fn.params[j]? = some t → Tryd.pinned.checked.prog.wantsStandIn t = false := by
  obtain rfl : f = 6 := Option.some.inj ((show Tryd.prog.funcNamed Rows.fnExactBrambleCoverRow.func = some 6 by kernel_rfl).symm.trans hf) |>.symm
  obtain rfl : fn = Tryd.f6 := (Option.some.inj (Tryd.func6.symm.trans hfn)).symm
  refine ⟨by kernel_rfl, fun j t ht => ?_⟩
  rw [Tryd.params6] at ht
  have hm := Array.mem_of_getElem? ht
  have hall : ∀ t ∈ (#[24, 40] : Array TypeId), Tryd.prog.wantsStandIn t = false := by
    intro t ht
    simp at ht
    rcases ht with rfl | rfl
    all_goals kernel_rfl
  exact hall t hm

theorem fnExactBrambleCover_card : Rows.FnExactBrambleCoverCardSaid :=
  Claim7.holds_tied_plain_at .later [] _ _ _ _ said (fun _ h => by cases h) (by kernel_rfl) (fun _ h => by cases h) fnExactBrambleCover_row_tie rfl ⟨rfl, rfl⟩ (by kernel_rfl) rfl plain (by kernel_rfl)
end Go.Proofs.YtdhbaegkogklgaaDoor.exBrc
