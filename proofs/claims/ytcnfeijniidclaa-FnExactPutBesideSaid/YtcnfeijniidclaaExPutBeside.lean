/- FnExactPutBeside returns true for all two Graphs: the program's PutBeside and the model's return the same, write into nothing that was there, and own what they return. No conditions. -/
import Derived.Handy
import Derived.Test.YtcnfeijniidclaaBesI
import Derived.Test.YtcnfeijniidclaaBox
import Derived.Deep.DeepCutAuto
import Derived.Test.YtcnfeijniidclaaBesS
import Derived.Test.YtcnfeijniidclaaOwn
import Derived.Test.YtcnfeijniidclaaOpen
import Derived.Test.YtcnfeijniidclaaRows
import Derived.ProofKit
import Derived.OpenShut
import Derived.ChangeOld
import Derived.Carry
namespace Go.Proofs.Ytcnfeijniidclaa.exPutBeside
open Go.ChangeShapes Go.WideShapes Go.ChangeAt Go.RowKit P2 words edges ints owns good near adjs fns rets bes rens opens
set_option linter.unusedVariables false

set_option maxHeartbeats 4000000 in
set_option maxRecDepth 100000 in
theorem core (s0 : Int) (A0 : Option Addr) (c0 : Nat) (l0 : List Ed) (s1 : Int) (A1 : Option Addr) (c1 : Nat) (l1 : List Ed) (w : World) (h0 : Edges w (.slice A0 l0.length c0) l0) (hl0 : l0.length ≤ 1048576) (h1 : Edges w (.slice A1 l1.length c1) l1) (hl1 : l1.length ≤ 1048576) (hl2 : l0.length + l1.length ≤ 1048576)
    (HS : Hid (∀ (B0 : Option Addr) (d0 : Nat) (B1 : Option Addr) (d1 : Nat) (W : World), Edges W (.slice B0 l0.length d0) l0 → Edges W (.slice B1 l1.length d1) l1 → Calls Try.prog 32 #[.agg #[.int .i64 s0, .slice B0 l0.length d0], .agg #[.int .i64 s1, .slice B1 l1.length d1]] W fun e W' => ∃ Ar cr, e = .returned (.tuple #[.agg #[.int .i64 (szG (BesOk s0 s1 l0 l1) (s0 + s1)), .slice Ar (edG (BesOk s0 s1 l0 l1) (besL (s0 + s1).toNat s0 l0 l1)).length cr], .bool (okG (BesOk s0 s1 l0 l1))]) ∧ W'.ownsRow W.heap.size 72 2 (.slice Ar (edG (BesOk s0 s1 l0 l1) (besL (s0 + s1).toNat s0 l0 l1)).length cr) (edG (BesOk s0 s1 l0 l1) (besL (s0 + s1).toNat s0 l0 l1)).length (cellsE (edG (BesOk s0 s1 l0 l1) (besL (s0 + s1).toNat s0 l0 l1))) ∧ Below W.heap.size W W'))
    (HI : Hid (∀ (B0 : Option Addr) (d0 : Nat) (B1 : Option Addr) (d1 : Nat) (W : World), Edges W (.slice B0 l0.length d0) l0 → Edges W (.slice B1 l1.length d1) l1 → Calls Try.prog 33 #[.agg #[.int .i64 s0, .slice B0 l0.length d0], .agg #[.int .i64 s1, .slice B1 l1.length d1]] W fun e W' => ∃ Ar cr, e = .returned (.tuple #[.agg #[.int .i64 (szG (BesOk s0 s1 l0 l1) (s0 + s1)), .slice Ar (edG (BesOk s0 s1 l0 l1) (besL (s0 + s1).toNat s0 l0 l1)).length cr], .bool (okG (BesOk s0 s1 l0 l1))]) ∧ W'.ownsRow W.heap.size 72 2 (.slice Ar (edG (BesOk s0 s1 l0 l1) (besL (s0 + s1).toNat s0 l0 l1)).length cr) (edG (BesOk s0 s1 l0 l1) (besL (s0 + s1).toNat s0 l0 l1)).length (cellsE (edG (BesOk s0 s1 l0 l1) (besL (s0 + s1).toNat s0 l0 l1))) ∧ Below W.heap.size W W')) (hlen : (edG (BesOk s0 s1 l0 l1) (besL (s0 + s1).toNat s0 l0 l1)).length ≤ 1048576) :
    Calls Try.prog 7 #[.agg #[.int .i64 s0, .slice A0 l0.length c0], .agg #[.int .i64 s1, .slice A1 l1.length c1]] w fun e w' => e = .returned (.bool true) ∧ Below w.heap.size w w' := by
  have H0 := Lib.hid h0
  have H1 := Lib.hid h1
  have b0_0 : Below w.heap.size w (w.alloc (.cells #[.int .i64 s0, .slice A0 l0.length c0] 24)) := (Below.refl _ _).alloc (Nat.le_refl _) _
  have e0_0 : Below w.heap.size w (w.alloc (.cells #[.int .i64 s0, .slice A0 l0.length c0] 24)) := b0_0
  have g0 := Blk.new w 24 #[.int .i64 s0, .slice A0 l0.length c0]
  have b0_1 : Below (w.alloc (.cells #[.int .i64 s0, .slice A0 l0.length c0] 24)).heap.size (w.alloc (.cells #[.int .i64 s0, .slice A0 l0.length c0] 24)) ((w.alloc (.cells #[.int .i64 s0, .slice A0 l0.length c0] 24)).alloc (.cells #[.int .i64 s1, .slice A1 l1.length c1] 24)) := (Below.refl _ _).alloc (Nat.le_refl _) _
  have e0_1 : Below w.heap.size w ((w.alloc (.cells #[.int .i64 s0, .slice A0 l0.length c0] 24)).alloc (.cells #[.int .i64 s1, .slice A1 l1.length c1] 24)) := btrans e0_0 b0_1
  have g0_ := g0.alloc (.cells #[.int .i64 s1, .slice A1 l1.length c1] 24)
  have g1 : Blk ((w.alloc (.cells #[.int .i64 s0, .slice A0 l0.length c0] 24)).alloc (.cells #[.int .i64 s1, .slice A1 l1.length c1] 24)) (w.heap.size + 1) 24 #[.int .i64 s1, .slice A1 l1.length c1] := by have t := Blk.new (w.alloc (.cells #[.int .i64 s0, .slice A0 l0.length c0] 24)) 24 #[.int .i64 s1, .slice A1 l1.length c1]; simp only [World.size_alloc] at t; exact t
  have z0_0 := Lib.hid b0_0.size
  have z0_1 := Lib.hid b0_1.size
  have yag := Lib.hid g0_.lt
  have yah := Lib.hid g1.lt
  have hself : ∀ b : Bool, (b != b) = false := fun b => by simp
  clear h0 h1
  go_enter Try.func7, Try.ntmps7
  have hz0 : ((l0.length : Nat) : Int) ≤ 1048576 := by omega
  obtain ⟨pag0, pag1, -, -⟩ := g0_.two
  go_wp2_with fail
  refine (szGraph_yes s0 (.slice A0 l0.length c0) l0 (1048576) ((w.alloc (.cells #[.int .i64 s0, .slice A0 l0.length c0] 24)).alloc (.cells #[.int .i64 s1, .slice A1 l1.length c1] 24)) (H0.out.below e0_1) (by omega) (by omega)).mono ?_
  rintro e w2 ⟨rfl, bw2⟩
  clear pag0 pag1
  have e0 := btrans e0_1 bw2
  have z0 := Lib.hid bw2.size
  replace g0_ := g0_.below bw2 g0_.lt
  replace g1 := g1.below bw2 g1.lt
  clear bw2
  have hz1 : ((l1.length : Nat) : Int) ≤ 1048576 - (l0.length : Int) := by omega
  obtain ⟨pah0, pah1, -, -⟩ := g1.two
  go_wp2_with fail
  refine (szGraph_yes s1 (.slice A1 l1.length c1) l1 (1048576 - (l0.length : Int)) w2 (H1.out.below e0) (by omega) (by omega)).mono ?_
  rintro e w3 ⟨rfl, bw3⟩
  clear pah0 pah1
  have e1 := btrans e0 bw3
  have z1 := Lib.hid bw3.size
  replace g0_ := g0_.below bw3 g0_.lt
  replace g1 := g1.below bw3 g1.lt
  clear bw3 e0
  have HA := Lib.hid (fun (W : World) (hW : Below w3.heap.size w3 W) => H0.out.below (btrans e1 hW))
  have HB := Lib.hid (fun (W : World) (hW : Below w3.heap.size w3 W) => H1.out.below (btrans e1 hW))
  have HGA := Lib.hid g0_
  have HGB := Lib.hid g1
  have HE0 := Lib.hid e1
  have HSK := Lib.hid (fun (W : World) (hW : Below w3.heap.size w3 W) => (⟨(HGA.out.below hW HGA.out.lt).cell 0, (HGA.out.below hW HGA.out.lt).cell 1, (HGB.out.below hW HGB.out.lt).cell 0, (HGB.out.below hW HGB.out.lt).cell 1⟩ : W.cell? ⟨w.heap.size, 0, none⟩ = some (.int .i64 s0) ∧ W.cell? ⟨w.heap.size, 1, none⟩ = some (.slice A0 l0.length c0) ∧ W.cell? ⟨w.heap.size + 1, 0, none⟩ = some (.int .i64 s1) ∧ W.cell? ⟨w.heap.size + 1, 1, none⟩ = some (.slice A1 l1.length c1)))
  obtain ⟨pag0, pag1, -, -⟩ := g0_.two
  obtain ⟨pah0, pah1, -, -⟩ := g1.two
  go_wp2_with fail
  go_cut [6, 7] (fun sa sb wx => ∃ (W : World) (p : Nat) (Ar : Option Addr) (cr : Nat), W = wx ∧ sa = .pointer (some ⟨p, 0, none⟩) ∧ sb = .bool (okG (BesOk s0 s1 l0 l1)) ∧ Blk W p 29 #[.int .i64 (szG (BesOk s0 s1 l0 l1) (s0 + s1)), .slice Ar (edG (BesOk s0 s1 l0 l1) (besL (s0 + s1).toNat s0 l0 l1)).length cr] ∧ w3.heap.size ≤ p ∧ W.ownsRow w3.heap.size 72 2 (.slice Ar (edG (BesOk s0 s1 l0 l1) (besL (s0 + s1).toNat s0 l0 l1)).length cr) (edG (BesOk s0 s1 l0 l1) (besL (s0 + s1).toNat s0 l0 l1)).length (cellsE (edG (BesOk s0 s1 l0 l1) (besL (s0 + s1).toNat s0 l0 l1))) ∧ Below w3.heap.size w3 W)
  case first =>
    go_region_held3 (fun w' => w'.cell? ⟨w.heap.size, 0, none⟩ = some (.int .i64 s0) ∧ w'.cell? ⟨w.heap.size, 1, none⟩ = some (.slice A0 l0.length c0) ∧ w'.cell? ⟨w.heap.size + 1, 0, none⟩ = some (.int .i64 s1) ∧ w'.cell? ⟨w.heap.size + 1, 1, none⟩ = some (.slice A1 l1.length c1)) (first | go_keep | (refine HSK.out _ ?_; have hz_ := d3.size; have hz2_ := d2.size; have hz3_ := d1.size; have hb_ := d3; go_grown) | (refine HSK.out _ ?_; have hz_ := d2.size; have hz3_ := d1.size; have hb_ := d2; go_grown) | (refine HSK.out _ ?_; have hz_ := d1.size; have hb_ := d1; go_grown))
      (first
        | (go_at_call 15; have D1 : Below w3.heap.size w3 w3.drew := (Below.refl _ _).drew; have E1 := HA.out _ D1; (with_reducible refine (toGraph_any s0 (.slice A0 l0.length c0) l0 w3.drew E1 hl0).mono ?_); rintro e w4 ⟨Aq, cq, rfl, oq, b1⟩; have d1 : Below w3.heap.size w3 w4 := btrans D1 b1; obtain ⟨ta0, ta1, ta2, ta3⟩ := HSK.out w4 d1; have ta4 := (HGA.out.below d1 HGA.out.lt).lt; have ta5 := (HGB.out.below d1 HGB.out.lt).lt)
        | (go_at_call 15; have D1 : Below w3.heap.size w3 (w3.alloc (.cells #[.int .i64 0, .slice none 0 0] 29)).drew := ((Below.refl _ _).alloc (Nat.le_refl _) _).drew; have E1 := HA.out _ D1; (with_reducible refine (toGraph_any s0 (.slice A0 l0.length c0) l0 (w3.alloc (.cells #[.int .i64 0, .slice none 0 0] 29)).drew E1 hl0).mono ?_); rintro e w4 ⟨Aq, cq, rfl, oq, b1⟩; have d1 : Below w3.heap.size w3 w4 := btrans D1 b1; obtain ⟨ta0, ta1, ta2, ta3⟩ := HSK.out w4 d1; have ta4 := (HGA.out.below d1 HGA.out.lt).lt; have ta5 := (HGB.out.below d1 HGB.out.lt).lt; have Xn : Blk (w3.alloc (.cells #[.int .i64 0, .slice none 0 0] 29)).drew w3.heap.size 29 #[.int .i64 0, .slice none 0 0] := Blk.new w3 29 _; have X11 := Xn.below b1 Xn.lt; obtain ⟨xa11, xb11, xc11, xd11⟩ := X11.two; have xe11 := X11.lt)
        | (go_at_call 15; have D2 : Below w4.heap.size w4 w4 := (Below.refl _ _); have E2 := HB.out _ (btrans d1 D2); (with_reducible refine (toGraph_any s1 (.slice A1 l1.length c1) l1 w4 E2 hl1).mono ?_); rintro e w5 ⟨Ar, cr, rfl, oq2, b2⟩; have f2 : Below w4.heap.size w4 w5 := btrans D2 b2; have d2 : Below w3.heap.size w3 w5 := btrans d1 f2; obtain ⟨tb0, tb1, tb2, tb3⟩ := HSK.out w5 d2; have tb4 := (HGA.out.below d2 HGA.out.lt).lt; have tb5 := (HGB.out.below d2 HGB.out.lt).lt; (try (have X12 := X11.below f2 X11.lt; obtain ⟨xa12, xb12, xc12, xd12⟩ := X12.two; have xe12 := X12.lt)))
        | (go_at_call 15; have D2 : Below w4.heap.size w4 (w4.alloc (.cells #[.int .i64 0, .slice none 0 0] 29)) := ((Below.refl _ _).alloc (Nat.le_refl _) _); have E2 := HB.out _ (btrans d1 D2); (with_reducible refine (toGraph_any s1 (.slice A1 l1.length c1) l1 (w4.alloc (.cells #[.int .i64 0, .slice none 0 0] 29)) E2 hl1).mono ?_); rintro e w5 ⟨Ar, cr, rfl, oq2, b2⟩; have f2 : Below w4.heap.size w4 w5 := btrans D2 b2; have d2 : Below w3.heap.size w3 w5 := btrans d1 f2; obtain ⟨tb0, tb1, tb2, tb3⟩ := HSK.out w5 d2; have tb4 := (HGA.out.below d2 HGA.out.lt).lt; have tb5 := (HGB.out.below d2 HGB.out.lt).lt; have Xn2 : Blk (w4.alloc (.cells #[.int .i64 0, .slice none 0 0] 29)) w4.heap.size 29 #[.int .i64 0, .slice none 0 0] := Blk.new w4 29 _; have X22 := Xn2.below b2 Xn2.lt; obtain ⟨xa22, xb22, xc22, xd22⟩ := X22.two; have xe22 := X22.lt; (try (have X12 := X11.below f2 X11.lt; obtain ⟨xa12, xb12, xc12, xd12⟩ := X12.two; have xe12 := X12.lt)))
        | (go_at_call 32; have D3 : Below w5.heap.size w5 w5 := (Below.refl _ _); have F1 := Reads.of_own (own_below (own_below oq f2) D3); have F2 := Reads.of_own (own_below oq2 D3); (with_reducible refine (HS.out Aq cq Ar cr w5 F1 F2).mono ?_); rintro e w6 ⟨Aw, cw, rfl, ow, b3⟩; have f3 : Below w5.heap.size w5 w6 := btrans D3 b3; have d3 : Below w3.heap.size w3 w6 := btrans d2 f3; obtain ⟨tc0, tc1, tc2, tc3⟩ := HSK.out w6 d3; have tc4 := (HGA.out.below d3 HGA.out.lt).lt; have tc5 := (HGB.out.below d3 HGB.out.lt).lt; (try (have X13 := X12.below f3 X12.lt; obtain ⟨xa13, xb13, xc13, xd13⟩ := X13.two; have xe13 := X13.lt)); (try (have X23 := X22.below f3 X22.lt; obtain ⟨xa23, xb23, xc23, xd23⟩ := X23.two; have xe23 := X23.lt)))
        | (go_at_call 32; have D3 : Below w5.heap.size w5 (w5.alloc (.cells #[.int .i64 0, .slice none 0 0] 29)) := ((Below.refl _ _).alloc (Nat.le_refl _) _); have F1 := Reads.of_own (own_below (own_below oq f2) D3); have F2 := Reads.of_own (own_below oq2 D3); (with_reducible refine (HS.out Aq cq Ar cr (w5.alloc (.cells #[.int .i64 0, .slice none 0 0] 29)) F1 F2).mono ?_); rintro e w6 ⟨Aw, cw, rfl, ow, b3⟩; have f3 : Below w5.heap.size w5 w6 := btrans D3 b3; have d3 : Below w3.heap.size w3 w6 := btrans d2 f3; obtain ⟨tc0, tc1, tc2, tc3⟩ := HSK.out w6 d3; have tc4 := (HGA.out.below d3 HGA.out.lt).lt; have tc5 := (HGB.out.below d3 HGB.out.lt).lt; have Xn3 : Blk (w5.alloc (.cells #[.int .i64 0, .slice none 0 0] 29)) w5.heap.size 29 #[.int .i64 0, .slice none 0 0] := Blk.new w5 29 _; have X33 := Xn3.below b3 Xn3.lt; obtain ⟨xa33, xb33, xc33, xd33⟩ := X33.two; have xe33 := X33.lt; (try (have X13 := X12.below f3 X12.lt; obtain ⟨xa13, xb13, xc13, xd13⟩ := X13.two; have xe13 := X13.lt)); (try (have X23 := X22.below f3 X22.lt; obtain ⟨xa23, xb23, xc23, xd23⟩ := X23.two; have xe23 := X23.lt))))
    all_goals (go_wp2_with fail; go_meet)
    all_goals
      have y1 := d1.size; have y2 := d2.size; have y3 := d3.size; have y4 := f2.size; have y5 := f3.size
      first
        | exact ⟨_, _, _, _, rfl, rfl, rfl, boxes.box_done (n := szG (BesOk s0 s1 l0 l1) (s0 + s1)) ow (by first | omega | (simp; omega)) X13 d3 (by first | exact Nat.le_refl _ | omega)⟩
        | exact ⟨_, _, _, _, rfl, rfl, rfl, boxes.box_done (n := szG (BesOk s0 s1 l0 l1) (s0 + s1)) ow (by first | omega | (simp; omega)) X23 d3 (by first | exact Nat.le_refl _ | omega)⟩
        | exact ⟨_, _, _, _, rfl, rfl, rfl, boxes.box_done (n := szG (BesOk s0 s1 l0 l1) (s0 + s1)) ow (by first | omega | (simp; omega)) X33 d3 (by first | exact Nat.le_refl _ | omega)⟩
        | exact ⟨_, _, _, _, rfl, rfl, rfl, boxes.box_done (n := szG (BesOk s0 s1 l0 l1) (s0 + s1)) (ow.alloc (.cells #[.int .i64 0, .slice none 0 0] 29)) (by first | omega | (simp; omega)) (Blk.new w6 29 _) (d3.alloc d3.size _) d3.size⟩
        | exact ⟨_, _, _, _, rfl, rfl, rfl, Blk.new w6 29 _, d3.size, own_base (ow.alloc _) (by first | omega | (simp; omega)), d3.alloc d3.size _⟩
  case rest =>
  clear pag0 pag1 pah0 pah1
  obtain ⟨w7, pw, Aw, cw, rfl, rfl, rfl, gzw, zpw, ow, d3⟩ := hcut
  have ow_ := OwnR.new ow
  clear ow
  have zqw7 := Lib.hid zpw
  clear zpw HA HB HGA HGB HSK HE0
  have yw2 := Lib.hid gzw.lt
  have e2 := btrans e1 d3
  have z2 := Lib.hid d3.size
  replace g0_ := g0_.below d3 g0_.lt
  replace g1 := g1.below d3 g1.lt
  clear d3 e1
  obtain ⟨pag0, pag1, -, -⟩ := g0_.two
  go_wp2_with fail
  refine (toGraph_any s0 (.slice A0 l0.length c0) l0 w7 (H0.out.below e2) hl0).mono ?_
  rintro e w8 ⟨Axg, cxg, rfl, oxg, bw8⟩
  clear pag0 pag1
  have e3 := btrans e2 bw8
  have z3 := Lib.hid bw8.size
  replace g0_ := g0_.below bw8 g0_.lt
  replace g1 := g1.below bw8 g1.lt
  replace gzw := gzw.below bw8 gzw.lt
  replace ow_ := ow_.below bw8
  clear bw8 e2
  have oxg_ := OwnR.new oxg
  clear oxg
  have bxxg : Below w8.heap.size w8 (w8.alloc (.cells #[.int .i64 s0, .slice Axg l0.length cxg] 29)) := (Below.refl _ _).alloc (Nat.le_refl _) _
  have gxg := Blk.new w8 29 #[.int .i64 s0, .slice Axg l0.length cxg]
  have e4 := btrans e3 bxxg
  have z4 := Lib.hid bxxg.size
  replace g0_ := g0_.below bxxg g0_.lt
  replace g1 := g1.below bxxg g1.lt
  replace gzw := gzw.below bxxg gzw.lt
  replace ow_ := ow_.below bxxg
  replace oxg_ := oxg_.below bxxg
  clear bxxg e3
  have yxg := Lib.hid gxg.lt
  obtain ⟨pah0, pah1, -, -⟩ := g1.two
  go_wp2_with fail
  refine (toGraph_any s1 (.slice A1 l1.length c1) l1 (w8.alloc (.cells #[.int .i64 s0, .slice Axg l0.length cxg] 29)) (H1.out.below e4) hl1).mono ?_
  rintro e w9 ⟨Axh, cxh, rfl, oxh, bw9⟩
  clear pah0 pah1
  have e5 := btrans e4 bw9
  have z5 := Lib.hid bw9.size
  replace g0_ := g0_.below bw9 g0_.lt
  replace g1 := g1.below bw9 g1.lt
  replace gzw := gzw.below bw9 gzw.lt
  replace gxg := gxg.below bw9 gxg.lt
  replace ow_ := ow_.below bw9
  replace oxg_ := oxg_.below bw9
  clear bw9 e4
  have oxh_ := OwnR.new oxh
  clear oxh
  have bxxh : Below w9.heap.size w9 (w9.alloc (.cells #[.int .i64 s1, .slice Axh l1.length cxh] 29)) := (Below.refl _ _).alloc (Nat.le_refl _) _
  have gxh := Blk.new w9 29 #[.int .i64 s1, .slice Axh l1.length cxh]
  have e6 := btrans e5 bxxh
  have z6 := Lib.hid bxxh.size
  replace g0_ := g0_.below bxxh g0_.lt
  replace g1 := g1.below bxxh g1.lt
  replace gzw := gzw.below bxxh gzw.lt
  replace gxg := gxg.below bxxh gxg.lt
  replace ow_ := ow_.below bxxh
  replace oxg_ := oxg_.below bxxh
  replace oxh_ := oxh_.below bxxh
  clear bxxh e5
  have yxh := Lib.hid gxh.lt
  obtain ⟨pxg0, pxg1, -, -⟩ := gxg.two
  obtain ⟨pxh0, pxh1, -, -⟩ := gxh.two
  go_wp2_with fail
  refine (HI.out Axg cxg Axh cxh (w9.alloc (.cells #[.int .i64 s1, .slice Axh l1.length cxh] 29)) oxg_.reads oxh_.reads).mono ?_
  rintro e w10 ⟨Ag, cg, rfl, og, bw10⟩
  clear pxg0 pxg1 pxh0 pxh1
  have e7 := btrans e6 bw10
  have z7 := Lib.hid bw10.size
  replace g0_ := g0_.below bw10 g0_.lt
  replace g1 := g1.below bw10 g1.lt
  replace gzw := gzw.below bw10 gzw.lt
  replace gxg := gxg.below bw10 gxg.lt
  replace gxh := gxh.below bw10 gxh.lt
  replace ow_ := ow_.below bw10
  replace oxg_ := oxg_.below bw10
  replace oxh_ := oxh_.below bw10
  clear bw10 e6
  have og_ := OwnR.new og
  clear og
  have bxg : Below w10.heap.size w10 (w10.alloc (.cells #[.int .i64 (szG (BesOk s0 s1 l0 l1) (s0 + s1)), .slice Ag (edG (BesOk s0 s1 l0 l1) (besL (s0 + s1).toNat s0 l0 l1)).length cg] 29)) := (Below.refl _ _).alloc (Nat.le_refl _) _
  have gg := Blk.new w10 29 #[.int .i64 (szG (BesOk s0 s1 l0 l1) (s0 + s1)), .slice Ag (edG (BesOk s0 s1 l0 l1) (besL (s0 + s1).toNat s0 l0 l1)).length cg]
  have e8 := btrans e7 bxg
  have z8 := Lib.hid bxg.size
  replace g0_ := g0_.below bxg g0_.lt
  replace g1 := g1.below bxg g1.lt
  replace gzw := gzw.below bxg gzw.lt
  replace gxg := gxg.below bxg gxg.lt
  replace gxh := gxh.below bxg gxh.lt
  replace ow_ := ow_.below bxg
  replace oxg_ := oxg_.below bxg
  replace oxh_ := oxh_.below bxg
  replace og_ := og_.below bxg
  clear bxg e7
  have yg := Lib.hid gg.lt
  obtain ⟨pg0, pg1, -, -⟩ := gg.two
  obtain ⟨pw0, pw1, -, -⟩ := gzw.two
  go_wp2_with fail
  refine (eqGraph_yes (szG (BesOk s0 s1 l0 l1) (s0 + s1)) _ _ (edG (BesOk s0 s1 l0 l1) (besL (s0 + s1).toNat s0 l0 l1)) (w10.alloc (.cells #[.int .i64 (szG (BesOk s0 s1 l0 l1) (s0 + s1)), .slice Ag (edG (BesOk s0 s1 l0 l1) (besL (s0 + s1).toNat s0 l0 l1)).length cg] 29)) og_.reads ow_.reads hlen).mono ?_
  rintro e w11 ⟨rfl, bw11⟩
  clear pg0 pg1 pw0 pw1
  have e9 := btrans e8 bw11
  have z9 := Lib.hid bw11.size
  replace g0_ := g0_.below bw11 g0_.lt
  replace g1 := g1.below bw11 g1.lt
  replace gzw := gzw.below bw11 gzw.lt
  replace gxg := gxg.below bw11 gxg.lt
  replace gxh := gxh.below bw11 gxh.lt
  replace gg := gg.below bw11 gg.lt
  replace ow_ := ow_.below bw11
  replace oxg_ := oxg_.below bw11
  replace oxh_ := oxh_.below bw11
  replace og_ := og_.below bw11
  clear bw11 e8
  obtain ⟨pag0, pag1, -, -⟩ := g0_.two
  obtain ⟨pxg0, pxg1, -, -⟩ := gxg.two
  have HA := Lib.hid (H0.out.below e9)
  have HX := Lib.hid (oxg_.reads)
  go_wp2_with fail
  go_region_held3 (fun w' => w'.cell? ⟨w.heap.size, 0, none⟩ = some (.int .i64 s0) ∧ w'.cell? ⟨w.heap.size, 1, none⟩ = some (.slice A0 l0.length c0) ∧ w'.cell? ⟨w8.heap.size, 0, none⟩ = some (.int .i64 s0) ∧ w'.cell? ⟨w8.heap.size, 1, none⟩ = some (.slice Axg l0.length cxg)) (go_keep)
    (first | (go_at_call 15; refine (toGraph_k s0 (.slice A0 l0.length c0) l0 w11.drew HA.out hl0 (p := ⟨w.heap.size, 0, none⟩) (q := ⟨w.heap.size, 1, none⟩) (r := ⟨w8.heap.size, 0, none⟩) (t := ⟨w8.heap.size, 1, none⟩) (a := .int .i64 s0) (b := .slice A0 l0.length c0) (c := .int .i64 s0) (d := .slice Axg l0.length cxg) ?_ ?_ ?_ ?_).mono ?_; (simp [*]); (simp [*]); (simp [*]); (simp [*]); rintro e w12 ⟨⟨Ay, cy, rfl, oy⟩, k0, k1, k2, k3, bw12⟩)
           | (go_at_call 18; refine (eqGraph_k s0 _ _ l0 _ (Reads.below (w := w11.drew) HX.out bw12) (Reads.of_own oy) hl0 (p := ⟨w.heap.size, 0, none⟩) (q := ⟨w.heap.size, 1, none⟩) (r := ⟨w8.heap.size, 0, none⟩) (t := ⟨w8.heap.size, 1, none⟩) (a := .int .i64 s0) (b := .slice A0 l0.length c0) (c := .int .i64 s0) (d := .slice Axg l0.length cxg) ?_ ?_ ?_ ?_).mono ?_; (simp [*]); (simp [*]); (simp [*]); (simp [*]); rintro e w13 ⟨rfl, m0, m1, m2, m3, bw13⟩))
  clear k0 k1 k2 k3 m0 m1 m2 m3 HA HX oy
  clear pag0 pag1 pxg0 pxg1
  have cw12 : Below w11.heap.size w11 w12 := (Below.refl _ _).drew.trans bw12
  clear bw12
  have e10 := btrans e9 cw12
  have z10 := Lib.hid cw12.size
  replace g0_ := g0_.below cw12 g0_.lt
  replace g1 := g1.below cw12 g1.lt
  replace gzw := gzw.below cw12 gzw.lt
  replace gxg := gxg.below cw12 gxg.lt
  replace gxh := gxh.below cw12 gxh.lt
  replace gg := gg.below cw12 gg.lt
  replace ow_ := ow_.below cw12
  replace oxg_ := oxg_.below cw12
  replace oxh_ := oxh_.below cw12
  replace og_ := og_.below cw12
  clear cw12 e9
  have e11 := btrans e10 bw13
  have z11 := Lib.hid bw13.size
  replace g0_ := g0_.below bw13 g0_.lt
  replace g1 := g1.below bw13 g1.lt
  replace gzw := gzw.below bw13 gzw.lt
  replace gxg := gxg.below bw13 gxg.lt
  replace gxh := gxh.below bw13 gxh.lt
  replace gg := gg.below bw13 gg.lt
  replace ow_ := ow_.below bw13
  replace oxg_ := oxg_.below bw13
  replace oxh_ := oxh_.below bw13
  replace og_ := og_.below bw13
  clear bw13 e10
  obtain ⟨pah0, pah1, -, -⟩ := g1.two
  obtain ⟨pxh0, pxh1, -, -⟩ := gxh.two
  have HA := Lib.hid (H1.out.below e11)
  have HX := Lib.hid (oxh_.reads)
  go_wp2_with fail
  go_region_held3 (fun w' => w'.cell? ⟨w.heap.size + 1, 0, none⟩ = some (.int .i64 s1) ∧ w'.cell? ⟨w.heap.size + 1, 1, none⟩ = some (.slice A1 l1.length c1) ∧ w'.cell? ⟨w9.heap.size, 0, none⟩ = some (.int .i64 s1) ∧ w'.cell? ⟨w9.heap.size, 1, none⟩ = some (.slice Axh l1.length cxh)) (go_keep)
    (first | (go_at_call 15; refine (toGraph_k s1 (.slice A1 l1.length c1) l1 w13.drew HA.out hl1 (p := ⟨w.heap.size + 1, 0, none⟩) (q := ⟨w.heap.size + 1, 1, none⟩) (r := ⟨w9.heap.size, 0, none⟩) (t := ⟨w9.heap.size, 1, none⟩) (a := .int .i64 s1) (b := .slice A1 l1.length c1) (c := .int .i64 s1) (d := .slice Axh l1.length cxh) ?_ ?_ ?_ ?_).mono ?_; (simp [*]); (simp [*]); (simp [*]); (simp [*]); rintro e w14 ⟨⟨Ay, cy, rfl, oy⟩, k0, k1, k2, k3, bw14⟩)
           | (go_at_call 18; refine (eqGraph_k s1 _ _ l1 _ (Reads.below (w := w13.drew) HX.out bw14) (Reads.of_own oy) hl1 (p := ⟨w.heap.size + 1, 0, none⟩) (q := ⟨w.heap.size + 1, 1, none⟩) (r := ⟨w9.heap.size, 0, none⟩) (t := ⟨w9.heap.size, 1, none⟩) (a := .int .i64 s1) (b := .slice A1 l1.length c1) (c := .int .i64 s1) (d := .slice Axh l1.length cxh) ?_ ?_ ?_ ?_).mono ?_; (simp [*]); (simp [*]); (simp [*]); (simp [*]); rintro e w15 ⟨rfl, m0, m1, m2, m3, bw15⟩))
  clear k0 k1 k2 k3 m0 m1 m2 m3 HA HX oy
  clear pah0 pah1 pxh0 pxh1
  have cw14 : Below w13.heap.size w13 w14 := (Below.refl _ _).drew.trans bw14
  clear bw14
  have e12 := btrans e11 cw14
  have z12 := Lib.hid cw14.size
  replace g0_ := g0_.below cw14 g0_.lt
  replace g1 := g1.below cw14 g1.lt
  replace gzw := gzw.below cw14 gzw.lt
  replace gxg := gxg.below cw14 gxg.lt
  replace gxh := gxh.below cw14 gxh.lt
  replace gg := gg.below cw14 gg.lt
  replace ow_ := ow_.below cw14
  replace oxg_ := oxg_.below cw14
  replace oxh_ := oxh_.below cw14
  replace og_ := og_.below cw14
  clear cw14 e11
  have e13 := btrans e12 bw15
  have z13 := Lib.hid bw15.size
  replace g0_ := g0_.below bw15 g0_.lt
  replace g1 := g1.below bw15 g1.lt
  replace gzw := gzw.below bw15 gzw.lt
  replace gxg := gxg.below bw15 gxg.lt
  replace gxh := gxh.below bw15 gxh.lt
  replace gg := gg.below bw15 gg.lt
  replace ow_ := ow_.below bw15
  replace oxg_ := oxg_.below bw15
  replace oxh_ := oxh_.below bw15
  replace og_ := og_.below bw15
  clear bw15 e12
  obtain ⟨pxg0, pxg1, -, -⟩ := gxg.two
  go_wp2_with fail
  refine (markGraph_own s0 _ l0 _ _ (1) w15 oxg_ (by omega)).mono ?_
  rintro e w16 ⟨rfl, om, tw16⟩
  clear pxg0 pxg1
  have uz0_0 := z0_0.out
  have uz0_1 := z0_1.out
  have uyag := yag.out
  have uyah := yah.out
  have uz0 := z0.out
  have uz1 := z1.out
  have uzqw7 := zqw7.out
  have uyw2 := yw2.out
  have uz2 := z2.out
  have uz3 := z3.out
  have uz4 := z4.out
  have uyxg := yxg.out
  have uz5 := z5.out
  have uz6 := z6.out
  have uyxh := yxh.out
  have uz7 := z7.out
  have uz8 := z8.out
  have uyg := yg.out
  have uz9 := z9.out
  have uz10 := z10.out
  have uz11 := z11.out
  have uz12 := z12.out
  have uz13 := z13.out
  have e14 : Below w.heap.size w w16 := e13.trans (tw16.below (by omega) (by omega))
  have z14 := Lib.hid tw16.size
  replace g0_ := blk_turned g0_ tw16 (by omega)
  replace g1 := blk_turned g1 tw16 (by omega)
  replace gzw := blk_turned gzw tw16 (by omega)
  replace gxg := blk_turned gxg tw16 (by omega)
  replace gxh := blk_turned gxh tw16 (by omega)
  replace gg := blk_turned gg tw16 (by omega)
  replace ow_ := ow_.turned tw16 (by omega)
  replace oxh_ := oxh_.turned tw16 (by omega)
  replace og_ := og_.turned tw16 (by omega)
  clear uz0_0 uz0_1 uyag uyah uz0 uz1 uzqw7 uyw2 uz2 uz3 uz4 uyxg uz5 uz6 uyxh uz7 uz8 uyg uz9 uz10 uz11 uz12 uz13
  clear oxg_ tw16 e13
  have oxg_ := om
  clear om
  obtain ⟨pxh0, pxh1, -, -⟩ := gxh.two
  go_wp2_with fail
  refine (markGraph_own s1 _ l1 _ _ (1 + 2 * l0.length) w16 oxh_ (by omega)).mono ?_
  rintro e w17 ⟨rfl, om, tw17⟩
  clear pxh0 pxh1
  have uz0_0 := z0_0.out
  have uz0_1 := z0_1.out
  have uyag := yag.out
  have uyah := yah.out
  have uz0 := z0.out
  have uz1 := z1.out
  have uzqw7 := zqw7.out
  have uyw2 := yw2.out
  have uz2 := z2.out
  have uz3 := z3.out
  have uz4 := z4.out
  have uyxg := yxg.out
  have uz5 := z5.out
  have uz6 := z6.out
  have uyxh := yxh.out
  have uz7 := z7.out
  have uz8 := z8.out
  have uyg := yg.out
  have uz9 := z9.out
  have uz10 := z10.out
  have uz11 := z11.out
  have uz12 := z12.out
  have uz13 := z13.out
  have uz14 := z14.out
  have e15 : Below w.heap.size w w17 := e14.trans (tw17.below (by omega) (by omega))
  have z15 := Lib.hid tw17.size
  replace g0_ := blk_turned g0_ tw17 (by omega)
  replace g1 := blk_turned g1 tw17 (by omega)
  replace gzw := blk_turned gzw tw17 (by omega)
  replace gxg := blk_turned gxg tw17 (by omega)
  replace gxh := blk_turned gxh tw17 (by omega)
  replace gg := blk_turned gg tw17 (by omega)
  replace ow_ := ow_.turned tw17 (by omega)
  replace oxg_ := oxg_.turned tw17 (by omega)
  replace og_ := og_.turned tw17 (by omega)
  clear uz0_0 uz0_1 uyag uyah uz0 uz1 uzqw7 uyw2 uz2 uz3 uz4 uyxg uz5 uz6 uyxh uz7 uz8 uyg uz9 uz10 uz11 uz12 uz13 uz14
  clear oxh_ tw17 e14
  have oxh_ := om
  clear om
  obtain ⟨pg0, pg1, -, -⟩ := gg.two
  obtain ⟨pw0, pw1, -, -⟩ := gzw.two
  go_wp2_with fail
  refine (eqGraph_yes (szG (BesOk s0 s1 l0 l1) (s0 + s1)) _ _ (edG (BesOk s0 s1 l0 l1) (besL (s0 + s1).toNat s0 l0 l1)) w17 og_.reads ow_.reads hlen).mono ?_
  rintro e w18 ⟨rfl, bw18⟩
  clear pg0 pg1 pw0 pw1
  have e16 := btrans e15 bw18
  have z16 := Lib.hid bw18.size
  replace g0_ := g0_.below bw18 g0_.lt
  replace g1 := g1.below bw18 g1.lt
  replace gzw := gzw.below bw18 gzw.lt
  replace gxg := gxg.below bw18 gxg.lt
  replace gxh := gxh.below bw18 gxh.lt
  replace gg := gg.below bw18 gg.lt
  replace ow_ := ow_.below bw18
  replace oxg_ := oxg_.below bw18
  replace oxh_ := oxh_.below bw18
  replace og_ := og_.below bw18
  clear bw18 e15
  clear oxg_
  clear gxg
  clear oxh_
  clear gxh
  obtain ⟨pg0, pg1, -, -⟩ := gg.two
  go_wp2_with fail
  refine (markGraph_own (szG (BesOk s0 s1 l0 l1) (s0 + s1)) _ (edG (BesOk s0 s1 l0 l1) (besL (s0 + s1).toNat s0 l0 l1)) _ _ 1 w18 og_ (by omega)).mono ?_
  rintro e w19 ⟨rfl, om, tw19⟩
  clear pg0 pg1
  have uz0_0 := z0_0.out
  have uz0_1 := z0_1.out
  have uyag := yag.out
  have uyah := yah.out
  have uz0 := z0.out
  have uz1 := z1.out
  have uzqw7 := zqw7.out
  have uyw2 := yw2.out
  have uz2 := z2.out
  have uz3 := z3.out
  have uz4 := z4.out
  have uyxg := yxg.out
  have uz5 := z5.out
  have uz6 := z6.out
  have uyxh := yxh.out
  have uz7 := z7.out
  have uz8 := z8.out
  have uyg := yg.out
  have uz9 := z9.out
  have uz10 := z10.out
  have uz11 := z11.out
  have uz12 := z12.out
  have uz13 := z13.out
  have uz14 := z14.out
  have uz15 := z15.out
  have uz16 := z16.out
  have e17 : Below w.heap.size w w19 := e16.trans (tw19.below (by omega) (by omega))
  have z17 := Lib.hid tw19.size
  replace g0_ := blk_turned g0_ tw19 (by omega)
  replace g1 := blk_turned g1 tw19 (by omega)
  replace gzw := blk_turned gzw tw19 (by omega)
  replace gg := blk_turned gg tw19 (by omega)
  replace ow_ := ow_.turned tw19 (by omega)
  clear uz0_0 uz0_1 uyag uyah uz0 uz1 uzqw7 uyw2 uz2 uz3 uz4 uyxg uz5 uz6 uyxh uz7 uz8 uyg uz9 uz10 uz11 uz12 uz13 uz14 uz15 uz16
  clear og_ tw19 e16
  have og_ := om
  clear om
  obtain ⟨pg0, pg1, -, -⟩ := gg.two
  go_wp2_with fail
  refine (heldGraph_own (szG (BesOk s0 s1 l0 l1) (s0 + s1)) _ (edG (BesOk s0 s1 l0 l1) (besL (s0 + s1).toNat s0 l0 l1)).length _ _ 1 w19 og_ (by omega)).mono ?_
  rintro e w20 ⟨rfl, bw20⟩
  clear pg0 pg1
  have e18 := btrans e17 bw20
  have z18 := Lib.hid bw20.size
  replace g0_ := g0_.below bw20 g0_.lt
  replace g1 := g1.below bw20 g1.lt
  replace gzw := gzw.below bw20 gzw.lt
  replace gg := gg.below bw20 gg.lt
  replace ow_ := ow_.below bw20
  replace og_ := og_.below bw20
  clear bw20 e17
  have HA := Lib.hid (fun (W : World) (hW : Below w20.heap.size w20 W) => H0.out.below (btrans e18 hW))
  have HB := Lib.hid (fun (W : World) (hW : Below w20.heap.size w20 W) => H1.out.below (btrans e18 hW))
  have HGA := Lib.hid g0_
  have HGB := Lib.hid g1
  have HE0 := Lib.hid e18
  have HSK := Lib.hid (fun (W : World) (hW : Below w20.heap.size w20 W) => (⟨(HGA.out.below hW HGA.out.lt).cell 0, (HGA.out.below hW HGA.out.lt).cell 1, (HGB.out.below hW HGB.out.lt).cell 0, (HGB.out.below hW HGB.out.lt).cell 1⟩ : W.cell? ⟨w.heap.size, 0, none⟩ = some (.int .i64 s0) ∧ W.cell? ⟨w.heap.size, 1, none⟩ = some (.slice A0 l0.length c0) ∧ W.cell? ⟨w.heap.size + 1, 0, none⟩ = some (.int .i64 s1) ∧ W.cell? ⟨w.heap.size + 1, 1, none⟩ = some (.slice A1 l1.length c1)))
  obtain ⟨pag0, pag1, -, -⟩ := g0_.two
  obtain ⟨pah0, pah1, -, -⟩ := g1.two
  go_wp2_with fail
  go_cut [15, 16] (fun sa sb wx => ∃ (W : World) (p : Nat) (Ar : Option Addr) (cr : Nat), W = wx ∧ sa = .pointer (some ⟨p, 0, none⟩) ∧ sb = .bool (okG (BesOk s0 s1 l0 l1)) ∧ Blk W p 29 #[.int .i64 (szG (BesOk s0 s1 l0 l1) (s0 + s1)), .slice Ar (edG (BesOk s0 s1 l0 l1) (besL (s0 + s1).toNat s0 l0 l1)).length cr] ∧ w20.heap.size ≤ p ∧ W.ownsRow w20.heap.size 72 2 (.slice Ar (edG (BesOk s0 s1 l0 l1) (besL (s0 + s1).toNat s0 l0 l1)).length cr) (edG (BesOk s0 s1 l0 l1) (besL (s0 + s1).toNat s0 l0 l1)).length (cellsE (edG (BesOk s0 s1 l0 l1) (besL (s0 + s1).toNat s0 l0 l1))) ∧ Below w20.heap.size w20 W)
  case first =>
    go_region_held3 (fun w' => w'.cell? ⟨w.heap.size, 0, none⟩ = some (.int .i64 s0) ∧ w'.cell? ⟨w.heap.size, 1, none⟩ = some (.slice A0 l0.length c0) ∧ w'.cell? ⟨w.heap.size + 1, 0, none⟩ = some (.int .i64 s1) ∧ w'.cell? ⟨w.heap.size + 1, 1, none⟩ = some (.slice A1 l1.length c1)) (first | go_keep | (refine HSK.out _ ?_; have hz_ := d3.size; have hz2_ := d2.size; have hz3_ := d1.size; have hb_ := d3; go_grown) | (refine HSK.out _ ?_; have hz_ := d2.size; have hz3_ := d1.size; have hb_ := d2; go_grown) | (refine HSK.out _ ?_; have hz_ := d1.size; have hb_ := d1; go_grown))
      (first
        | (go_at_call 15; have D1 : Below w20.heap.size w20 w20.drew := (Below.refl _ _).drew; have E1 := HA.out _ D1; (with_reducible refine (toGraph_any s0 (.slice A0 l0.length c0) l0 w20.drew E1 hl0).mono ?_); rintro e w21 ⟨Aq, cq, rfl, oq, b1⟩; have d1 : Below w20.heap.size w20 w21 := btrans D1 b1; obtain ⟨ta0, ta1, ta2, ta3⟩ := HSK.out w21 d1; have ta4 := (HGA.out.below d1 HGA.out.lt).lt; have ta5 := (HGB.out.below d1 HGB.out.lt).lt)
        | (go_at_call 15; have D1 : Below w20.heap.size w20 (w20.alloc (.cells #[.int .i64 0, .slice none 0 0] 29)).drew := ((Below.refl _ _).alloc (Nat.le_refl _) _).drew; have E1 := HA.out _ D1; (with_reducible refine (toGraph_any s0 (.slice A0 l0.length c0) l0 (w20.alloc (.cells #[.int .i64 0, .slice none 0 0] 29)).drew E1 hl0).mono ?_); rintro e w21 ⟨Aq, cq, rfl, oq, b1⟩; have d1 : Below w20.heap.size w20 w21 := btrans D1 b1; obtain ⟨ta0, ta1, ta2, ta3⟩ := HSK.out w21 d1; have ta4 := (HGA.out.below d1 HGA.out.lt).lt; have ta5 := (HGB.out.below d1 HGB.out.lt).lt; have Xn : Blk (w20.alloc (.cells #[.int .i64 0, .slice none 0 0] 29)).drew w20.heap.size 29 #[.int .i64 0, .slice none 0 0] := Blk.new w20 29 _; have X11 := Xn.below b1 Xn.lt; obtain ⟨xa11, xb11, xc11, xd11⟩ := X11.two; have xe11 := X11.lt)
        | (go_at_call 15; have D2 : Below w21.heap.size w21 w21 := (Below.refl _ _); have E2 := HB.out _ (btrans d1 D2); (with_reducible refine (toGraph_any s1 (.slice A1 l1.length c1) l1 w21 E2 hl1).mono ?_); rintro e w22 ⟨Ar, cr, rfl, oq2, b2⟩; have f2 : Below w21.heap.size w21 w22 := btrans D2 b2; have d2 : Below w20.heap.size w20 w22 := btrans d1 f2; obtain ⟨tb0, tb1, tb2, tb3⟩ := HSK.out w22 d2; have tb4 := (HGA.out.below d2 HGA.out.lt).lt; have tb5 := (HGB.out.below d2 HGB.out.lt).lt; (try (have X12 := X11.below f2 X11.lt; obtain ⟨xa12, xb12, xc12, xd12⟩ := X12.two; have xe12 := X12.lt)))
        | (go_at_call 15; have D2 : Below w21.heap.size w21 (w21.alloc (.cells #[.int .i64 0, .slice none 0 0] 29)) := ((Below.refl _ _).alloc (Nat.le_refl _) _); have E2 := HB.out _ (btrans d1 D2); (with_reducible refine (toGraph_any s1 (.slice A1 l1.length c1) l1 (w21.alloc (.cells #[.int .i64 0, .slice none 0 0] 29)) E2 hl1).mono ?_); rintro e w22 ⟨Ar, cr, rfl, oq2, b2⟩; have f2 : Below w21.heap.size w21 w22 := btrans D2 b2; have d2 : Below w20.heap.size w20 w22 := btrans d1 f2; obtain ⟨tb0, tb1, tb2, tb3⟩ := HSK.out w22 d2; have tb4 := (HGA.out.below d2 HGA.out.lt).lt; have tb5 := (HGB.out.below d2 HGB.out.lt).lt; have Xn2 : Blk (w21.alloc (.cells #[.int .i64 0, .slice none 0 0] 29)) w21.heap.size 29 #[.int .i64 0, .slice none 0 0] := Blk.new w21 29 _; have X22 := Xn2.below b2 Xn2.lt; obtain ⟨xa22, xb22, xc22, xd22⟩ := X22.two; have xe22 := X22.lt; (try (have X12 := X11.below f2 X11.lt; obtain ⟨xa12, xb12, xc12, xd12⟩ := X12.two; have xe12 := X12.lt)))
        | (go_at_call 33; have D3 : Below w22.heap.size w22 w22 := (Below.refl _ _); have F1 := Reads.of_own (own_below (own_below oq f2) D3); have F2 := Reads.of_own (own_below oq2 D3); (with_reducible refine (HI.out Aq cq Ar cr w22 F1 F2).mono ?_); rintro e w23 ⟨Ah, ch, rfl, oh, b3⟩; have f3 : Below w22.heap.size w22 w23 := btrans D3 b3; have d3 : Below w20.heap.size w20 w23 := btrans d2 f3; obtain ⟨tc0, tc1, tc2, tc3⟩ := HSK.out w23 d3; have tc4 := (HGA.out.below d3 HGA.out.lt).lt; have tc5 := (HGB.out.below d3 HGB.out.lt).lt; (try (have X13 := X12.below f3 X12.lt; obtain ⟨xa13, xb13, xc13, xd13⟩ := X13.two; have xe13 := X13.lt)); (try (have X23 := X22.below f3 X22.lt; obtain ⟨xa23, xb23, xc23, xd23⟩ := X23.two; have xe23 := X23.lt)))
        | (go_at_call 33; have D3 : Below w22.heap.size w22 (w22.alloc (.cells #[.int .i64 0, .slice none 0 0] 29)) := ((Below.refl _ _).alloc (Nat.le_refl _) _); have F1 := Reads.of_own (own_below (own_below oq f2) D3); have F2 := Reads.of_own (own_below oq2 D3); (with_reducible refine (HI.out Aq cq Ar cr (w22.alloc (.cells #[.int .i64 0, .slice none 0 0] 29)) F1 F2).mono ?_); rintro e w23 ⟨Ah, ch, rfl, oh, b3⟩; have f3 : Below w22.heap.size w22 w23 := btrans D3 b3; have d3 : Below w20.heap.size w20 w23 := btrans d2 f3; obtain ⟨tc0, tc1, tc2, tc3⟩ := HSK.out w23 d3; have tc4 := (HGA.out.below d3 HGA.out.lt).lt; have tc5 := (HGB.out.below d3 HGB.out.lt).lt; have Xn3 : Blk (w22.alloc (.cells #[.int .i64 0, .slice none 0 0] 29)) w22.heap.size 29 #[.int .i64 0, .slice none 0 0] := Blk.new w22 29 _; have X33 := Xn3.below b3 Xn3.lt; obtain ⟨xa33, xb33, xc33, xd33⟩ := X33.two; have xe33 := X33.lt; (try (have X13 := X12.below f3 X12.lt; obtain ⟨xa13, xb13, xc13, xd13⟩ := X13.two; have xe13 := X13.lt)); (try (have X23 := X22.below f3 X22.lt; obtain ⟨xa23, xb23, xc23, xd23⟩ := X23.two; have xe23 := X23.lt))))
    all_goals (go_wp2_with fail; go_meet)
    all_goals
      have y1 := d1.size; have y2 := d2.size; have y3 := d3.size; have y4 := f2.size; have y5 := f3.size
      first
        | exact ⟨_, _, _, _, rfl, rfl, rfl, boxes.box_done (n := szG (BesOk s0 s1 l0 l1) (s0 + s1)) oh (by first | omega | (simp; omega)) X13 d3 (by first | exact Nat.le_refl _ | omega)⟩
        | exact ⟨_, _, _, _, rfl, rfl, rfl, boxes.box_done (n := szG (BesOk s0 s1 l0 l1) (s0 + s1)) oh (by first | omega | (simp; omega)) X23 d3 (by first | exact Nat.le_refl _ | omega)⟩
        | exact ⟨_, _, _, _, rfl, rfl, rfl, boxes.box_done (n := szG (BesOk s0 s1 l0 l1) (s0 + s1)) oh (by first | omega | (simp; omega)) X33 d3 (by first | exact Nat.le_refl _ | omega)⟩
        | exact ⟨_, _, _, _, rfl, rfl, rfl, boxes.box_done (n := szG (BesOk s0 s1 l0 l1) (s0 + s1)) (oh.alloc (.cells #[.int .i64 0, .slice none 0 0] 29)) (by first | omega | (simp; omega)) (Blk.new w23 29 _) (d3.alloc d3.size _) d3.size⟩
        | exact ⟨_, _, _, _, rfl, rfl, rfl, Blk.new w23 29 _, d3.size, own_base (oh.alloc _) (by first | omega | (simp; omega)), d3.alloc d3.size _⟩
  case rest =>
  clear pag0 pag1 pah0 pah1
  obtain ⟨w24, ph, Ah, ch, rfl, rfl, rfl, gzh, zph, oh, d3⟩ := hcut
  have oh_ := OwnR.new oh
  clear oh
  have zqw24 := Lib.hid zph
  clear zph HA HB HGA HGB HSK HE0
  have yh2 := Lib.hid gzh.lt
  have e19 := btrans e18 d3
  have z19 := Lib.hid d3.size
  replace g0_ := g0_.below d3 g0_.lt
  replace g1 := g1.below d3 g1.lt
  replace gzw := gzw.below d3 gzw.lt
  replace gg := gg.below d3 gg.lt
  replace ow_ := ow_.below d3
  replace og_ := og_.below d3
  clear d3 e18
  obtain ⟨ph0, ph1, -, -⟩ := gzh.two
  obtain ⟨pw0, pw1, -, -⟩ := gzw.two
  go_wp2_with fail
  refine (eqGraph_yes (szG (BesOk s0 s1 l0 l1) (s0 + s1)) _ _ (edG (BesOk s0 s1 l0 l1) (besL (s0 + s1).toNat s0 l0 l1)) w24 oh_.reads ow_.reads hlen).mono ?_
  rintro e w25 ⟨rfl, bw25⟩
  clear ph0 ph1 pw0 pw1
  have e20 := btrans e19 bw25
  have z20 := Lib.hid bw25.size
  replace g0_ := g0_.below bw25 g0_.lt
  replace g1 := g1.below bw25 g1.lt
  replace gzw := gzw.below bw25 gzw.lt
  replace gg := gg.below bw25 gg.lt
  replace gzh := gzh.below bw25 gzh.lt
  replace ow_ := ow_.below bw25
  replace og_ := og_.below bw25
  replace oh_ := oh_.below bw25
  clear bw25 e19
  obtain ⟨pg0, pg1, -, -⟩ := gg.two
  go_wp2_with fail
  refine (heldGraph_own (szG (BesOk s0 s1 l0 l1) (s0 + s1)) _ (edG (BesOk s0 s1 l0 l1) (besL (s0 + s1).toNat s0 l0 l1)).length _ _ 1 w25 og_ (by omega)).mono ?_
  rintro e w26 ⟨rfl, bw26⟩
  clear pg0 pg1
  have e21 := btrans e20 bw26
  have z21 := Lib.hid bw26.size
  replace g0_ := g0_.below bw26 g0_.lt
  replace g1 := g1.below bw26 g1.lt
  replace gzw := gzw.below bw26 gzw.lt
  replace gg := gg.below bw26 gg.lt
  replace gzh := gzh.below bw26 gzh.lt
  replace ow_ := ow_.below bw26
  replace og_ := og_.below bw26
  replace oh_ := oh_.below bw26
  clear bw26 e20
  go_wp2_with fail
  go_ret
  exact ⟨rfl, e21⟩

set_option maxHeartbeats 1000000 in
set_option maxRecDepth 100000 in
theorem walk (s0 : Int) (u0 : Value) (l0 : List Ed) (s1 : Int) (u1 : Value) (l1 : List Ed) (w : World) (w0 : IsGr w s0 u0 l0) (w1 : IsGr w s1 u1 l1) :
    Calls Try.prog 7 #[.agg #[.int .i64 s0, u0], .agg #[.int .i64 s1, u1]] w fun e w' => e = .returned (.bool true) ∧ Below w.heap.size w w' := by
  obtain ⟨h0, hm0, hs0, ht0⟩ := w0
  obtain ⟨A0, c0, rfl, -⟩ := h0.form
  unfold maxLen at hm0
  obtain ⟨h1, hm1, hs1, ht1⟩ := w1
  obtain ⟨A1, c1, rfl, -⟩ := h1.form
  unfold maxLen at hm1
  have b0_0 : Below w.heap.size w (w.alloc (.cells #[.int .i64 s0, .slice A0 l0.length c0] 24)) := (Below.refl _ _).alloc (Nat.le_refl _) _
  have e0_0 : Below w.heap.size w (w.alloc (.cells #[.int .i64 s0, .slice A0 l0.length c0] 24)) := b0_0
  have g0 := Blk.new w 24 #[.int .i64 s0, .slice A0 l0.length c0]
  have b0_1 : Below (w.alloc (.cells #[.int .i64 s0, .slice A0 l0.length c0] 24)).heap.size (w.alloc (.cells #[.int .i64 s0, .slice A0 l0.length c0] 24)) ((w.alloc (.cells #[.int .i64 s0, .slice A0 l0.length c0] 24)).alloc (.cells #[.int .i64 s1, .slice A1 l1.length c1] 24)) := (Below.refl _ _).alloc (Nat.le_refl _) _
  have e0_1 : Below w.heap.size w ((w.alloc (.cells #[.int .i64 s0, .slice A0 l0.length c0] 24)).alloc (.cells #[.int .i64 s1, .slice A1 l1.length c1] 24)) := btrans e0_0 b0_1
  have g0_ := g0.alloc (.cells #[.int .i64 s1, .slice A1 l1.length c1] 24)
  have g1 : Blk ((w.alloc (.cells #[.int .i64 s0, .slice A0 l0.length c0] 24)).alloc (.cells #[.int .i64 s1, .slice A1 l1.length c1] 24)) (w.heap.size + 1) 24 #[.int .i64 s1, .slice A1 l1.length c1] := by have t := Blk.new (w.alloc (.cells #[.int .i64 s0, .slice A0 l0.length c0] 24)) 24 #[.int .i64 s1, .slice A1 l1.length c1]; simp only [World.size_alloc] at t; exact t
  by_cases hl0 : l0.length ≤ 1048576
  rotate_left
  · have hlt : (1048576 : Int) < (l0.length : Int) := by omega
    have HZ := Lib.hid (szGraph_no s0 (.slice A0 l0.length c0) l0 1048576 _ (h0.below e0_1) hlt (by omega) (by omega))
    clear h0 h1
    obtain ⟨p0, p1, -, -⟩ := g0_.two
    go_enter Try.func7, Try.ntmps7
    go_wp2_with fail
    refine HZ.out.mono ?_
    rintro e w1 ⟨rfl, b1⟩
    go_wp2_with fail
    go_ret
    exact ⟨rfl, btrans e0_1 b1⟩
  by_cases hl2 : l0.length + l1.length ≤ 1048576
  rotate_left
  · have hlt : (1048576 : Int) - (l0.length : Int) < (l1.length : Int) := by omega
    have HZ := Lib.hid (szGraph_yes s0 (.slice A0 l0.length c0) l0 1048576 _ (h0.below e0_1) (by omega) (by omega))
    have HY := Lib.hid (fun (w1 : World) (b1 : Below ((w.alloc (.cells #[.int .i64 s0, .slice A0 l0.length c0] 24)).alloc (.cells #[.int .i64 s1, .slice A1 l1.length c1] 24)).heap.size ((w.alloc (.cells #[.int .i64 s0, .slice A0 l0.length c0] 24)).alloc (.cells #[.int .i64 s1, .slice A1 l1.length c1] 24)) w1) => szGraph_no s1 (.slice A1 l1.length c1) l1 (1048576 - (l0.length : Int)) w1 (h1.below (btrans e0_1 b1)) hlt (by omega) (by omega))
    have hln : ((l0.length : Nat) : Int) ≤ 1048576 := by omega
    clear h0 h1
    obtain ⟨p0, p1, -, -⟩ := g0_.two
    go_enter Try.func7, Try.ntmps7
    go_wp2_with fail
    refine HZ.out.mono ?_
    rintro e w1 ⟨rfl, b1⟩
    clear p0 p1
    obtain ⟨p0, p1, -, -⟩ := (g1.below b1 g1.lt).two
    go_wp2_with fail
    refine (HY.out w1 b1).mono ?_
    rintro e w2 ⟨rfl, b2⟩
    go_wp2_with fail
    go_ret
    exact ⟨rfl, btrans (btrans e0_1 b1) b2⟩
  have hl1 : l1.length ≤ 1048576 := by omega
  exact core s0 A0 c0 l0 s1 A1 c1 l1 w h0 hl0 h1 hl1 hl2 (Lib.hid (fun B0 B1 d0 d1 W k0 k1 => specBes_any s0 s1 _ _ l0 l1 W k0 hl0 k1 hl1 hs0 ht0 hs1 ht1)) (Lib.hid (fun B0 B1 d0 d1 W k0 k1 => implBes_any s0 s1 _ _ l0 l1 W k0 hl0 k1 hl1)) (besL_len s0 s1 l0 l1)

theorem own : ownKnob Try.prog.godebug = none := by kernel_rfl
theorem laidOut : laidOutB Try.prog = true := by kernel_rfl

set_option maxHeartbeats 1000000 in
set_option maxRecDepth 100000 in
theorem lifted (os : Os) (started : os.Started) (H : Type) (enc : TypeId × Value → H) :
    ReturnsInHanded {} Try.checked os 7 .any (Rows.fnExactPutBesideSpec.pre6 enc Try.prog Try.f7 Rows.fnExactPutBesideRow.domain false) (Rows.fnExactPutBesideSpec.post enc Try.prog Try.f7 false true false false) := by
  refine returnsInHanded_of_change (C := Try.checked) own started (by kernel_rfl) Try.func7
    (ChangeSpec.witness6 (enc := enc) (C := Try.checked) false ⟨#[], #[.agg #[.int .i64 0, .slice none 0 0], .agg #[.int .i64 0, .slice none 0 0]], []⟩ 8 (by kernel_rfl) (by kernel_rfl) (by kernel_rfl) (by kernel_rfl)) ?_
  intro W base args ds gs before hval0 hW hcnd _
  have hval : ∀ (j : Nat) t v, Try.f7.params[j]? = some t → args[j]? = some v → Value.okWide Try.prog W .any base t v := hval0
  have hW' := hW
  obtain ⟨p, q, hA0, hV, rfl, hfz, hnd⟩ := hW
  have hA : DataW.TrodAll enc Try.prog W 0 (fun _ => true) true Try.f7.params.toList args.toList ds p := hA0
  rw [Try.params7] at hA hval
  obtain ⟨v0, vs0, d0, ds0, p0, q0, hargs, rfl, rfl, h0, r0⟩ := trodAll_cons hA
  obtain ⟨v1, vs1, d1, ds1, p1, q1, rfl, rfl, rfl, h1, r1⟩ := trodAll_cons r0
  obtain ⟨rfl, rfl, rfl⟩ := trodAll_nil r1
  obtain rfl : args = #[v0, v1] := by cases args; simp_all
  obtain ⟨rfl, rfl⟩ := trodVars_none hV
  have k0 := h0
  have lt0 : ∀ x ∈ p0, x.block < W.heap.size := by obtain ⟨m, hm⟩ := k0; exact DataW.trod_lt m _ _ _ hm
  obtain ⟨s0, u0, l0, rfl, w0⟩ := opens.open_graph (hval 0 24 v0 rfl rfl) h0
  have k1 := h1
  have lt1 : ∀ x ∈ p1, x.block < W.heap.size := by obtain ⟨m, hm⟩ := k1; exact DataW.trod_lt m _ _ _ hm
  obtain ⟨s1, u1, l1, rfl, w1⟩ := opens.open_graph (hval 1 24 v1 rfl rfl) h1
  clear hA0 hval0
  refine (walk s0 u0 l0 s1 u1 l1 W w0 w1).mono fun e W' ⟨he, bel⟩ => ?_
  subst he
  exact ⟨_, rfl, _, _, _, [], _, [], hW', trodAll_mk1 (shut_bool Try.underlying4 _), (trodAll_cons_mk (Below.trod laidOut (by kernel_rfl) (of_decide_eq_true (by kernel_rfl)) k0 bel lt0) (trodAll_cons_mk (Below.trod laidOut (by kernel_rfl) (of_decide_eq_true (by kernel_rfl)) k1 bel lt1) trodAll_mk0)), rfl, bel.frame _, fun h => by cases h⟩

theorem over : Rows.fnExactPutBesideRow.holds Try.pinned (OpenSpec.ofChange Rows.fnExactPutBesideSpec) :=
  OpenClaim.holds_of_wide 7 Try.f7 rfl rfl rfl rfl rfl rfl rfl ⟨rfl, rfl, rfl, rfl, rfl⟩ rfl rfl rfl rfl rfl (by kernel_rfl) Try.func7 (by kernel_rfl)
    (of_decide_eq_true (by kernel_rfl)) (by unfold Func.isWrapper; first | (rw [if_pos (by decide +kernel)]; kernel_rfl) | (rw [if_neg (by decide +kernel)]; exact ⟨rfl, rfl⟩))
    (fun os started H enc _ => lifted os started H enc)

theorem fnExactPutBeside_holds : Rows.FnExactPutBesideSaid := over
end Go.Proofs.Ytcnfeijniidclaa.exPutBeside
