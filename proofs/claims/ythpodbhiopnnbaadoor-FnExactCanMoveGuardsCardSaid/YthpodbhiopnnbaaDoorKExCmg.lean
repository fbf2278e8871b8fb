/- FnExactCanMoveGuards returns true for every Graph, any two lists of numbers and both ways of moving: the program's CanMoveGuards and the model's return the same two values and write into nothing that was there. No conditions but the row's own about math/bits's tables. -/
import Derived.Test.YthpodbhiopnnbaaDoorCards
import Derived.Test.YthpodbhiopnnbaaDoorTie
import Derived.Test.YthpodbhiopnnbaaDoorK18
import Derived.Test.YthpodbhiopnnbaaDoorK07
import Derived.Test.YthpodbhiopnnbaaDoorRows
import Derived.ProofKit
import Derived.OpenShut
import Derived.ChangeOld
import Derived.Carry
import Derived.LaidMore
import Derived.Deep.DeepHandedRow
import Derived.Deep.DeepWitnessRowRef
namespace Go.Proofs.YthpodbhiopnnbaaDoor.exCmg
open Go.ChangeShapes Go.WideShapes Go.ChangeAt Go.RowKit P2 words edges ints owns good adjs fns rets sets bags ups least _root_.Go.Proofs.YthpodbhiopnnbaaDoor.opens
set_option linter.unusedVariables false

set_option maxHeartbeats 4000000 in
set_option maxRecDepth 100000 in
theorem core (s0 : Int) (A0 : Option Addr) (c0 : Nat) (l0 : List Ed) (A1 : Option Addr) (c1 : Nat) (l1 : List Int) (A2 : Option Addr) (c2 : Nat) (l2 : List Int) (x3 : Bool) (w : World) (h0 : Edges w (.slice A0 l0.length c0) l0) (hl0 : l0.length ≤ 1048576) (h1 : Ints w (.slice A1 l1.length c1) l1) (hl1 : l1.length ≤ 1048576) (h2 : Ints w (.slice A2 l2.length c2) l2) (hl2 : l2.length ≤ 1048576)
    (HS : Hid (∀ (B0 : Option Addr) (d0 : Nat) (B1 : Option Addr) (d1 : Nat) (B2 : Option Addr) (d2 : Nat) (W : World), Edges W (.slice B0 l0.length d0) l0 → Ints W (.slice B1 l1.length d1) l1 → Ints W (.slice B2 l2.length d2) l2 → Calls Tryd.prog 10 #[.agg #[.int .i64 s0, .slice B0 l0.length d0], .slice B1 l1.length d1, .slice B2 l2.length d2, .bool x3] W fun e W' => e = .returned (.tuple #[.bool (okG (MvP s0 l0 x3 l1 l2)), .bool (okG (MvOk s0 l0 l1 l2))]) ∧ Below W.heap.size W W'))
    (HEnv : Hid (Env w))
    (HI : Hid (∀ (B0 : Option Addr) (d0 : Nat) (B1 : Option Addr) (d1 : Nat) (B2 : Option Addr) (d2 : Nat) (W : World), Edges W (.slice B0 l0.length d0) l0 → Ints W (.slice B1 l1.length d1) l1 → Ints W (.slice B2 l2.length d2) l2 → Env W → Calls Tryd.prog 13 #[.agg #[.int .i64 s0, .slice B0 l0.length d0], .slice B1 l1.length d1, .slice B2 l2.length d2, .bool x3] W fun e W' => e = .returned (.tuple #[.bool (okG (MvP s0 l0 x3 l1 l2)), .bool (okG (MvOk s0 l0 l1 l2))]) ∧ Below W.heap.size W W')) :
    Calls Tryd.prog 3 #[.agg #[.int .i64 s0, .slice A0 l0.length c0], .slice A1 l1.length c1, .slice A2 l2.length c2, .bool x3] w fun e w' => e = .returned (.bool true) ∧ Below w.heap.size w w' := by
  have H0 := Lib.hid h0
  have H1 := Lib.hid h1
  have H2 := Lib.hid h2
  have b0_0 : Below w.heap.size w (w.alloc (.cells #[.int .i64 s0, .slice A0 l0.length c0] 24)) := (Below.refl _ _).alloc (Nat.le_refl _) _
  have e0_0 : Below w.heap.size w (w.alloc (.cells #[.int .i64 s0, .slice A0 l0.length c0] 24)) := b0_0
  have g0 := Blk.new w 24 #[.int .i64 s0, .slice A0 l0.length c0]
  have z0_0 := Lib.hid b0_0.size
  have yag := Lib.hid g0.lt
  have hli1 : ((l1.length : Nat) : Int) ≤ 1048576 := by omega
  have hli2 : ((l2.length : Nat) : Int) ≤ 1048576 := by omega
  have hself : ∀ b : Bool, (b != b) = false := fun b => by simp
  have hselfi : ∀ b : Int, (b != b) = false := fun b => by simp
  clear h0 h1 h2
  go_enter Tryd.func3, Tryd.ntmps3
  have hz0 : ((l0.length : Nat) : Int) ≤ 1048576 := by omega
  obtain ⟨pag0, pag1, -, -⟩ := g0.two
  go_wp2_with fail
  refine (szGraph_yes s0 (.slice A0 l0.length c0) l0 (1048576) (w.alloc (.cells #[.int .i64 s0, .slice A0 l0.length c0] 24)) (H0.out.below e0_0) (by omega) (by omega)).mono ?_
  rintro e w2 ⟨rfl, bw2⟩
  clear pag0 pag1
  have e0 := btrans e0_0 bw2
  have z0 := Lib.hid bw2.size
  replace g0 := g0.below bw2 g0.lt
  clear bw2
  obtain ⟨pag0, pag1, -, -⟩ := g0.two
  go_wp2_with fail
  refine (toGraph_any s0 (.slice A0 l0.length c0) l0 w2 (H0.out.below e0) hl0).mono ?_
  rintro e w3 ⟨Apg, cpg, rfl, opg, bw3⟩
  clear pag0 pag1
  have e1 := btrans e0 bw3
  have z1 := Lib.hid bw3.size
  replace g0 := g0.below bw3 g0.lt
  clear bw3 e0
  have opg_ := OwnR.new opg
  clear opg
  go_wp2_with fail
  refine (toIntS_any (.slice A1 l1.length c1) l1 w3 (H1.out.below e1) hl1).mono ?_
  rintro e w4 ⟨Apfrom, cpfrom, rfl, opfrom, bw4⟩
  have e2 := btrans e1 bw4
  have z2 := Lib.hid bw4.size
  replace g0 := g0.below bw4 g0.lt
  replace opg_ := opg_.below bw4
  clear bw4 e1
  have opfrom_ := OwnR.new opfrom
  clear opfrom
  go_wp2_with fail
  refine (toIntS_any (.slice A2 l2.length c2) l2 w4 (H2.out.below e2) hl2).mono ?_
  rintro e w5 ⟨Apto, cpto, rfl, opto, bw5⟩
  have e3 := btrans e2 bw5
  have z3 := Lib.hid bw5.size
  replace g0 := g0.below bw5 g0.lt
  replace opg_ := opg_.below bw5
  replace opfrom_ := opfrom_.below bw5
  clear bw5 e2
  have opto_ := OwnR.new opto
  clear opto
  go_wp2_with fail
  refine (HS.out Apg cpg Apfrom cpfrom Apto cpto w5 opg_.reads opfrom_.reads opto_.reads).mono ?_
  rintro e w6 ⟨rfl, bw6⟩
  have e4 := btrans e3 bw6
  have z4 := Lib.hid bw6.size
  replace g0 := g0.below bw6 g0.lt
  replace opg_ := opg_.below bw6
  replace opfrom_ := opfrom_.below bw6
  replace opto_ := opto_.below bw6
  clear bw6 e3
  obtain ⟨pag0, pag1, -, -⟩ := g0.two
  go_wp2_with fail
  refine (toGraph_any s0 (.slice A0 l0.length c0) l0 w6 (H0.out.below e4) hl0).mono ?_
  rintro e w7 ⟨Axg, cxg, rfl, oxg, bw7⟩
  clear pag0 pag1
  have e5 := btrans e4 bw7
  have z5 := Lib.hid bw7.size
  replace g0 := g0.below bw7 g0.lt
  clear bw7 e4
  have oxg_ := OwnR.new oxg
  clear oxg
  have bxxg : Below w7.heap.size w7 (w7.alloc (.cells #[.int .i64 s0, .slice Axg l0.length cxg] 29)) := (Below.refl _ _).alloc (Nat.le_refl _) _
  have gxg := Blk.new w7 29 #[.int .i64 s0, .slice Axg l0.length cxg]
  have e6 := btrans e5 bxxg
  have z6 := Lib.hid bxxg.size
  replace g0 := g0.below bxxg g0.lt
  replace oxg_ := oxg_.below bxxg
  clear bxxg e5
  have yxg := Lib.hid gxg.lt
  go_wp2_with fail
  refine (toIntS_any (.slice A1 l1.length c1) l1 (w7.alloc (.cells #[.int .i64 s0, .slice Axg l0.length cxg] 29)) (H1.out.below e6) hl1).mono ?_
  rintro e w8 ⟨Axfrom, cxfrom, rfl, oxfrom, bw8⟩
  have e7 := btrans e6 bw8
  have z7 := Lib.hid bw8.size
  replace g0 := g0.below bw8 g0.lt
  replace gxg := gxg.below bw8 gxg.lt
  replace oxg_ := oxg_.below bw8
  clear bw8 e6
  have oxfrom_ := OwnR.new oxfrom
  clear oxfrom
  go_wp2_with fail
  refine (toIntS_any (.slice A2 l2.length c2) l2 w8 (H2.out.below e7) hl2).mono ?_
  rintro e w9 ⟨Axto, cxto, rfl, oxto, bw9⟩
  have e8 := btrans e7 bw9
  have z8 := Lib.hid bw9.size
  replace g0 := g0.below bw9 g0.lt
  replace gxg := gxg.below bw9 gxg.lt
  replace oxg_ := oxg_.below bw9
  replace oxfrom_ := oxfrom_.below bw9
  clear bw9 e7
  have oxto_ := OwnR.new oxto
  clear oxto
  obtain ⟨pxg0, pxg1, -, -⟩ := gxg.two
  go_wp2_with fail
  refine (HI.out Axg cxg Axfrom cxfrom Axto cxto w9 oxg_.reads oxfrom_.reads oxto_.reads (HEnv.out.next e8)).mono ?_
  rintro e w10 ⟨rfl, bw10⟩
  clear pxg0 pxg1
  have e9 := btrans e8 bw10
  have z9 := Lib.hid bw10.size
  replace g0 := g0.below bw10 g0.lt
  replace gxg := gxg.below bw10 gxg.lt
  replace oxg_ := oxg_.below bw10
  replace oxfrom_ := oxfrom_.below bw10
  replace oxto_ := oxto_.below bw10
  clear bw10 e8
  obtain ⟨pag0, pag1, -, -⟩ := g0.two
  obtain ⟨pxg0, pxg1, -, -⟩ := gxg.two
  have HA := Lib.hid (H0.out.below e9)
  have HX := Lib.hid (oxg_.reads)
  go_wp2_with fail
  go_region_held3 (fun w' => w'.cell? ⟨w.heap.size, 0, none⟩ = some (.int .i64 s0) ∧ w'.cell? ⟨w.heap.size, 1, none⟩ = some (.slice A0 l0.length c0) ∧ w'.cell? ⟨w7.heap.size, 0, none⟩ = some (.int .i64 s0) ∧ w'.cell? ⟨w7.heap.size, 1, none⟩ = some (.slice Axg l0.length cxg)) (go_keep)
    (first | (go_at_call 11; refine (toGraph_k s0 (.slice A0 l0.length c0) l0 w10.drew HA.out hl0 (p := ⟨w.heap.size, 0, none⟩) (q := ⟨w.heap.size, 1, none⟩) (r := ⟨w7.heap.size, 0, none⟩) (t := ⟨w7.heap.size, 1, none⟩) (a := .int .i64 s0) (b := .slice A0 l0.length c0) (c := .int .i64 s0) (d := .slice Axg l0.length cxg) ?_ ?_ ?_ ?_).mono ?_; (simp [*]); (simp [*]); (simp [*]); (simp [*]); rintro e w11 ⟨⟨Ay, cy, rfl, oy⟩, k0, k1, k2, k3, bw11⟩)
           | (go_at_call 14; refine (eqGraph_k s0 _ _ l0 _ (Reads.below (w := w10.drew) HX.out bw11) (Reads.of_own oy) hl0 (p := ⟨w.heap.size, 0, none⟩) (q := ⟨w.heap.size, 1, none⟩) (r := ⟨w7.heap.size, 0, none⟩) (t := ⟨w7.heap.size, 1, none⟩) (a := .int .i64 s0) (b := .slice A0 l0.length c0) (c := .int .i64 s0) (d := .slice Axg l0.length cxg) ?_ ?_ ?_ ?_).mono ?_; (simp [*]); (simp [*]); (simp [*]); (simp [*]); rintro e w12 ⟨rfl, m0, m1, m2, m3, bw12⟩))
  clear k0 k1 k2 k3 m0 m1 m2 m3 HA HX oy
  clear pag0 pag1 pxg0 pxg1
  have cw11 : Below w10.heap.size w10 w11 := (Below.refl _ _).drew.trans bw11
  clear bw11
  have e10 := btrans e9 cw11
  have z10 := Lib.hid cw11.size
  replace g0 := g0.below cw11 g0.lt
  replace gxg := gxg.below cw11 gxg.lt
  replace oxg_ := oxg_.below cw11
  replace oxfrom_ := oxfrom_.below cw11
  replace oxto_ := oxto_.below cw11
  clear cw11 e9
  have e11 := btrans e10 bw12
  have z11 := Lib.hid bw12.size
  replace g0 := g0.below bw12 g0.lt
  replace gxg := gxg.below bw12 gxg.lt
  replace oxg_ := oxg_.below bw12
  replace oxfrom_ := oxfrom_.below bw12
  replace oxto_ := oxto_.below bw12
  clear bw12 e10
  go_wp2_with fail
  refine (toIntS_any (.slice A1 l1.length c1) l1 w12 (H1.out.below e11) hl1).mono ?_
  rintro e w13 ⟨Ayfrom, cyfrom, rfl, oyfrom, bw13⟩
  have e12 := btrans e11 bw13
  have z12 := Lib.hid bw13.size
  replace g0 := g0.below bw13 g0.lt
  replace gxg := gxg.below bw13 gxg.lt
  replace oxg_ := oxg_.below bw13
  replace oxfrom_ := oxfrom_.below bw13
  replace oxto_ := oxto_.below bw13
  clear bw13 e11
  have oyfrom_ := OwnR.new oyfrom
  clear oyfrom
  go_wp2_with fail
  refine (eqIntS_own _ _ l1 w13 oxfrom_.reads oyfrom_.reads hl1).mono ?_
  rintro e w14 ⟨rfl, bw14⟩
  have e13 := btrans e12 bw14
  have z13 := Lib.hid bw14.size
  replace g0 := g0.below bw14 g0.lt
  replace gxg := gxg.below bw14 gxg.lt
  replace oxg_ := oxg_.below bw14
  replace oxfrom_ := oxfrom_.below bw14
  replace oxto_ := oxto_.below bw14
  replace oyfrom_ := oyfrom_.below bw14
  clear bw14 e12
  clear oyfrom_
  go_wp2_with fail
  refine (toIntS_any (.slice A2 l2.length c2) l2 w14 (H2.out.below e13) hl2).mono ?_
  rintro e w15 ⟨Ayto, cyto, rfl, oyto, bw15⟩
  have e14 := btrans e13 bw15
  have z14 := Lib.hid bw15.size
  replace g0 := g0.below bw15 g0.lt
  replace gxg := gxg.below bw15 gxg.lt
  replace oxg_ := oxg_.below bw15
  replace oxfrom_ := oxfrom_.below bw15
  replace oxto_ := oxto_.below bw15
  clear bw15 e13
  have oyto_ := OwnR.new oyto
  clear oyto
  go_wp2_with fail
  refine (eqIntS_own _ _ l2 w15 oxto_.reads oyto_.reads hl2).mono ?_
  rintro e w16 ⟨rfl, bw16⟩
  have e15 := btrans e14 bw16
  have z15 := Lib.hid bw16.size
  replace g0 := g0.below bw16 g0.lt
  replace gxg := gxg.below bw16 gxg.lt
  replace oxg_ := oxg_.below bw16
  replace oxfrom_ := oxfrom_.below bw16
  replace oxto_ := oxto_.below bw16
  replace oyto_ := oyto_.below bw16
  clear bw16 e14
  clear oyto_
  go_wp2_with fail
  go_ret
  exact ⟨rfl, e15⟩

set_option maxHeartbeats 1000000 in
set_option maxRecDepth 100000 in
theorem walk (s0 : Int) (u0 : Value) (l0 : List Ed) (u1 : Value) (l1 : List Int) (u2 : Value) (l2 : List Int) (x3 : Bool) (w : World) (hE : Env w) (w0 : IsGr w s0 u0 l0) (w1 : IsIn w u1 l1) (w2 : IsIn w u2 l2) :
    Calls Tryd.prog 3 #[.agg #[.int .i64 s0, u0], u1, u2, .bool x3] w fun e w' => e = .returned (.bool true) ∧ Below w.heap.size w w' := by
  obtain ⟨h0, hm0, hs0, ht0⟩ := w0
  obtain ⟨A0, c0, rfl, -⟩ := h0.form
  unfold maxLen at hm0
  obtain ⟨h1, hm1, hi1⟩ := w1
  obtain ⟨A1, c1, rfl, -⟩ := h1.form
  unfold maxLen at hm1
  obtain ⟨h2, hm2, hi2⟩ := w2
  obtain ⟨A2, c2, rfl, -⟩ := h2.form
  unfold maxLen at hm2
  by_cases hl1 : l1.length ≤ 1048576
  rotate_left
  · have hlt : (1048576 : Int) < (l1.length : Int) := by omega
    clear h1
    clear h2
    go_enter Tryd.func3, Tryd.ntmps3
    go_wp2_with fail
    go_ret
    refine ⟨rfl, ?_⟩
    repeat refine Below.alloc ?_ (by first | exact Nat.le_refl _ | (simp only [World.size_alloc]; omega)) _
    exact Below.refl _ _
  by_cases hl2 : l2.length ≤ 1048576
  rotate_left
  · have hlt : (1048576 : Int) < (l2.length : Int) := by omega
    clear h1
    clear h2
    go_enter Tryd.func3, Tryd.ntmps3
    go_wp2_with fail
    go_ret
    refine ⟨rfl, ?_⟩
    repeat refine Below.alloc ?_ (by first | exact Nat.le_refl _ | (simp only [World.size_alloc]; omega)) _
    exact Below.refl _ _
  have b0_0 : Below w.heap.size w (w.alloc (.cells #[.int .i64 s0, .slice A0 l0.length c0] 24)) := (Below.refl _ _).alloc (Nat.le_refl _) _
  have e0_0 : Below w.heap.size w (w.alloc (.cells #[.int .i64 s0, .slice A0 l0.length c0] 24)) := b0_0
  have g0 := Blk.new w 24 #[.int .i64 s0, .slice A0 l0.length c0]
  by_cases hl0 : l0.length ≤ 1048576
  rotate_left
  · have hlt : (1048576 : Int) < (l0.length : Int) := by omega
    have HZ := Lib.hid (szGraph_no s0 (.slice A0 l0.length c0) l0 1048576 _ (h0.below e0_0) hlt (by omega) (by omega))
    clear h0 h1 h2
    obtain ⟨p0, p1, -, -⟩ := g0.two
    go_enter Tryd.func3, Tryd.ntmps3
    go_wp2_with fail
    refine HZ.out.mono ?_
    rintro e w1 ⟨rfl, b1⟩
    go_wp2_with fail
    go_ret
    exact ⟨rfl, btrans e0_0 b1⟩
  exact core s0 A0 c0 l0 A1 c1 l1 A2 c2 l2 x3 w h0 hl0 h1 hl1 h2 hl2 (Lib.hid (fun B0 B1 B2 d0 d1 d2 W k0 k1 k2 => specCmg_any s0 x3 _ _ _ l0 l1 l2 W k0 hl0 k1 hl1 k2 hl2 hs0 ht0)) (Lib.hid hE) (Lib.hid (fun B0 B1 B2 d0 d1 d2 W k0 k1 k2 hv => implCmg_any s0 x3 _ _ _ l0 l1 l2 W hv k0 hl0 k1 hl1 k2 hl2))

theorem own : ownKnob Tryd.prog.godebug = none := by kernel_rfl
theorem laidOut : laidOutB Tryd.prog = true := by kernel_rfl

theorem door_met (os : Os) : laidMet Tryd.prog Rows.fnExactCanMoveGuardsRow.laid ((World.doorLaid Tryd.prog 400 os).forCall (fun _ _ => 0) ⟨#[], #[.agg #[.int .i64 0, .slice none 0 0], .slice none 0 0, .slice none 0 0, .bool false], []⟩).memory :=
  laidMet_of_run' 8 (by kernel_rfl) (by kernel_rfl)
theorem reads (os : Os) {H : Type} (enc : TypeId × Value → H) : ∃ places, DataW.whole enc Tryd.prog ((World.doorLaid Tryd.prog 400 os).forCall (fun _ _ => 0) ⟨#[], #[.agg #[.int .i64 0, .slice none 0 0], .slice none 0 0, .slice none 0 0, .bool false], []⟩).memory Tryd.f3.params.toList Rows.fnExactCanMoveGuardsSpec.vars false (#[.agg #[.int .i64 0, .slice none 0 0], .slice none 0 0, .slice none 0 0, .bool false] : Array Value).toList 8 = some ([.agg [.lit (.int .i64 0), .nil], .nil, .nil, .lit (.bool false)], [], places) :=
  ⟨[], by kernel_rfl⟩

set_option maxRecDepth 100000 in
theorem lifted (os : Os) (started : os.Started) (H : Type) (enc : TypeId × Value → H) (F : Stop.Interp) :
    ReturnsInHanded {} Tryd.checked os 3 .any ((OpenSpec.ofChange Rows.fnExactCanMoveGuardsSpec).preRow enc Tryd.prog Tryd.f3 Rows.fnExactCanMoveGuardsRow.domain false Rows.fnExactCanMoveGuardsRow.laid) (((OpenSpec.ofChange Rows.fnExactCanMoveGuardsSpec).at F).post enc Tryd.prog Tryd.f3 false true false false) := by
  obtain ⟨places, hx⟩ := reads os enc
  refine returnsInHanded_of_row (C := Tryd.checked) (s := OpenSpec.ofChange Rows.fnExactCanMoveGuardsSpec) own started (by kernel_rfl) Tryd.func3
    (witness_row_atRef (enc := enc) (C := Tryd.checked) false (World.doorLaid Tryd.prog 400 os) #[.agg #[.int .i64 0, .slice none 0 0], .slice none 0 0, .slice none 0 0, .bool false] rfl (by kernel_rfl) (by kernel_rfl) (by kernel_rfl)
      (OpenSpec.preRow_of_cond 8 hx (by kernel_rfl) (fun k hk => by cases hk) (by kernel_rfl) (door_met os))) ?_
  intro W base args ds gs before hval0 hW _ _ _ hL hsh _
  have hval : ∀ (j : Nat) t v, Tryd.f3.params[j]? = some t → args[j]? = some v → Value.okWide Tryd.prog W .any base t v := hval0
  have hW' := hW
  obtain ⟨p, q, hA0, hV, rfl, hfz, hnd⟩ := hW
  have hA : DataW.TrodAll enc Tryd.prog W 0 (fun _ => true) true Tryd.f3.params.toList args.toList ds p := hA0
  rw [Tryd.params3] at hA hval
  obtain ⟨v0, vs0, d0, ds0, p0, q0, hargs, rfl, rfl, h0, r0⟩ := trodAll_cons hA
  obtain ⟨v1, vs1, d1, ds1, p1, q1, rfl, rfl, rfl, h1, r1⟩ := trodAll_cons r0
  obtain ⟨v2, vs2, d2, ds2, p2, q2, rfl, rfl, rfl, h2, r2⟩ := trodAll_cons r1
  obtain ⟨v3, vs3, d3, ds3, p3, q3, rfl, rfl, rfl, h3, r3⟩ := trodAll_cons r2
  obtain ⟨rfl, rfl, rfl⟩ := trodAll_nil r3
  obtain rfl : args = #[v0, v1, v2, v3] := by cases args; simp_all
  obtain ⟨rfl, rfl⟩ := trodVars_none hV
  have k0 := h0
  have lt0 : ∀ x ∈ p0, x.block < W.heap.size := by obtain ⟨m, hm⟩ := k0; exact DataW.trod_lt m _ _ _ hm
  obtain ⟨s0, u0, l0, rfl, w0⟩ := opens.open_graph (hval 0 24 v0 rfl rfl) h0
  have k1 := h1
  have lt1 : ∀ x ∈ p1, x.block < W.heap.size := by obtain ⟨m, hm⟩ := k1; exact DataW.trod_lt m _ _ _ hm
  obtain ⟨u1, l1, rfl, w1⟩ := opens.open_intsl (hval 1 25 v1 rfl rfl) h1
  have k2 := h2
  have lt2 : ∀ x ∈ p2, x.block < W.heap.size := by obtain ⟨m, hm⟩ := k2; exact DataW.trod_lt m _ _ _ hm
  obtain ⟨u2, l2, rfl, w2⟩ := opens.open_intsl (hval 2 25 v2 rfl rfl) h2
  obtain ⟨a3, rfl, rfl, rfl⟩ := open_bool Tryd.underlying4 (hval 3 4 v3 rfl rfl) h3
  clear hA0 hval0
  refine (walk s0 u0 l0 v1 l1 v2 l2 a3 W (env_of hL) w0 w1 w2).mono fun e W' ⟨he, bel⟩ => ?_
  subst he
  exact ⟨_, rfl, _, _, _, [], _, [], hW', trodAll_mk1 (shut_bool Tryd.underlying4 _), (trodAll_cons_mk (Below.trod laidOut (by kernel_rfl) (of_decide_eq_true (by kernel_rfl)) k0 bel lt0) (trodAll_cons_mk (Below.trod laidOut (by kernel_rfl) (of_decide_eq_true (by kernel_rfl)) k1 bel lt1) (trodAll_cons_mk (Below.trod laidOut (by kernel_rfl) (of_decide_eq_true (by kernel_rfl)) k2 bel lt2) (trodAll_cons_mk (shut_bool Tryd.underlying4 _) trodAll_mk0)))), rfl, bel.frame _, fun h => by cases h⟩

theorem said : Rows.FnExactCanMoveGuardsSaid :=
  OpenClaim.holds_of_cond 3 Tryd.f3 rfl rfl rfl rfl rfl rfl rfl ⟨rfl, rfl, rfl, rfl, rfl⟩ rfl rfl rfl rfl rfl (by kernel_rfl) Tryd.func3 (by kernel_rfl)
    (of_decide_eq_true (by kernel_rfl)) (by unfold Func.isWrapper; first | (rw [if_pos (by decide +kernel)]; kernel_rfl) | (rw [if_neg (by decide +kernel)]; exact ⟨rfl, rfl⟩))
    (fun os started H enc _ F => by rw [OpenClaim.pre_eq_preRow]; exact lifted os started H enc F)

theorem plain (f : FuncId) (fn : Func) (hf : Tryd.pinned.checked.prog.funcNamed Rows.fnExactCanMoveGuardsRow.func = some f) (hfn : Tryd.pinned.checked.prog.funcs[f]? = some fn) :
    false = Tryd.pinned.checked.prog.looks [] ∧ ∀ (j : Nat) t, fn.params[j]? = some t → Tryd.pinned.checked.prog.wantsStandIn t = false := by
  obtain rfl : f = 3 := Option.some.inj ((show Tryd.prog.funcNamed Rows.fnExactCanMoveGuardsRow.func = some 3 by kernel_rfl).symm.trans hf) |>.symm
  obtain rfl : fn = Tryd.f3 := (Option.some.inj (Tryd.func3.symm.trans hfn)).symm
  refine ⟨by kernel_rfl, fun j t ht => ?_⟩
  rw [Tryd.params3] at ht
  have hm := Array.mem_of_getElem? ht
  have hall : ∀ t ∈ (#[24, 25, 25, 4] : Array TypeId), Tryd.prog.wantsStandIn t = false := by
    intro t ht
    simp at ht
    rcases ht with rfl | rfl | rfl
    all_goals kernel_rfl
  exact hall t hm

theorem fnExactCanMoveGuards_card : Rows.FnExactCanMoveGuardsCardSaid :=
  Claim7.holds_tied_plain_at .later [] _ _ _ _ said (fun _ h => by cases h) (by kernel_rfl) (fun _ h => by cases h) fnExactCanMoveGuards_row_tie rfl ⟨rfl, rfl⟩ (by kernel_rfl) rfl plain (by kernel_rfl)
end Go.Proofs.YthpodbhiopnnbaaDoor.exCmg
