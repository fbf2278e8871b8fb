/- FnExactIsBramble returns true for every Graph and every list of lists of numbers: the program's IsBramble and the model's return the same two values and write into nothing that was there. No conditions but the row's own about math/bits's tables. -/
import Derived.Test.YthgahkkjdpljjaaDoorCards
import Derived.Test.YthgahkkjdpljjaaDoorTie
import Derived.Test.YthgahkkjdpljjaaDoorEnvT
import Derived.Test.YthgahkkjdpljjaaDoorIbI
import Derived.Test.YthgahkkjdpljjaaDoorGridA
import Derived.Test.YthgahkkjdpljjaaDoorOpenG
import Derived.Test.YthgahkkjdpljjaaDoorOwn
import Derived.Test.YthgahkkjdpljjaaDoorOpen
import Derived.Test.YthgahkkjdpljjaaDoorRows
import Derived.ProofKit
import Derived.OpenShut
import Derived.ChangeOld
import Derived.Carry
import Derived.LaidMore
import Derived.Deep.DeepHandedRow
import Derived.Deep.DeepWitnessRowRef
namespace Go.Proofs.YthgahkkjdpljjaaDoor.exIb
open Go.ChangeShapes Go.WideShapes Go.ChangeAt Go.RowKit P2 words edges ints owns good adjs fns rets sets bags ups least joins _root_.Go.Proofs.YthgahkkjdpljjaaDoor.opens
set_option linter.unusedVariables false

/-- one row of a table is no longer than all together -/
theorem tot_mem : ∀ {rows : List (List Int)} {r : List Int}, r ∈ rows → r.length ≤ gridl.tot rows
  | x :: rs, r, h => by
    have e : gridl.tot (x :: rs) = x.length + gridl.tot rs := by simp [gridl.tot]
    rcases List.mem_cons.1 h with rfl | h
    · omega
    · have := tot_mem h; omega
set_option maxHeartbeats 4000000 in
set_option maxRecDepth 100000 in
theorem core (s0 : Int) (A0 : Option Addr) (c0 : Nat) (l0 : List Ed) (A1 : Option Addr) (c1 : Nat) (q1 : List Value) (l1 : List (List Int)) (w : World) (h0 : Edges w (.slice A0 l0.length c0) l0) (hl0 : l0.length ≤ 1048576) (h1 : gridr.ReadsG w (.slice A1 l1.length c1) q1 l1) (hl1 : gridl.tot l1 ≤ 1048576) (hm1 : l1.length ≤ 1048576) (hb1 : l0.length + l1.length + gridl.tot l1 ≤ 1048576)
    (HS : Hid (∀ (B0 : Option Addr) (d0 : Nat) (B1 : Option Addr) (d1 : Nat) (q1 : List Value) (W : World), Edges W (.slice B0 l0.length d0) l0 → gridr.ReadsG W (.slice B1 l1.length d1) q1 l1 → Calls Tryd.prog 6 #[.agg #[.int .i64 s0, .slice B0 l0.length d0], .slice B1 l1.length d1] W fun e W' => e = .returned (.tuple #[.bool (okG (BramP s0 l0 l1)), .bool (okG (P2.Good s0 l0))]) ∧ Below W.heap.size W W'))
    (HEnv : Hid (Env w))
    (HI : Hid (∀ (B0 : Option Addr) (d0 : Nat) (B1 : Option Addr) (d1 : Nat) (q1 : List Value) (W : World), Edges W (.slice B0 l0.length d0) l0 → gridr.ReadsG W (.slice B1 l1.length d1) q1 l1 → Env W → Calls Tryd.prog 9 #[.agg #[.int .i64 s0, .slice B0 l0.length d0], .slice B1 l1.length d1] W fun e W' => e = .returned (.tuple #[.bool (okG (BramP s0 l0 l1)), .bool (okG (P2.Good s0 l0))]) ∧ Below W.heap.size W W')) :
    Calls Tryd.prog 3 #[.agg #[.int .i64 s0, .slice A0 l0.length c0], .slice A1 l1.length c1] w fun e w' => e = .returned (.bool true) ∧ Below w.heap.size w w' := by
  have H0 := Lib.hid h0
  have H1 := Lib.hid h1
  have b0_0 : Below w.heap.size w (w.alloc (.cells #[.int .i64 s0, .slice A0 l0.length c0] 24)) := (Below.refl _ _).alloc (Nat.le_refl _) _
  have e0_0 : Below w.heap.size w (w.alloc (.cells #[.int .i64 s0, .slice A0 l0.length c0] 24)) := b0_0
  have g0 := Blk.new w 24 #[.int .i64 s0, .slice A0 l0.length c0]
  have z0_0 := Lib.hid b0_0.size
  have yag := Lib.hid g0.lt
  have hself : ∀ b : Bool, (b != b) = false := fun b => by simp
  have hselfi : ∀ b : Int, (b != b) = false := fun b => by simp
  clear h0 h1
  go_enter Tryd.func3, Tryd.ntmps3
  have hz0 : ((l0.length : Nat) : Int) ≤ 1048576 := by omega
  obtain ⟨pag0, pag1, -, -⟩ := g0.two
  go_wp2_with fail
  refine (szGraph_yes s0 (.slice A0 l0.length c0) l0 (1048576) (w.alloc (.cells #[.int .i64 s0, .slice A0 l0.length c0] 24)) (H0.out.below e0_0) (by omega) (by omega)).mono ?_
  rintro e w2 ⟨rfl, bw2⟩
  clear pag0 pag1
  have e0 := btrans e0_0 bw2
  have z0 := Lib.hid bw2.size
  replace g0 := g0.below bw2 g0.lt
  clear bw2
  go_wp2_with fail
  refine (gridl.szIntSS_yes (.slice A1 l1.length c1) q1 l1 (1048576 - (l0.length : Int)) w2 (H1.out.below e0) (by omega) (by omega) (by omega)).mono ?_
  rintro e w3 ⟨rfl, bw3⟩
  have e1 := btrans e0 bw3
  have z1 := Lib.hid bw3.size
  replace g0 := g0.below bw3 g0.lt
  clear bw3 e0
  have hy1 : ¬ (1048576 - (l0.length : Int) - (l1.length : Int) - (gridl.tot l1 : Int) < 0) := by omega
  obtain ⟨pag0, pag1, -, -⟩ := g0.two
  go_wp2_with fail
  refine (toGraph_any s0 (.slice A0 l0.length c0) l0 w3 (H0.out.below e1) hl0).mono ?_
  rintro e w4 ⟨Apg, cpg, rfl, opg, bw4⟩
  clear pag0 pag1
  have e2 := btrans e1 bw4
  have z2 := Lib.hid bw4.size
  replace g0 := g0.below bw4 g0.lt
  clear bw4 e1
  have opg_ := OwnR.new opg
  clear opg
  go_wp2_with fail
  refine (gridl.toIntSS_any (.slice A1 l1.length c1) q1 l1 w4 (H1.out.below e2) hl1 hm1).mono ?_
  rintro e w5 ⟨Apsets, cpsets, uspsets, rfl, opsets, bw5⟩
  have e3 := btrans e2 bw5
  have z3 := Lib.hid bw5.size
  replace g0 := g0.below bw5 g0.lt
  replace opg_ := opg_.below bw5
  clear bw5 e2
  have opsets_ := gridl.OwnGR.new opsets
  clear opsets
  go_wp2_with fail
  refine (HS.out Apg cpg Apsets cpsets uspsets w5 opg_.reads opsets_.reads).mono ?_
  rintro e w6 ⟨rfl, bw6⟩
  have e4 := btrans e3 bw6
  have z4 := Lib.hid bw6.size
  replace g0 := g0.below bw6 g0.lt
  replace opg_ := opg_.below bw6
  replace opsets_ := opsets_.below bw6
  clear bw6 e3
  obtain ⟨pag0, pag1, -, -⟩ := g0.two
  go_wp2_with fail
  refine (toGraph_any s0 (.slice A0 l0.length c0) l0 w6 (H0.out.below e4) hl0).mono ?_
  rintro e w7 ⟨Axg, cxg, rfl, oxg, bw7⟩
  clear pag0 pag1
  have e5 := btrans e4 bw7
  have z5 := Lib.hid bw7.size
  replace g0 := g0.below bw7 g0.lt
  clear bw7 e4
  have oxg_ := OwnR.new oxg
  clear oxg
  have bxxg : Below w7.heap.size w7 (w7.alloc (.cells #[.int .i64 s0, .slice Axg l0.length cxg] 30)) := (Below.refl _ _).alloc (Nat.le_refl _) _
  have gxg := Blk.new w7 30 #[.int .i64 s0, .slice Axg l0.length cxg]
  have e6 := btrans e5 bxxg
  have z6 := Lib.hid bxxg.size
  replace g0 := g0.below bxxg g0.lt
  replace oxg_ := oxg_.below bxxg
  clear bxxg e5
  have yxg := Lib.hid gxg.lt
  go_wp2_with fail
  refine (gridl.toIntSS_any (.slice A1 l1.length c1) q1 l1 (w7.alloc (.cells #[.int .i64 s0, .slice Axg l0.length cxg] 30)) (H1.out.below e6) hl1 hm1).mono ?_
  rintro e w8 ⟨Axsets, cxsets, usxsets, rfl, oxsets, bw8⟩
  have e7 := btrans e6 bw8
  have z7 := Lib.hid bw8.size
  replace g0 := g0.below bw8 g0.lt
  replace gxg := gxg.below bw8 gxg.lt
  replace oxg_ := oxg_.below bw8
  clear bw8 e6
  have oxsets_ := gridl.OwnGR.new oxsets
  clear oxsets
  obtain ⟨pxg0, pxg1, -, -⟩ := gxg.two
  go_wp2_with fail
  refine (HI.out Axg cxg Axsets cxsets usxsets w8 oxg_.reads oxsets_.reads (HEnv.out.next e7)).mono ?_
  rintro e w9 ⟨rfl, bw9⟩
  clear pxg0 pxg1
  have e8 := btrans e7 bw9
  have z8 := Lib.hid bw9.size
  replace g0 := g0.below bw9 g0.lt
  replace gxg := gxg.below bw9 gxg.lt
  replace oxg_ := oxg_.below bw9
  replace oxsets_ := oxsets_.below bw9
  clear bw9 e7
  obtain ⟨pag0, pag1, -, -⟩ := g0.two
  obtain ⟨pxg0, pxg1, -, -⟩ := gxg.two
  have HA := Lib.hid (H0.out.below e8)
  have HX := Lib.hid (oxg_.reads)
  go_wp2_with fail
  go_region_held3 (fun w' => w'.cell? ⟨w.heap.size, 0, none⟩ = some (.int .i64 s0) ∧ w'.cell? ⟨w.heap.size, 1, none⟩ = some (.slice A0 l0.length c0) ∧ w'.cell? ⟨w7.heap.size, 0, none⟩ = some (.int .i64 s0) ∧ w'.cell? ⟨w7.heap.size, 1, none⟩ = some (.slice Axg l0.length cxg)) (go_keep)
    (first | (go_at_call 7; refine (toGraph_k s0 (.slice A0 l0.length c0) l0 w9.drew HA.out hl0 (p := ⟨w.heap.size, 0, none⟩) (q := ⟨w.heap.size, 1, none⟩) (r := ⟨w7.heap.size, 0, none⟩) (t := ⟨w7.heap.size, 1, none⟩) (a := .int .i64 s0) (b := .slice A0 l0.length c0) (c := .int .i64 s0) (d := .slice Axg l0.length cxg) ?_ ?_ ?_ ?_).mono ?_; (simp [*]); (simp [*]); (simp [*]); (simp [*]); rintro e w10 ⟨⟨Ay, cy, rfl, oy⟩, k0, k1, k2, k3, bw10⟩)
           | (go_at_call 10; refine (eqGraph_k s0 _ _ l0 _ (Reads.below (w := w9.drew) HX.out bw10) (Reads.of_own oy) hl0 (p := ⟨w.heap.size, 0, none⟩) (q := ⟨w.heap.size, 1, none⟩) (r := ⟨w7.heap.size, 0, none⟩) (t := ⟨w7.heap.size, 1, none⟩) (a := .int .i64 s0) (b := .slice A0 l0.length c0) (c := .int .i64 s0) (d := .slice Axg l0.length cxg) ?_ ?_ ?_ ?_).mono ?_; (simp [*]); (simp [*]); (simp [*]); (simp [*]); rintro e w11 ⟨rfl, m0, m1, m2, m3, bw11⟩))
  clear k0 k1 k2 k3 m0 m1 m2 m3 HA HX oy
  clear pag0 pag1 pxg0 pxg1
  have cw10 : Below w9.heap.size w9 w10 := (Below.refl _ _).drew.trans bw10
  clear bw10
  have e9 := btrans e8 cw10
  have z9 := Lib.hid cw10.size
  replace g0 := g0.below cw10 g0.lt
  replace gxg := gxg.below cw10 gxg.lt
  replace oxg_ := oxg_.below cw10
  replace oxsets_ := oxsets_.below cw10
  clear cw10 e8
  have e10 := btrans e9 bw11
  have z10 := Lib.hid bw11.size
  replace g0 := g0.below bw11 g0.lt
  replace gxg := gxg.below bw11 gxg.lt
  replace oxg_ := oxg_.below bw11
  replace oxsets_ := oxsets_.below bw11
  clear bw11 e9
  go_wp2_with fail
  refine (gridl.toIntSS_any (.slice A1 l1.length c1) q1 l1 w11 (H1.out.below e10) hl1 hm1).mono ?_
  rintro e w12 ⟨Aysets, cysets, usysets, rfl, oysets, bw12⟩
  have e11 := btrans e10 bw12
  have z11 := Lib.hid bw12.size
  replace g0 := g0.below bw12 g0.lt
  replace gxg := gxg.below bw12 gxg.lt
  replace oxg_ := oxg_.below bw12
  replace oxsets_ := oxsets_.below bw12
  clear bw12 e10
  have oysets_ := gridl.OwnGR.new oysets
  clear oysets
  go_wp2_with fail
  refine (gridl.eqIntSS_own _ _ _ _ l1 w12 oxsets_.reads oysets_.reads hl1 hm1).mono ?_
  rintro e w13 ⟨rfl, bw13⟩
  have e12 := btrans e11 bw13
  have z12 := Lib.hid bw13.size
  replace g0 := g0.below bw13 g0.lt
  replace gxg := gxg.below bw13 gxg.lt
  replace oxg_ := oxg_.below bw13
  replace oxsets_ := oxsets_.below bw13
  replace oysets_ := oysets_.below bw13
  clear bw13 e11
  clear oysets_
  go_wp2_with fail
  go_ret
  exact ⟨rfl, e12⟩

set_option maxHeartbeats 1000000 in
set_option maxRecDepth 100000 in
theorem walk (s0 : Int) (u0 : Value) (l0 : List Ed) (u1 : Value) (q1 : List Value) (l1 : List (List Int)) (w : World) (hE : Env w) (w0 : IsGr w s0 u0 l0) (w1 : IsRows w u1 q1 l1) :
    Calls Tryd.prog 3 #[.agg #[.int .i64 s0, u0], u1] w fun e w' => e = .returned (.bool true) ∧ Below w.heap.size w w' := by
  obtain ⟨h0, hm0, hs0, ht0⟩ := w0
  obtain ⟨A0, c0, rfl, -⟩ := h0.form
  unfold maxLen at hm0
  obtain ⟨h1, hm1, hi1⟩ := w1
  obtain ⟨A1, c1, rfl, -⟩ := h1.1
  unfold maxLen at hm1 hi1
  have b0_0 : Below w.heap.size w (w.alloc (.cells #[.int .i64 s0, .slice A0 l0.length c0] 24)) := (Below.refl _ _).alloc (Nat.le_refl _) _
  have e0_0 : Below w.heap.size w (w.alloc (.cells #[.int .i64 s0, .slice A0 l0.length c0] 24)) := b0_0
  have g0 := Blk.new w 24 #[.int .i64 s0, .slice A0 l0.length c0]
  by_cases hl0 : l0.length ≤ 1048576
  rotate_left
  · have hlt : (1048576 : Int) < (l0.length : Int) := by omega
    have HZ := Lib.hid (szGraph_no s0 (.slice A0 l0.length c0) l0 1048576 _ (h0.below e0_0) hlt (by omega) (by omega))
    clear h0 h1
    obtain ⟨p0, p1, -, -⟩ := g0.two
    go_enter Tryd.func3, Tryd.ntmps3
    go_wp2_with fail
    refine HZ.out.mono ?_
    rintro e w1 ⟨rfl, b1⟩
    go_wp2_with fail
    go_ret
    exact ⟨rfl, btrans e0_0 b1⟩
  by_cases hb1 : l0.length + l1.length + gridl.tot l1 ≤ 1048576
  rotate_left
  · have HZ := Lib.hid (szGraph_yes s0 (.slice A0 l0.length c0) l0 1048576 _ (h0.below e0_0) (by omega) (by omega))
    have HY := Lib.hid (fun (w1 : World) (b1 : Below (w.alloc (.cells #[.int .i64 s0, .slice A0 l0.length c0] 24)).heap.size (w.alloc (.cells #[.int .i64 s0, .slice A0 l0.length c0] 24)) w1) => gridl.szIntSS_no (.slice A1 l1.length c1) q1 l1 (1048576 - (l0.length : Int)) w1 (h1.below (btrans e0_0 b1)) (by omega) (by omega) (by omega) (fun r hr => by have := (hi1 r hr).1; omega) (by omega))
    have hln : ((l0.length : Nat) : Int) ≤ 1048576 := by omega
    clear h0 h1
    obtain ⟨p0, p1, -, -⟩ := g0.two
    go_enter Tryd.func3, Tryd.ntmps3
    go_wp2_with fail
    refine HZ.out.mono ?_
    rintro e w1 ⟨rfl, b1⟩
    clear p0 p1
    go_wp2_with fail
    refine (HY.out w1 b1).mono ?_
    rintro e w2 ⟨rfl, b2⟩
    go_wp2_with fail
    go_ret
    exact ⟨rfl, btrans (btrans e0_0 b1) b2⟩
  have hl1 : gridl.tot l1 ≤ 1048576 := by omega
  exact core s0 A0 c0 l0 A1 c1 q1 l1 w h0 hl0 h1 hl1 (by omega) hb1 (Lib.hid (fun B0 d0 B1 d1 q1 W k0 k1 => specIb_any s0 _ B1 d1 q1 l1 l0 W k0 hl0 k1 (by omega) (fun r hr => Nat.le_trans (tot_mem hr) hl1) hs0 ht0)) (Lib.hid hE) (Lib.hid (fun B0 d0 B1 d1 q1 W k0 k1 hv => implIb_any s0 _ B1 d1 q1 l1 l0 W k0 hl0 k1 (by omega) (fun r hr => Nat.le_trans (tot_mem hr) hl1) hv))

theorem own : ownKnob Tryd.prog.godebug = none := by kernel_rfl
theorem laidOut : laidOutB Tryd.prog = true := by kernel_rfl

theorem door_met (os : Os) : laidMet Tryd.prog Rows.fnExactIsBrambleRow.laid ((World.doorLaid Tryd.prog 400 os).forCall (fun _ _ => 0) ⟨#[], #[.agg #[.int .i64 0, .slice none 0 0], .slice none 0 0], []⟩).memory :=
  laidMet_of_run' 8 (by kernel_rfl) (by kernel_rfl)
theorem reads (os : Os) {H : Type} (enc : TypeId × Value → H) : ∃ places, DataW.whole enc Tryd.prog ((World.doorLaid Tryd.prog 400 os).forCall (fun _ _ => 0) ⟨#[], #[.agg #[.int .i64 0, .slice none 0 0], .slice none 0 0], []⟩).memory Tryd.f3.params.toList Rows.fnExactIsBrambleSpec.vars false (#[.agg #[.int .i64 0, .slice none 0 0], .slice none 0 0] : Array Value).toList 8 = some ([.agg [.lit (.int .i64 0), .nil], .nil], [], places) :=
  ⟨[], by kernel_rfl⟩

set_option maxRecDepth 100000 in
theorem lifted (os : Os) (started : os.Started) (H : Type) (enc : TypeId × Value → H) (F : Stop.Interp) :
    ReturnsInHanded {} Tryd.checked os 3 .any ((OpenSpec.ofChange Rows.fnExactIsBrambleSpec).preRow enc Tryd.prog Tryd.f3 Rows.fnExactIsBrambleRow.domain false Rows.fnExactIsBrambleRow.laid) (((OpenSpec.ofChange Rows.fnExactIsBrambleSpec).at F).post enc Tryd.prog Tryd.f3 false true false false) := by
  obtain ⟨places, hx⟩ := reads os enc
  refine returnsInHanded_of_row (C := Tryd.checked) (s := OpenSpec.ofChange Rows.fnExactIsBrambleSpec) own started (by kernel_rfl) Tryd.func3
    (witness_row_atRef (enc := enc) (C := Tryd.checked) false (World.doorLaid Tryd.prog 400 os) #[.agg #[.int .i64 0, .slice none 0 0], .slice none 0 0] rfl (by kernel_rfl) (by kernel_rfl) (by kernel_rfl)
      (OpenSpec.preRow_of_cond 8 hx (by kernel_rfl) (fun k hk => by cases hk) (by kernel_rfl) (door_met os))) ?_
  intro W base args ds gs before hval0 hW _ _ _ hL hsh _
  have hval : ∀ (j : Nat) t v, Tryd.f3.params[j]? = some t → args[j]? = some v → Value.okWide Tryd.prog W .any base t v := hval0
  have hW' := hW
  obtain ⟨p, q, hA0, hV, rfl, hfz, hnd⟩ := hW
  have hA : DataW.TrodAll enc Tryd.prog W 0 (fun _ => true) true Tryd.f3.params.toList args.toList ds p := hA0
  rw [Tryd.params3] at hA hval
  obtain ⟨v0, vs0, d0, ds0, p0, q0, hargs, rfl, rfl, h0, r0⟩ := trodAll_cons hA
  obtain ⟨v1, vs1, d1, ds1, p1, q1, rfl, rfl, rfl, h1, r1⟩ := trodAll_cons r0
  obtain ⟨rfl, rfl, rfl⟩ := trodAll_nil r1
  obtain rfl : args = #[v0, v1] := by cases args; simp_all
  obtain ⟨rfl, rfl⟩ := trodVars_none hV
  have k0 := h0
  have lt0 : ∀ x ∈ p0, x.block < W.heap.size := by obtain ⟨m, hm⟩ := k0; exact DataW.trod_lt m _ _ _ hm
  obtain ⟨s0, u0, l0, rfl, w0⟩ := opens.open_graph (hval 0 24 v0 rfl rfl) h0
  have k1 := h1
  have lt1 : ∀ x ∈ p1, x.block < W.heap.size := by obtain ⟨m, hm⟩ := k1; exact DataW.trod_lt m _ _ _ hm
  obtain ⟨u1, q1, l1, rfl, w1⟩ := opens.open_rowsl (hval 1 25 v1 rfl rfl) h1
  clear hA0 hval0
  refine (walk s0 u0 l0 v1 q1 l1 W (env_of hL) w0 w1).mono fun e W' ⟨he, bel⟩ => ?_
  subst he
  exact ⟨_, rfl, _, _, _, [], _, [], hW', trodAll_mk1 (shut_bool Tryd.underlying4 _), (trodAll_cons_mk (Below.trod laidOut (by kernel_rfl) (of_decide_eq_true (by kernel_rfl)) k0 bel lt0) (trodAll_cons_mk (Below.trod laidOut (by kernel_rfl) (of_decide_eq_true (by kernel_rfl)) k1 bel lt1) trodAll_mk0)), rfl, bel.frame _, fun h => by cases h⟩

theorem said : Rows.FnExactIsBrambleSaid :=
  OpenClaim.holds_of_cond 3 Tryd.f3 rfl rfl rfl rfl rfl rfl rfl ⟨rfl, rfl, rfl, rfl, rfl⟩ rfl rfl rfl rfl rfl (by kernel_rfl) Tryd.func3 (by kernel_rfl)
    (of_decide_eq_true (by kernel_rfl)) (by unfold Func.isWrapper; first | (rw [if_pos (by decide +kernel)]; kernel_rfl) | (rw [if_neg (by decide +kernel)]; exact ⟨rfl, rfl⟩))
    (fun os started H enc _ F => by rw [OpenClaim.pre_eq_preRow]; exact lifted os started H enc F)

theorem plain (f : FuncId) (fn : Func) (hf : Tryd.pinned.checked.prog.funcNamed Rows.fnExactIsBrambleRow.func = some f) (hfn : Tryd.pinned.checked.prog.funcs[f]? = some fn) :
    false = Tryd.pinned.checked.prog.looks [] ∧ ∀ (j : Nat) t, fn.params[j]? = some t → Tryd.pinned.checked.prog.wantsStandIn t = false := by
  obtain rfl : f = 3 := Option.some.inj ((show Tryd.prog.funcNamed Rows.fnExactIsBrambleRow.func = some 3 by kernel_rfl).symm.trans hf) |>.symm
  obtain rfl : fn = Tryd.f3 := (Option.some.inj (Tryd.func3.symm.trans hfn)).symm
  refine ⟨by kernel_rfl, fun j t ht => ?_⟩
  rw [Tryd.params3] at ht
  have hm := Array.mem_of_getElem? ht
  have hall : ∀ t ∈ (#[24, 25] : Array TypeId), Tryd.prog.wantsStandIn t = false := by
    intro t ht
    simp at ht
    rcases ht with rfl | rfl
    all_goals kernel_rfl
  exact hall t hm

theorem fnExactIsBramble_card : Rows.FnExactIsBrambleCardSaid :=
  Claim7.holds_tied_plain_at .later [] _ _ _ _ said (fun _ h => by cases h) (by kernel_rfl) (fun _ h => by cases h) fnExactIsBramble_row_tie rfl ⟨rfl, rfl⟩ (by kernel_rfl) rfl plain (by kernel_rfl)
end Go.Proofs.YthgahkkjdpljjaaDoor.exIb
