/- FnExactEternalNumber returns true for every Graph and both ways of moving: the program's EternalNumber and the model's return the same and write into nothing that was there. No conditions but the row's own about math/bits's tables. -/
import Derived.Test.YthpodbhiopnnbaaDoorCards
import Derived.Test.YthpodbhiopnnbaaDoorTie
import Derived.Test.YthpodbhiopnnbaaDoorKExEn0
import Derived.Test.YthpodbhiopnnbaaDoorK24
import Derived.Test.YthpodbhiopnnbaaDoorK07
import Derived.Test.YthpodbhiopnnbaaDoorRows
import Derived.ProofKit
import Derived.OpenShut
import Derived.ChangeOld
import Derived.Carry
import Derived.LaidMore
import Derived.Deep.DeepHandedRow
import Derived.Deep.DeepWitnessRowRef
namespace Go.Proofs.YthpodbhiopnnbaaDoor.exEn
open Go.ChangeShapes Go.WideShapes Go.ChangeAt Go.RowKit P2 words edges ints owns good adjs fns rets sets bags ups least gridr grid gridl _root_.Go.Proofs.YthpodbhiopnnbaaDoor.opens
set_option linter.unusedVariables false

set_option maxHeartbeats 4000000 in
set_option maxRecDepth 100000 in
theorem core (s0 : Int) (A0 : Option Addr) (c0 : Nat) (l0 : List Ed) (x1 : Bool) (w : World) (h0 : Edges w (.slice A0 l0.length c0) l0) (hl0 : l0.length ≤ 1048576)
    (HS : Hid (∀ (B0 : Option Addr) (d0 : Nat) (W : World), Edges W (.slice B0 l0.length d0) l0 → Calls Tryd.prog 32 #[.agg #[.int .i64 s0, .slice B0 l0.length d0], .bool x1] W fun e W' => e = .returned (.tuple #[.int .i64 (szG (P2.Good s0 l0) (enV s0 l0 x1)), .bool (okG (P2.Good s0 l0))]) ∧ Below W.heap.size W W'))
    (HEnv : Hid (Env w))
    (HI : Hid (∀ (B0 : Option Addr) (d0 : Nat) (W : World), Edges W (.slice B0 l0.length d0) l0 → Env W → Calls Tryd.prog 33 #[.agg #[.int .i64 s0, .slice B0 l0.length d0], .bool x1] W fun e W' => e = .returned (.tuple #[.int .i64 (szG (P2.Good s0 l0) (enV s0 l0 x1)), .bool (okG (P2.Good s0 l0))]) ∧ Below W.heap.size W W')) :
    Calls Tryd.prog 8 #[.agg #[.int .i64 s0, .slice A0 l0.length c0], .bool x1] w fun e w' => e = .returned (.bool true) ∧ Below w.heap.size w w' := by
  have H0 := Lib.hid h0
  have b0_0 : Below w.heap.size w (w.alloc (.cells #[.int .i64 s0, .slice A0 l0.length c0] 24)) := (Below.refl _ _).alloc (Nat.le_refl _) _
  have e0_0 : Below w.heap.size w (w.alloc (.cells #[.int .i64 s0, .slice A0 l0.length c0] 24)) := b0_0
  have g0 := Blk.new w 24 #[.int .i64 s0, .slice A0 l0.length c0]
  have z0_0 := Lib.hid b0_0.size
  have yag := Lib.hid g0.lt
  have hself : ∀ b : Bool, (b != b) = false := fun b => by simp
  have hselfi : ∀ b : Int, (b != b) = false := fun b => by simp
  clear h0
  go_enter Tryd.func8, Tryd.ntmps8
  have hz0 : ((l0.length : Nat) : Int) ≤ 1048576 := by omega
  obtain ⟨pag0, pag1, -, -⟩ := g0.two
  go_wp2_with fail
  refine (szGraph_yes s0 (.slice A0 l0.length c0) l0 (1048576) (w.alloc (.cells #[.int .i64 s0, .slice A0 l0.length c0] 24)) (H0.out.below e0_0) (by omega) (by omega)).mono ?_
  rintro e w2 ⟨rfl, bw2⟩
  clear pag0 pag1
  have e0 := btrans e0_0 bw2
  have z0 := Lib.hid bw2.size
  replace g0 := g0.below bw2 g0.lt
  clear bw2
  obtain ⟨pag0, pag1, -, -⟩ := g0.two
  go_wp2_with fail
  refine (toGraph_any s0 (.slice A0 l0.length c0) l0 w2 (H0.out.below e0) hl0).mono ?_
  rintro e w3 ⟨Apg, cpg, rfl, opg, bw3⟩
  clear pag0 pag1
  have e1 := btrans e0 bw3
  have z1 := Lib.hid bw3.size
  replace g0 := g0.below bw3 g0.lt
  clear bw3 e0
  have opg_ := OwnR.new opg
  clear opg
  go_wp2_with fail
  refine (HS.out Apg cpg w3 opg_.reads).mono ?_
  rintro e w4 ⟨rfl, bw4⟩
  have e2 := btrans e1 bw4
  have z2 := Lib.hid bw4.size
  replace g0 := g0.below bw4 g0.lt
  replace opg_ := opg_.below bw4
  clear bw4 e1
  obtain ⟨pag0, pag1, -, -⟩ := g0.two
  go_wp2_with fail
  refine (toGraph_any s0 (.slice A0 l0.length c0) l0 w4 (H0.out.below e2) hl0).mono ?_
  rintro e w5 ⟨Axg, cxg, rfl, oxg, bw5⟩
  clear pag0 pag1
  have e3 := btrans e2 bw5
  have z3 := Lib.hid bw5.size
  replace g0 := g0.below bw5 g0.lt
  clear bw5 e2
  have oxg_ := OwnR.new oxg
  clear oxg
  have bxxg : Below w5.heap.size w5 (w5.alloc (.cells #[.int .i64 s0, .slice Axg l0.length cxg] 29)) := (Below.refl _ _).alloc (Nat.le_refl _) _
  have gxg := Blk.new w5 29 #[.int .i64 s0, .slice Axg l0.length cxg]
  have e4 := btrans e3 bxxg
  have z4 := Lib.hid bxxg.size
  replace g0 := g0.below bxxg g0.lt
  replace oxg_ := oxg_.below bxxg
  clear bxxg e3
  have yxg := Lib.hid gxg.lt
  obtain ⟨pxg0, pxg1, -, -⟩ := gxg.two
  go_wp2_with fail
  refine (HI.out Axg cxg (w5.alloc (.cells #[.int .i64 s0, .slice Axg l0.length cxg] 29)) oxg_.reads (HEnv.out.next e4)).mono ?_
  rintro e w6 ⟨rfl, bw6⟩
  clear pxg0 pxg1
  have e5 := btrans e4 bw6
  have z5 := Lib.hid bw6.size
  replace g0 := g0.below bw6 g0.lt
  replace gxg := gxg.below bw6 gxg.lt
  replace oxg_ := oxg_.below bw6
  clear bw6 e4
  obtain ⟨pag0, pag1, -, -⟩ := g0.two
  obtain ⟨pxg0, pxg1, -, -⟩ := gxg.two
  have HA := Lib.hid (H0.out.below e5)
  have HX := Lib.hid (oxg_.reads)
  go_wp2_with fail
  go_region_held3 (fun w' => w'.cell? ⟨w.heap.size, 0, none⟩ = some (.int .i64 s0) ∧ w'.cell? ⟨w.heap.size, 1, none⟩ = some (.slice A0 l0.length c0) ∧ w'.cell? ⟨w5.heap.size, 0, none⟩ = some (.int .i64 s0) ∧ w'.cell? ⟨w5.heap.size, 1, none⟩ = some (.slice Axg l0.length cxg)) (go_keep)
    (first | (go_at_call 11; refine (toGraph_k s0 (.slice A0 l0.length c0) l0 w6.drew HA.out hl0 (p := ⟨w.heap.size, 0, none⟩) (q := ⟨w.heap.size, 1, none⟩) (r := ⟨w5.heap.size, 0, none⟩) (t := ⟨w5.heap.size, 1, none⟩) (a := .int .i64 s0) (b := .slice A0 l0.length c0) (c := .int .i64 s0) (d := .slice Axg l0.length cxg) ?_ ?_ ?_ ?_).mono ?_; (simp [*]); (simp [*]); (simp [*]); (simp [*]); rintro e w7 ⟨⟨Ay, cy, rfl, oy⟩, k0, k1, k2, k3, bw7⟩)
           | (go_at_call 14; refine (eqGraph_k s0 _ _ l0 _ (Reads.below (w := w6.drew) HX.out bw7) (Reads.of_own oy) hl0 (p := ⟨w.heap.size, 0, none⟩) (q := ⟨w.heap.size, 1, none⟩) (r := ⟨w5.heap.size, 0, none⟩) (t := ⟨w5.heap.size, 1, none⟩) (a := .int .i64 s0) (b := .slice A0 l0.length c0) (c := .int .i64 s0) (d := .slice Axg l0.length cxg) ?_ ?_ ?_ ?_).mono ?_; (simp [*]); (simp [*]); (simp [*]); (simp [*]); rintro e w8 ⟨rfl, m0, m1, m2, m3, bw8⟩))
  clear k0 k1 k2 k3 m0 m1 m2 m3 HA HX oy
  clear pag0 pag1 pxg0 pxg1
  have cw7 : Below w6.heap.size w6 w7 := (Below.refl _ _).drew.trans bw7
  clear bw7
  have e6 := btrans e5 cw7
  have z6 := Lib.hid cw7.size
  replace g0 := g0.below cw7 g0.lt
  replace gxg := gxg.below cw7 gxg.lt
  replace oxg_ := oxg_.below cw7
  clear cw7 e5
  have e7 := btrans e6 bw8
  have z7 := Lib.hid bw8.size
  replace g0 := g0.below bw8 g0.lt
  replace gxg := gxg.below bw8 gxg.lt
  replace oxg_ := oxg_.below bw8
  clear bw8 e6
  go_wp2_with fail
  go_ret
  exact ⟨rfl, e7⟩

set_option maxHeartbeats 1000000 in
set_option maxRecDepth 100000 in
theorem walk (s0 : Int) (u0 : Value) (l0 : List Ed) (x1 : Bool) (w : World) (hE : Env w) (w0 : IsGr w s0 u0 l0) :
    Calls Tryd.prog 8 #[.agg #[.int .i64 s0, u0], .bool x1] w fun e w' => e = .returned (.bool true) ∧ Below w.heap.size w w' := by
  obtain ⟨h0, hm0, hs0, ht0⟩ := w0
  obtain ⟨A0, c0, rfl, -⟩ := h0.form
  unfold maxLen at hm0
  have b0_0 : Below w.heap.size w (w.alloc (.cells #[.int .i64 s0, .slice A0 l0.length c0] 24)) := (Below.refl _ _).alloc (Nat.le_refl _) _
  have e0_0 : Below w.heap.size w (w.alloc (.cells #[.int .i64 s0, .slice A0 l0.length c0] 24)) := b0_0
  have g0 := Blk.new w 24 #[.int .i64 s0, .slice A0 l0.length c0]
  by_cases hl0 : l0.length ≤ 1048576
  rotate_left
  · have hlt : (1048576 : Int) < (l0.length : Int) := by omega
    have HZ := Lib.hid (szGraph_no s0 (.slice A0 l0.length c0) l0 1048576 _ (h0.below e0_0) hlt (by omega) (by omega))
    clear h0
    obtain ⟨p0, p1, -, -⟩ := g0.two
    go_enter Tryd.func8, Tryd.ntmps8
    go_wp2_with fail
    refine HZ.out.mono ?_
    rintro e w1 ⟨rfl, b1⟩
    go_wp2_with fail
    go_ret
    exact ⟨rfl, btrans e0_0 b1⟩
  exact core s0 A0 c0 l0 x1 w h0 hl0 (Lib.hid (fun B0 d0 W k0 => specEn_any s0 x1 _ l0 W k0 hl0 hs0 ht0)) (Lib.hid hE) (Lib.hid (fun B0 d0 W k0 hv => implEn_any s0 x1 _ l0 W hv k0 hl0))

theorem own : ownKnob Tryd.prog.godebug = none := by kernel_rfl
theorem laidOut : laidOutB Tryd.prog = true := by kernel_rfl

theorem door_met (os : Os) : laidMet Tryd.prog Rows.fnExactEternalNumberRow.laid ((World.doorLaid Tryd.prog 400 os).forCall (fun _ _ => 0) ⟨#[], #[.agg #[.int .i64 0, .slice none 0 0], .bool false], []⟩).memory :=
  laidMet_of_run' 8 (by kernel_rfl) (by kernel_rfl)
theorem reads (os : Os) {H : Type} (enc : TypeId × Value → H) : ∃ places, DataW.whole enc Tryd.prog ((World.doorLaid Tryd.prog 400 os).forCall (fun _ _ => 0) ⟨#[], #[.agg #[.int .i64 0, .slice none 0 0], .bool false], []⟩).memory Tryd.f8.params.toList Rows.fnExactEternalNumberSpec.vars false (#[.agg #[.int .i64 0, .slice none 0 0], .bool false] : Array Value).toList 8 = some ([.agg [.lit (.int .i64 0), .nil], .lit (.bool false)], [], places) :=
  ⟨[], by kernel_rfl⟩

set_option maxRecDepth 100000 in
theorem lifted (os : Os) (started : os.Started) (H : Type) (enc : TypeId × Value → H) (F : Stop.Interp) :
    ReturnsInHanded {} Tryd.checked os 8 .any ((OpenSpec.ofChange Rows.fnExactEternalNumberSpec).preRow enc Tryd.prog Tryd.f8 Rows.fnExactEternalNumberRow.domain false Rows.fnExactEternalNumberRow.laid) (((OpenSpec.ofChange Rows.fnExactEternalNumberSpec).at F).post enc Tryd.prog Tryd.f8 false true false false) := by
  obtain ⟨places, hx⟩ := reads os enc
  refine returnsInHanded_of_row (C := Tryd.checked) (s := OpenSpec.ofChange Rows.fnExactEternalNumberSpec) own started (by kernel_rfl) Tryd.func8
    (witness_row_atRef (enc := enc) (C := Tryd.checked) false (World.doorLaid Tryd.prog 400 os) #[.agg #[.int .i64 0, .slice none 0 0], .bool false] rfl (by kernel_rfl) (by kernel_rfl) (by kernel_rfl)
      (OpenSpec.preRow_of_cond 8 hx (by kernel_rfl) (fun k hk => by cases hk) (by kernel_rfl) (door_met os))) ?_
  intro W base args ds gs before hval0 hW _ _ _ hL hsh _
  have hval : ∀ (j : Nat) t v, Tryd.f8.params[j]? = some t → args[j]? = some v → Value.okWide Tryd.prog W .any base t v := hval0
  have hW' := hW
  obtain ⟨p, q, hA0, hV, rfl, hfz, hnd⟩ := hW
  have hA : DataW.TrodAll enc Tryd.prog W 0 (fun _ => true) true Tryd.f8.params.toList args.toList ds p := hA0
  rw [Tryd.params8] at hA hval
  obtain ⟨v0, vs0, d0, ds0, p0, q0, hargs, rfl, rfl, h0, r0⟩ := trodAll_cons hA
  obtain ⟨v1, vs1, d1, ds1, p1, q1, rfl, rfl, rfl, h1, r1⟩ := trodAll_cons r0
  obtain ⟨rfl, rfl, rfl⟩ := trodAll_nil r1
  obtain rfl : args = #[v0, v1] := by cases args; simp_all
  obtain ⟨rfl, rfl⟩ := trodVars_none hV
  have k0 := h0
  have lt0 : ∀ x ∈ p0, x.block < W.heap.size := by obtain ⟨m, hm⟩ := k0; exact DataW.trod_lt m _ _ _ hm
  obtain ⟨s0, u0, l0, rfl, w0⟩ := opens.open_graph (hval 0 24 v0 rfl rfl) h0
  obtain ⟨a1, rfl, rfl, rfl⟩ := open_bool Tryd.underlying4 (hval 1 4 v1 rfl rfl) h1
  clear hA0 hval0
  refine (walk s0 u0 l0 a1 W (env_of hL) w0).mono fun e W' ⟨he, bel⟩ => ?_
  subst he
  exact ⟨_, rfl, _, _, _, [], _, [], hW', trodAll_mk1 (shut_bool Tryd.underlying4 _), (trodAll_cons_mk (Below.trod laidOut (by kernel_rfl) (of_decide_eq_true (by kernel_rfl)) k0 bel lt0) (trodAll_cons_mk (shut_bool Tryd.underlying4 _) trodAll_mk0)), rfl, bel.frame _, fun h => by cases h⟩

theorem said : Rows.FnExactEternalNumberSaid :=
  OpenClaim.holds_of_cond 8 Tryd.f8 rfl rfl rfl rfl rfl rfl rfl ⟨rfl, rfl, rfl, rfl, rfl⟩ rfl rfl rfl rfl rfl (by kernel_rfl) Tryd.func8 (by kernel_rfl)
    (of_decide_eq_true (by kernel_rfl)) (by unfold Func.isWrapper; first | (rw [if_pos (by decide +kernel)]; kernel_rfl) | (rw [if_neg (by decide +kernel)]; exact ⟨rfl, rfl⟩))
    (fun os started H enc _ F => by rw [OpenClaim.pre_eq_preRow]; exact lifted os started H enc F)

theorem plain (f : FuncId) (fn : Func) (hf : Tryd.pinned.checked.prog.funcNamed Rows.fnExactEternalNumberRow.func = some f) (hfn : Tryd.pinned.checked.prog.funcs[f]? = some fn) :
    false = Tryd.pinned.checked.prog.looks [] ∧ ∀ (j : Nat) t, fn.params[j]? = some t → Tryd.pinned.checked.prog.wantsStandIn t = false := by
  obtain rfl : f = 8 := Option.some.inj ((show Tryd.prog.funcNamed Rows.fnExactEternalNumberRow.func = some 8 by kernel_rfl).symm.trans hf) |>.symm
  obtain rfl : fn = Tryd.f8 := (Option.some.inj (Tryd.func8.symm.trans hfn)).symm
  refine ⟨by kernel_rfl, fun j t ht => ?_⟩
  rw [Tryd.params8] at ht
  have hm := Array.mem_of_getElem? ht
  have hall : ∀ t ∈ (#[24, 4] : Array TypeId), Tryd.prog.wantsStandIn t = false := by
    intro t ht
    simp at ht
    rcases ht with rfl | rfl
    all_goals kernel_rfl
  exact hall t hm

theorem fnExactEternalNumber_card : Rows.FnExactEternalNumberCardSaid :=
  Claim7.holds_tied_plain_at .later [] _ _ _ _ said (fun _ h => by cases h) (by kernel_rfl) (fun _ h => by cases h) fnExactEternalNumber_row_tie rfl ⟨rfl, rfl⟩ (by kernel_rfl) rfl plain (by kernel_rfl)
end Go.Proofs.YthpodbhiopnnbaaDoor.exEn
