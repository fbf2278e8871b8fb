/- FnExactCycleGraph returns true for every number: the program's CycleGraph and the model's return the same, write into nothing that was there, and own what they return. No conditions. -/
import Derived.Test.YtbelfdkfccchbabCycle
import Derived.Test.YtbelfdkfccchbabOwn
import Derived.Test.YtbelfdkfccchbabOpen
import Derived.Test.YtbelfdkfccchbabRows
import Derived.ProofKit
import Derived.OpenShut
import Derived.ChangeOld
import Derived.Carry
namespace Go.Proofs.Ytbelfdkfccchbab.exCycle
open Go.ChangeShapes Go.WideShapes Go.ChangeAt Go.RowKit P2 words edges ints owns opens rets cycle
set_option linter.unusedVariables false

set_option maxHeartbeats 4000000 in
set_option maxRecDepth 100000 in
theorem core (x0 : Int) (w : World) 
    (HS : Hid (∀  (W : World), Calls Try.prog 30 #[.int .i64 x0] W fun e W' => ∃ Ar cr, e = .returned (.tuple #[.agg #[.int .i64 (szG (CycOk x0) x0), .slice Ar (edG (CycOk x0) (cycL x0)).length cr], .bool (okG (CycOk x0))]) ∧ W'.ownsRow W.heap.size 51 2 (.slice Ar (edG (CycOk x0) (cycL x0)).length cr) (edG (CycOk x0) (cycL x0)).length (cellsE (edG (CycOk x0) (cycL x0))) ∧ Below W.heap.size W W'))
    (HI : Hid (∀  (W : World), Calls Try.prog 31 #[.int .i64 x0] W fun e W' => ∃ Ar cr, e = .returned (.tuple #[.agg #[.int .i64 (szG (CycOk x0) x0), .slice Ar (edG (CycOk x0) (cycL x0)).length cr], .bool (okG (CycOk x0))]) ∧ W'.ownsRow W.heap.size 51 2 (.slice Ar (edG (CycOk x0) (cycL x0)).length cr) (edG (CycOk x0) (cycL x0)).length (cellsE (edG (CycOk x0) (cycL x0))) ∧ Below W.heap.size W W')) (hlen : (edG (CycOk x0) (cycL x0)).length ≤ 1048576) :
    Calls Try.prog 9 #[.int .i64 x0] w fun e w' => e = .returned (.bool true) ∧ Below w.heap.size w w' := by
  have e00 := Below.refl w.heap.size w
  have hself : ∀ b : Bool, (b != b) = false := fun b => by simp
  skip
  go_enter Try.func9, Try.ntmps9
  go_wp2_with fail
  refine (HS.out  w ).mono ?_
  rintro e w2 ⟨Aw, cw, rfl, ow, bw2⟩
  have e0 := btrans e00 bw2
  have z0 := Lib.hid bw2.size
  clear bw2
  have ow_ := OwnR.new ow
  clear ow
  have bxw : Below w2.heap.size w2 (w2.alloc (.cells #[.int .i64 (szG (CycOk x0) x0), .slice Aw (edG (CycOk x0) (cycL x0)).length cw] 26)) := (Below.refl _ _).alloc (Nat.le_refl _) _
  have gw := Blk.new w2 26 #[.int .i64 (szG (CycOk x0) x0), .slice Aw (edG (CycOk x0) (cycL x0)).length cw]
  have e1 := btrans e0 bxw
  have z1 := Lib.hid bxw.size
  replace ow_ := ow_.below bxw
  clear bxw e0
  have yw := Lib.hid gw.lt
  go_wp2_with fail
  refine (HI.out  (w2.alloc (.cells #[.int .i64 (szG (CycOk x0) x0), .slice Aw (edG (CycOk x0) (cycL x0)).length cw] 26)) ).mono ?_
  rintro e w3 ⟨Ag, cg, rfl, og, bw3⟩
  have e2 := btrans e1 bw3
  have z2 := Lib.hid bw3.size
  replace gw := gw.below bw3 gw.lt
  replace ow_ := ow_.below bw3
  clear bw3 e1
  have og_ := OwnR.new og
  clear og
  have bxg : Below w3.heap.size w3 (w3.alloc (.cells #[.int .i64 (szG (CycOk x0) x0), .slice Ag (edG (CycOk x0) (cycL x0)).length cg] 26)) := (Below.refl _ _).alloc (Nat.le_refl _) _
  have gg := Blk.new w3 26 #[.int .i64 (szG (CycOk x0) x0), .slice Ag (edG (CycOk x0) (cycL x0)).length cg]
  have e3 := btrans e2 bxg
  have z3 := Lib.hid bxg.size
  replace gw := gw.below bxg gw.lt
  replace ow_ := ow_.below bxg
  replace og_ := og_.below bxg
  clear bxg e2
  have yg := Lib.hid gg.lt
  obtain ⟨pg0, pg1, -, -⟩ := gg.two
  obtain ⟨pw0, pw1, -, -⟩ := gw.two
  go_wp2_with fail
  refine (eqGraph_yes (szG (CycOk x0) x0) _ _ (edG (CycOk x0) (cycL x0)) (w3.alloc (.cells #[.int .i64 (szG (CycOk x0) x0), .slice Ag (edG (CycOk x0) (cycL x0)).length cg] 26)) og_.reads ow_.reads hlen).mono ?_
  rintro e w4 ⟨rfl, bw4⟩
  clear pg0 pg1 pw0 pw1
  have e4 := btrans e3 bw4
  have z4 := Lib.hid bw4.size
  replace gw := gw.below bw4 gw.lt
  replace gg := gg.below bw4 gg.lt
  replace ow_ := ow_.below bw4
  replace og_ := og_.below bw4
  clear bw4 e3
  obtain ⟨pg0, pg1, -, -⟩ := gg.two
  go_wp2_with fail
  refine (markGraph_own (szG (CycOk x0) x0) _ (edG (CycOk x0) (cycL x0)) _ _ 1 w4 og_ (by omega)).mono ?_
  rintro e w5 ⟨rfl, om, tw5⟩
  clear pg0 pg1
  have uz0 := z0.out
  have uz1 := z1.out
  have uyw := yw.out
  have uz2 := z2.out
  have uz3 := z3.out
  have uyg := yg.out
  have uz4 := z4.out
  have e5 : Below w.heap.size w w5 := e4.trans (tw5.below (by omega) (by omega))
  have z5 := Lib.hid tw5.size
  replace gw := blk_turned gw tw5 (by omega)
  replace gg := blk_turned gg tw5 (by omega)
  replace ow_ := ow_.turned tw5 (by omega)
  clear uz0 uz1 uyw uz2 uz3 uyg uz4
  clear og_ tw5 e4
  have og_ := om
  clear om
  obtain ⟨pg0, pg1, -, -⟩ := gg.two
  go_wp2_with fail
  refine (heldGraph_own (szG (CycOk x0) x0) _ (edG (CycOk x0) (cycL x0)).length _ _ 1 w5 og_ (by omega)).mono ?_
  rintro e w6 ⟨rfl, bw6⟩
  clear pg0 pg1
  have e6 := btrans e5 bw6
  have z6 := Lib.hid bw6.size
  replace gw := gw.below bw6 gw.lt
  replace gg := gg.below bw6 gg.lt
  replace ow_ := ow_.below bw6
  replace og_ := og_.below bw6
  clear bw6 e5
  go_wp2_with fail
  refine (HI.out  w6 ).mono ?_
  rintro e w7 ⟨Ah, ch, rfl, oh, bw7⟩
  have e7 := btrans e6 bw7
  have z7 := Lib.hid bw7.size
  replace gw := gw.below bw7 gw.lt
  replace gg := gg.below bw7 gg.lt
  replace ow_ := ow_.below bw7
  replace og_ := og_.below bw7
  clear bw7 e6
  have oh_ := OwnR.new oh
  clear oh
  have bxh : Below w7.heap.size w7 (w7.alloc (.cells #[.int .i64 (szG (CycOk x0) x0), .slice Ah (edG (CycOk x0) (cycL x0)).length ch] 26)) := (Below.refl _ _).alloc (Nat.le_refl _) _
  have gh := Blk.new w7 26 #[.int .i64 (szG (CycOk x0) x0), .slice Ah (edG (CycOk x0) (cycL x0)).length ch]
  have e8 := btrans e7 bxh
  have z8 := Lib.hid bxh.size
  replace gw := gw.below bxh gw.lt
  replace gg := gg.below bxh gg.lt
  replace ow_ := ow_.below bxh
  replace og_ := og_.below bxh
  replace oh_ := oh_.below bxh
  clear bxh e7
  have yh := Lib.hid gh.lt
  obtain ⟨ph0, ph1, -, -⟩ := gh.two
  obtain ⟨pw0, pw1, -, -⟩ := gw.two
  go_wp2_with fail
  refine (eqGraph_yes (szG (CycOk x0) x0) _ _ (edG (CycOk x0) (cycL x0)) (w7.alloc (.cells #[.int .i64 (szG (CycOk x0) x0), .slice Ah (edG (CycOk x0) (cycL x0)).length ch] 26)) oh_.reads ow_.reads hlen).mono ?_
  rintro e w8 ⟨rfl, bw8⟩
  clear ph0 ph1 pw0 pw1
  have e9 := btrans e8 bw8
  have z9 := Lib.hid bw8.size
  replace gw := gw.below bw8 gw.lt
  replace gg := gg.below bw8 gg.lt
  replace gh := gh.below bw8 gh.lt
  replace ow_ := ow_.below bw8
  replace og_ := og_.below bw8
  replace oh_ := oh_.below bw8
  clear bw8 e8
  obtain ⟨pg0, pg1, -, -⟩ := gg.two
  go_wp2_with fail
  refine (heldGraph_own (szG (CycOk x0) x0) _ (edG (CycOk x0) (cycL x0)).length _ _ 1 w8 og_ (by omega)).mono ?_
  rintro e w9 ⟨rfl, bw9⟩
  clear pg0 pg1
  have e10 := btrans e9 bw9
  have z10 := Lib.hid bw9.size
  replace gw := gw.below bw9 gw.lt
  replace gg := gg.below bw9 gg.lt
  replace gh := gh.below bw9 gh.lt
  replace ow_ := ow_.below bw9
  replace og_ := og_.below bw9
  replace oh_ := oh_.below bw9
  clear bw9 e9
  go_wp2_with fail
  go_ret
  exact ⟨rfl, e10⟩

set_option maxHeartbeats 1000000 in
set_option maxRecDepth 100000 in
theorem walk (x0 : Int) (w : World) (w0 : (Lit.int .i64 x0).wf = true) :
    Calls Try.prog 9 #[.int .i64 x0] w fun e w' => e = .returned (.bool true) ∧ Below w.heap.size w w' := by
  have hb0 := opens.bounds64 w0
  clear w0
  exact core x0 w  (Lib.hid (fun W => specCycle_any x0 W)) (Lib.hid (fun W => implCycle_any x0 W)) (cycL_len x0)

theorem own : ownKnob Try.prog.godebug = none := by kernel_rfl
theorem laidOut : laidOutB Try.prog = true := by kernel_rfl

set_option maxRecDepth 100000 in
theorem lifted (os : Os) (started : os.Started) (H : Type) (enc : TypeId × Value → H) :
    ReturnsInHanded {} Try.checked os 9 .any (Rows.fnExactCycleGraphSpec.pre6 enc Try.prog Try.f9 Rows.fnExactCycleGraphRow.domain false) (Rows.fnExactCycleGraphSpec.post enc Try.prog Try.f9 false true false false) := by
  refine returnsInHanded_of_change (C := Try.checked) own started (by kernel_rfl) Try.func9
    (ChangeSpec.witness6 (enc := enc) (C := Try.checked) false ⟨#[], #[.int .i64 0], []⟩ 8 (by kernel_rfl) (by kernel_rfl) (by kernel_rfl) (by kernel_rfl)) ?_
  intro W base args ds gs before hval0 hW hcnd _
  have hval : ∀ (j : Nat) t v, Try.f9.params[j]? = some t → args[j]? = some v → Value.okWide Try.prog W .any base t v := hval0
  have hW' := hW
  obtain ⟨p, q, hA0, hV, rfl, hfz, hnd⟩ := hW
  have hA : DataW.TrodAll enc Try.prog W 0 (fun _ => true) true Try.f9.params.toList args.toList ds p := hA0
  rw [Try.params9] at hA hval
  obtain ⟨v0, vs0, d0, ds0, p0, q0, hargs, rfl, rfl, h0, r0⟩ := trodAll_cons hA
  obtain ⟨rfl, rfl, rfl⟩ := trodAll_nil r0
  obtain rfl : args = #[v0] := by cases args; simp_all
  obtain ⟨rfl, rfl⟩ := trodVars_none hV
  obtain ⟨a0, rfl, rfl, rfl, w0⟩ := open_int Try.underlying3 (hval 0 3 v0 rfl rfl) h0
  clear hA0 hval0
  refine (walk a0 W w0).mono fun e W' ⟨he, bel⟩ => ?_
  subst he
  exact ⟨_, rfl, _, _, _, [], _, [], hW', trodAll_mk1 (shut_bool Try.underlying4 _), (trodAll_cons_mk (shut_int Try.underlying3 w0) trodAll_mk0), rfl, bel.frame _, fun h => by cases h⟩

theorem over : Rows.fnExactCycleGraphRow.holds Try.pinned (OpenSpec.ofChange Rows.fnExactCycleGraphSpec) :=
  OpenClaim.holds_of_wide 9 Try.f9 rfl rfl rfl rfl rfl rfl rfl ⟨rfl, rfl, rfl, rfl, rfl⟩ rfl rfl rfl rfl rfl (by kernel_rfl) Try.func9 (by kernel_rfl)
    (of_decide_eq_true (by kernel_rfl)) (by unfold Func.isWrapper; first | (rw [if_pos (by decide +kernel)]; kernel_rfl) | (rw [if_neg (by decide +kernel)]; exact ⟨rfl, rfl⟩))
    (fun os started H enc _ => lifted os started H enc)

theorem fnExactCycleGraph_holds : Rows.FnExactCycleGraphSaid := over
end Go.Proofs.Ytbelfdkfccchbab.exCycle
