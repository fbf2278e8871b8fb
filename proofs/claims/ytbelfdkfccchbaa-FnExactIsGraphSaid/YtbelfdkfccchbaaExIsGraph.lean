/- FnExactIsGraph returns true for every Graph: the program's IsGraph and the model's report the same, and nothing that was there is written. No conditions. -/
import Derived.Test.YtbelfdkfccchbaaGoodS
import Derived.Test.YtbelfdkfccchbaaOpen
import Derived.Test.YtbelfdkfccchbaaRows
import Derived.ProofKit
import Derived.OpenShut
import Derived.ChangeOld
import Derived.Carry
namespace Go.Proofs.Ytbelfdkfccchbaa.exIsGraph
open Go.ChangeShapes Go.WideShapes Go.ChangeAt Go.RowKit P2 words edges good opens
set_option linter.unusedVariables false

theorem specIsGraph_any (s : Int) (v : Value) (l : List Ed) (w : World) (h : IsGr w s v l) (hl : l.length ≤ 1048576) :
    Calls Try.prog 28 #[.agg #[.int .i64 s, v]] w fun e w' => e = .returned (.bool (goodB s l)) ∧ Below w.heap.size w w' := by
  have hB := (Below.refl w.heap.size w).alloc (Nat.le_refl _) (.cells #[.int .i64 s, v] 26)
  have HG := Lib.hid (l2Good_any s v l _ (h.1.below hB) hl h.2.2.1 h.2.2.2)
  obtain ⟨A, c, rfl, -⟩ := h.1.form
  clear hB h
  go_enter Try.func28, Try.ntmps28
  go_wp2_with (go_at_call 72; refine HG.out.mono ?_; rintro e w1 ⟨rfl, b1⟩)
  go_ret
  exact ⟨rfl, ((Below.refl w.heap.size w).alloc (Nat.le_refl _) _).trans (b1.mono (by simp))⟩

theorem walk (s : Int) (v : Value) (l : List Ed) (w : World) (h : IsGr w s v l) :
    Calls Try.prog 4 #[.agg #[.int .i64 s, v]] w fun e w' => e = .returned (.bool true) ∧ Below w.heap.size w w' := by
  obtain ⟨he, hm, hs1, hs2⟩ := h
  have x0 := Blk.new w 39 #[.int .i64 s, v]
  have b0 := (Below.refl w.heap.size w).alloc (Nat.le_refl _) (.cells #[.int .i64 s, v] 39)
  have h0 := he.below b0
  obtain ⟨A, c, rfl, -⟩ := he.form
  by_cases hl : l.length ≤ 1048576
  · have HZ := Lib.hid (szGraph_any s _ l _ h0 hm)
    rw [if_pos hl] at HZ
    have hl2 : (l.length : Int) ≤ 1048576 := by omega
    clear he
    go_enter Try.func4, Try.ntmps4
    go_wp2_with fail
    refine HZ.out.mono ?_
    rintro e w1 ⟨rfl, b1⟩
    have h1 := h0.below b1
    have x1 := x0.below b1 x0.lt
    clear x0 h0 HZ
    obtain ⟨p0, p1, -, -⟩ := x1.two
    go_wp2_with fail
    refine (toGraph_any s _ l _ h1 hl).mono ?_
    rintro e w2 ⟨A2, c2, rfl, o2, b2⟩
    have h2 := h1.below b2
    have x2 := x1.below b2 x1.lt
    clear x1 h1 p0 p1
    obtain ⟨p0, p1, -, -⟩ := x2.two
    go_wp2_with fail
    refine (specIsGraph_any s _ l _ ⟨Reads.of_own o2, hm, hs1, hs2⟩ hl).mono ?_
    rintro e w3 ⟨rfl, b3⟩
    have h3 := h2.below b3
    have x3 := x2.below b3 x2.lt
    clear x2 h2 p0 p1
    obtain ⟨p0, p1, -, -⟩ := x3.two
    go_wp2_with fail
    refine (toGraph_any s _ l _ h3 hl).mono ?_
    rintro e w4 ⟨A4, c4, rfl, o4, b4⟩
    have h4 := h3.below b4
    have x4 := x3.below b4 x3.lt
    clear x3 h3 p0 p1
    have y4 := Blk.new w4 26 #[.int .i64 s, .slice A4 l.length c4]
    have z4 := (Below.refl w4.heap.size w4).alloc (Nat.le_refl _) (.cells #[.int .i64 s, .slice A4 l.length c4] 26)
    have g4 := (Reads.of_own o4).below z4
    have h4' := h4.below z4
    have x4' := x4.below z4 x4.lt
    go_wp2_with fail
    refine (implIsGraph_any s _ l _ g4 hl).mono ?_
    rintro e w5 ⟨rfl, b5⟩
    have h5 := h4'.below b5
    have g5 := g4.below b5
    have x5 := x4'.below b5 x4'.lt
    have y5 := y4.below b5 y4.lt
    clear h4 x4 y4 z4 g4 h4' x4'
    obtain ⟨p0, p1, -, -⟩ := x5.two
    obtain ⟨q0, q1, -, -⟩ := y5.two
    have hself : (goodB s l != goodB s l) = false := by simp
    have X5 := Lib.hid x5
    have Y5 := Lib.hid y5
    have H5 := Lib.hid h5
    have G5 := Lib.hid g5
    clear x5 y5 h5 g5
    go_wp2_with fail
    go_region_held3 (fun w' => w'.cell? ⟨w.heap.size, 0, none⟩ = some (.int .i64 s) ∧ w'.cell? ⟨w.heap.size, 1, none⟩ = some (.slice A l.length c) ∧ w'.cell? ⟨w4.heap.size, 0, none⟩ = some (.int .i64 s) ∧ w'.cell? ⟨w4.heap.size, 1, none⟩ = some (.slice A4 l.length c4)) (go_keep)
      (first | (go_at_call 29; refine (toGraph_k s (.slice A l.length c) l w5.drew H5.out hl (p := ⟨w.heap.size, 0, none⟩) (q := ⟨w.heap.size, 1, none⟩) (r := ⟨w4.heap.size, 0, none⟩) (t := ⟨w4.heap.size, 1, none⟩) (a := .int .i64 s) (b := .slice A l.length c) (c := .int .i64 s) (d := .slice A4 l.length c4) ?_ ?_ ?_ ?_).mono ?_; (simp [*]); (simp [*]); (simp [*]); (simp [*]); rintro e w6 ⟨⟨A6, c6, rfl, o6⟩, k0, k1, k2, k3, b6⟩)
             | (go_at_call 31; refine (eqGraph_k s _ _ l _ (Reads.below (w := w5.drew) G5.out b6) (Reads.of_own o6) hl (p := ⟨w.heap.size, 0, none⟩) (q := ⟨w.heap.size, 1, none⟩) (r := ⟨w4.heap.size, 0, none⟩) (t := ⟨w4.heap.size, 1, none⟩) (a := .int .i64 s) (b := .slice A l.length c) (c := .int .i64 s) (d := .slice A4 l.length c4) ?_ ?_ ?_ ?_).mono ?_; (simp [*]); (simp [*]); (simp [*]); (simp [*]); rintro e w7 ⟨rfl, m0, m1, m2, m3, b7⟩))
    go_wp2_with fail
    go_ret
    have e1 := btrans b0 b1
    have e2 := btrans e1 b2
    have e3 := btrans e2 b3
    have e4 := btrans e3 b4
    have e5 := btrans (e4.alloc e4.size _) b5
    have e6 := btrans e5.drew b6
    exact ⟨rfl, btrans e6 b7⟩
  · have HZ := Lib.hid (szGraph_any s _ l _ h0 hm)
    rw [if_neg hl] at HZ
    clear he
    go_enter Try.func4, Try.ntmps4
    go_wp2_with fail
    refine HZ.out.mono ?_
    rintro e w1 ⟨rfl, b1⟩
    go_wp2_with fail
    go_ret
    exact ⟨rfl, btrans b0 b1⟩

theorem own : ownKnob Try.prog.godebug = none := by kernel_rfl
theorem laidOut : laidOutB Try.prog = true := by kernel_rfl

set_option maxRecDepth 100000 in
theorem lifted (os : Os) (started : os.Started) (H : Type) (enc : TypeId × Value → H) :
    ReturnsInHanded {} Try.checked os 4 .any (Rows.fnExactIsGraphSpec.pre6 enc Try.prog Try.f4 Rows.fnExactIsGraphRow.domain false) (Rows.fnExactIsGraphSpec.post enc Try.prog Try.f4 false true false false) := by
  refine returnsInHanded_of_change (C := Try.checked) own started (by kernel_rfl) Try.func4
    (ChangeSpec.witness6 (enc := enc) (C := Try.checked) false ⟨#[], #[.agg #[.int .i64 0, .slice none 0 0]], []⟩ 8 (by kernel_rfl) (by kernel_rfl) (by kernel_rfl) (by kernel_rfl)) ?_
  intro W base args ds gs before hval0 hW hcnd _
  have hval : ∀ (j : Nat) t v, Try.f4.params[j]? = some t → args[j]? = some v → Value.okWide Try.prog W .any base t v := hval0
  have hW' := hW
  obtain ⟨p, q, hA0, hV, rfl, hfz, hnd⟩ := hW
  have hA : DataW.TrodAll enc Try.prog W 0 (fun _ => true) true Try.f4.params.toList args.toList ds p := hA0
  rw [Try.params4] at hA hval
  obtain ⟨v0, vs0, d0, ds0, p0, q0, hargs, rfl, rfl, h0, r0⟩ := trodAll_cons hA
  obtain ⟨rfl, rfl, rfl⟩ := trodAll_nil r0
  obtain rfl : args = #[v0] := by cases args; simp_all
  obtain ⟨rfl, rfl⟩ := trodVars_none hV
  have k0 := h0
  have lt0 : ∀ x ∈ p0, x.block < W.heap.size := by obtain ⟨m, hm⟩ := k0; exact DataW.trod_lt m _ _ _ hm
  obtain ⟨s0, u0, l0, rfl, w0⟩ := opens.open_graph (hval 0 39 v0 rfl rfl) h0
  clear hA0 hval0
  refine (walk s0 u0 l0 W w0).mono fun e W' ⟨he, bel⟩ => ?_
  subst he
  exact ⟨_, rfl, _, _, _, [], _, [], hW', trodAll_mk1 (shut_bool Try.underlying4 _), (trodAll_cons_mk (Below.trod laidOut (by kernel_rfl) (of_decide_eq_true (by kernel_rfl)) k0 bel lt0) trodAll_mk0), rfl, bel.frame _, fun h => by cases h⟩

theorem over : Rows.fnExactIsGraphRow.holds Try.pinned (OpenSpec.ofChange Rows.fnExactIsGraphSpec) :=
  OpenClaim.holds_of_wide 4 Try.f4 rfl rfl rfl rfl rfl rfl rfl ⟨rfl, rfl, rfl, rfl, rfl⟩ rfl rfl rfl rfl rfl (by kernel_rfl) Try.func4 (by kernel_rfl)
    (of_decide_eq_true (by kernel_rfl)) (by unfold Func.isWrapper; first | (rw [if_pos (by decide +kernel)]; kernel_rfl) | (rw [if_neg (by decide +kernel)]; exact ⟨rfl, rfl⟩))
    (fun os started H enc _ => lifted os started H enc)

theorem fnExactIsGraph_holds : Rows.FnExactIsGraphSaid := over
end Go.Proofs.Ytbelfdkfccchbaa.exIsGraph
