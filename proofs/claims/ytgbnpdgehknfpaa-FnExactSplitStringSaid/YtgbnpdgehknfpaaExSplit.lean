/- SplitString of the program answers as the model's for all two strings, changes nothing, and its answer owns its memory. No condition. -/
import Derived.Test.YtgbnpdgehknfpaaRows
import Derived.Test.YtgbnpdgehknfpaaSplitRun
import Derived.Test.YtgbnpdgehknfpaaMarks
import Derived.WalkKit
import Derived.ProofKit
import Derived.OpenShut
import Derived.ShutString
import Derived.ChangeOld
import Derived.Below
import Derived.WalkLawsBesides
import Derived.Lib.SmallJoins
namespace Go.Proofs.Ytgbnpdgehknfpaa.exSplit
open Go.ChangeShapes Go.WideShapes Go.ChangeAt Go.RowKit P1 P3 pieces split marks
open Go.ChangeMaps (open_string shut_string)
set_option linter.unusedVariables false

theorem Holds.txt {w0 w : World} {v : Value} {l : List ByteArray} (h : Holds w0 w v l) : Txt w v l := by
  obtain ⟨B, _, hr⟩ := h
  exact Txt.of_own hr
theorem drewN_below (w : World) (n : Nat) : Below w.heap.size w (w.drewN n) := below_drewN (Below.refl _ _) n

theorem own_below {w w' : World} {B n : Nat} {v : Value} {xs : List Value} (h : w.ownsRow B 9 1 v n xs) (hb : Below w.heap.size w w') : w'.ownsRow B 9 1 v n xs :=
  h.kept (gof hb none) (Classical.em _)

/-- the law behind its first tests, by what both functions give -/
theorem core (a s : ByteArray) (L : List ByteArray) (b : Bool) (w : World) (ha : a.size ≤ 1048576) (hs : s.size ≤ 1048576) (hL : L.length ≤ 4001)
    (HS : Hid (∀ W : World, Calls Try.prog 17 #[.string a, .string s] W fun e W' => ∃ v, e = .returned (.tuple #[v, .bool b]) ∧ Holds W W' v L ∧ Below W.heap.size W W'))
    (HI : Hid (∀ W : World, Calls Try.prog 10 #[.string a, .string s] W fun e W' => ∃ v, e = .returned (.tuple #[v, .bool b]) ∧ Holds W W' v L ∧ Below W.heap.size W W')) :
    Calls Try.prog 4 #[.string a, .string s] w fun e w' => e = .returned (.bool true) ∧ Below w.heap.size w w' := by
  go_enter Try.func4, Try.ntmps4
  go_wp2_with fail
  refine (HS.out _).mono ?_
  rintro e w1 ⟨v1, rfl, h1, b1⟩
  go_wp2_with fail
  refine (HI.out _).mono ?_
  rintro e w2 ⟨v2, rfl, h2, b2⟩
  have t1 := (Holds.txt h1).below b2
  have t2 := Holds.txt h2
  go_wp2_with fail
  refine (eqStringS_yes v2 v1 L _ t2 t1 (by omega)).mono ?_
  rintro e w3 ⟨rfl, m3, rfl⟩
  obtain ⟨B1, hB1, r1⟩ := h1
  obtain ⟨B2, hB2, r2⟩ := h2
  have r2' := own_below r2 (drewN_below w2 m3)
  have r1' := own_below (own_below r1 b2) (drewN_below w2 m3)
  have hne : v1.ownBlock = none ∨ v1.ownBlock ≠ v2.ownBlock := by
    cases e1 : v1.ownBlock with
    | none => exact .inl rfl
    | some k =>
      refine .inr fun e => ?_
      have k1 := (r1.lt k e1).2
      have k2 := (r2.lt k e.symm).1
      omega
  have hM : Calls Try.prog 19 #[v2, .int .i64 1] (w2.drewN m3) _ := markStringS_any v2 L B2 1 (w2.drewN m3) r2' (by omega) (by omega)
  have hlow : ∀ j, v2.ownBlock = some j → w.heap.size ≤ j := fun j e => by
    have := (r2.lt j e).1
    have := b1.size
    omega
  obtain ⟨z, hz⟩ : ∃ z : Int, z = ((1 + L.length : Nat) : Int) := ⟨_, rfl⟩
  have hz0 : 0 ≤ z := by omega
  rw [← hz] at hM
  have HM := Lib.hid hM
  have HZ := Lib.hid hz
  clear hM hz
  go_wp2_with fail
  refine HM.out.mono ?_
  rintro e w4 ⟨rfl, r4, g4⟩
  have r14 := r1'.kept g4 hne
  have t4 : Txt w4 v2 (marks 1 L.length) := Txt.of_own (by rw [marks_len]; exact r4)
  have hH : Calls Try.prog 20 #[v2, .int .i64 1] w4 _ := heldStringS_any v2 L.length 1 w4 t4 (by omega) (by omega)
  rw [← HZ.out] at hH
  have HH := Lib.hid hH
  clear hH
  go_wp2_with fail
  refine HH.out.mono ?_
  rintro e w5 ⟨rfl, b5⟩
  go_wp2_with fail
  refine (HI.out _).mono ?_
  rintro e w6 ⟨v3, rfl, h3, b6⟩
  have r16 := own_below (own_below r14 b5) b6
  have r46 := own_below (own_below r4 b5) b6
  go_wp2_with fail
  refine (eqStringS_yes v3 v1 L _ (Holds.txt h3) (Txt.of_own r16) (by omega)).mono ?_
  rintro e w7 ⟨rfl, m7, rfl⟩
  have t7 : Txt (w6.drewN m7) v2 (marks 1 L.length) := Txt.of_own (by rw [marks_len]; exact own_below r46 (drewN_below w6 m7))
  have hH7 : Calls Try.prog 20 #[v2, .int .i64 1] (w6.drewN m7) _ := heldStringS_any v2 L.length 1 (w6.drewN m7) t7 (by omega) (by omega)
  rw [← HZ.out] at hH7
  have HH7 := Lib.hid hH7
  clear hH7
  go_wp2_with fail
  refine HH7.out.mono ?_
  rintro e w8 ⟨rfl, b8⟩
  go_wp2_with fail
  go_ret
  have c2 : Below w.heap.size w w2 := b1.trans (b2.mono b1.size)
  have c4 : Below w.heap.size w w4 := (below_drewN c2 m3).grown g4 c2.size hlow
  have c6 : Below w.heap.size w w6 := (c4.trans (b5.mono c4.size)).trans (b6.mono (c4.trans (b5.mono c4.size)).size)
  exact ⟨rfl, (below_drewN c6 m7).trans (b8.mono c6.size)⟩

theorem walk (a s : ByteArray) (w : World) (ha : a.size ≤ maxLen) (hs : s.size ≤ maxLen) :
    Calls Try.prog 4 #[.string a, .string s] w fun e w' => e = .returned (.bool true) ∧ Below w.heap.size w w' := by
  by_cases hbig : 1048576 < a.size
  · unfold maxLen at ha
    go_enter Try.func4, Try.ntmps4
    go_wp2_with fail
    go_ret
    exact ⟨rfl, Below.refl _ _⟩
  by_cases hbig2 : 1048576 < s.size
  · unfold maxLen at hs
    have ha2 : a.size ≤ 1048576 := by omega
    go_enter Try.func4, Try.ntmps4
    go_wp2_with fail
    go_ret
    exact ⟨rfl, Below.refl _ _⟩
  by_cases h : a.size ≤ 4000 ∧ s.size = 1
  · obtain ⟨h4, h1⟩ := h
    obtain ⟨c, hc⟩ : ∃ c, s.data.toList = [c] := by
      have hl : s.data.toList.length = 1 := by rw [← h1]; exact Array.length_toList
      exact List.length_eq_one_iff.1 hl
    exact core a s (splitN a c) true w (by omega) (by omega) (by have := splitN_len a c; omega) (fun W => specSplit_yes a s c W h4 hc) (fun W => implSplit_yes a s c W h4 h1 hc)
  · have hn : 4000 < a.size ∨ s.size ≠ 1 := by omega
    exact core a s [] false w (by omega) (by omega) (by simp) (fun W => specSplit_no a s W ha hn)
      (fun W => (implSplit_no a s W ha hn).mono fun e w' ⟨he, hw⟩ => ⟨_, he, ⟨W.heap.size, Nat.le_refl _, World.ownsRow_nil _ _ _ _⟩, by rw [← hw]; exact Below.refl _ _⟩)

theorem own : ownKnob Try.prog.godebug = none := by kernel_rfl
theorem laidOut : laidOutB Try.prog = true := by kernel_rfl

set_option maxRecDepth 100000 in
theorem lifted (os : Os) (started : os.Started) (H : Type) (enc : TypeId × Value → H) :
    ReturnsInHanded {} Try.checked os 4 .any (Rows.fnExactSplitStringSpec.pre6 enc Try.prog Try.f4 Rows.fnExactSplitStringRow.domain false) (Rows.fnExactSplitStringSpec.post enc Try.prog Try.f4 false true false false) := by
  refine returnsInHanded_of_change (C := Try.checked) own started (by kernel_rfl) Try.func4
    (ChangeSpec.witness6 (enc := enc) (C := Try.checked) false ⟨#[], #[.string ⟨#[]⟩, .string ⟨#[]⟩], []⟩ 8 (by kernel_rfl) (by kernel_rfl) (by kernel_rfl) (by kernel_rfl)) ?_
  intro W base args ds gs before hval0 hW hcnd _
  have hval : ∀ (j : Nat) t v, Try.f4.params[j]? = some t → args[j]? = some v → Value.okWide Try.prog W .any base t v := hval0
  have hW' := hW
  obtain ⟨p, q, hA0, hV, rfl, hfz, hnd⟩ := hW
  have hA : DataW.TrodAll enc Try.prog W 0 (fun _ => true) true Try.f4.params.toList args.toList ds p := hA0
  rw [Try.params4] at hA hval
  obtain ⟨v0, vs0, d0, ds0, p0, q0, hargs, rfl, rfl, h0, r0⟩ := trodAll_cons hA
  obtain ⟨v1, vs1, d1, ds1, p1, q1, rfl, rfl, rfl, h1, r1⟩ := trodAll_cons r0
  obtain ⟨rfl, rfl, rfl⟩ := trodAll_nil r1
  obtain rfl : args = #[v0, v1] := by cases args; simp_all
  obtain ⟨rfl, rfl⟩ := trodVars_none hV
  obtain ⟨a0, rfl, rfl, rfl, w0⟩ := open_string Try.underlying9 (hval 0 9 v0 rfl rfl) h0
  obtain ⟨a1, rfl, rfl, rfl, w1⟩ := open_string Try.underlying9 (hval 1 9 v1 rfl rfl) h1
  clear hA0 hval0
  refine (walk a0 a1 W w0 w1).mono fun e W' ⟨he, bel⟩ => ?_
  subst he
  exact ⟨_, rfl, _, _, _, [], _, [], hW', trodAll_mk1 (shut_bool Try.underlying4 _), (trodAll_cons_mk (shut_string Try.underlying9 w0) (trodAll_cons_mk (shut_string Try.underlying9 w1) trodAll_mk0)), rfl, bel.frame _, fun h => by cases h⟩

theorem over : Rows.fnExactSplitStringRow.holds Try.pinned (OpenSpec.ofChange Rows.fnExactSplitStringSpec) :=
  OpenClaim.holds_of_wide 4 Try.f4 rfl rfl rfl rfl rfl rfl rfl ⟨rfl, rfl, rfl, rfl, rfl⟩ rfl rfl rfl rfl rfl (by kernel_rfl) Try.func4 (by kernel_rfl)
    (of_decide_eq_true (by kernel_rfl)) (by unfold Func.isWrapper; first | (rw [if_pos (by decide +kernel)]; kernel_rfl) | (rw [if_neg (by decide +kernel)]; exact ⟨rfl, rfl⟩))
    (fun os started H enc _ => lifted os started H enc)

theorem fnExactSplitString_holds : Rows.FnExactSplitStringSaid := over
end Go.Proofs.Ytgbnpdgehknfpaa.exSplit
