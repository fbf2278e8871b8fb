/- JoinStrings of the program answers as the model's for every slice of texts and every string, and changes nothing. No condition. -/
import Derived.Test.YtgbnpdgehknfpaaRows
import Derived.Test.YtgbnpdgehknfpaaJoinRun
import Derived.Test.YtgbnpdgehknfpaaJoinImpl
import Derived.Test.YtgbnpdgehknfpaaSizes
import Derived.WalkKit
import Derived.ProofKit
import Derived.OpenShut
import Derived.ShutString
import Derived.ChangeOld
import Derived.Carry
import Derived.Below
import Derived.WalkLawsBesides
namespace Go.Proofs.Ytgbnpdgehknfpaa.exJoin
open Go.ChangeShapes Go.WideShapes Go.ChangeAt Go.RowKit P1 P4 marks split sizes join joinimpl
open Go.ChangeMaps (open_string shut_string)
set_option linter.unusedVariables false

theorem Holds.txt {w0 w : World} {v : Value} {l : List ByteArray} (h : Holds w0 w v l) : Txt w v l := by
  obtain ⟨B, _, hr⟩ := h
  exact Txt.of_own hr

theorem specJoin_no (v : Value) (l : List ByteArray) (s : ByteArray) (w : World) (h : Txt w v l) (hl : l.length ≤ 1048576) (hs : s.size ≤ 1048576) (hn : l.length = 0 ∨ s.size ≠ 1) :
    Calls Try.prog 13 #[v, .string s] w fun e w' => e = .returned (.tuple #[.string ⟨[].toArray⟩, .bool false]) ∧ Below w.heap.size w w' := by
  obtain ⟨A, c, rfl, -⟩ := h
  by_cases h0 : l.length = 0
  · rw [h0]
    by_cases h1 : s.size = 1
    · have d1 : ((s.size : Int) == 1) = true := by rw [beq_iff_eq]; omega
      have d2 : ((s.size : Int) != 1) = false := by simp; omega
      go_enter Try.func13, Try.ntmps13
      go_wp2_with fail
      go_ret2
      exact ⟨rfl, Below.refl _ _⟩
    · have d1 : ((s.size : Int) == 1) = false := by rw [beq_eq_false_iff_ne]; omega
      have d2 : ((s.size : Int) != 1) = true := by simp; omega
      go_enter Try.func13, Try.ntmps13
      go_wp2_with fail
      go_ret2
      exact ⟨rfl, Below.refl _ _⟩
  · have hl1 : ((l.length : Int) == 0) = false := by rw [beq_eq_false_iff_ne]; omega
    have d1 : ((s.size : Int) == 1) = false := by rw [beq_eq_false_iff_ne]; omega
    have d2 : ((s.size : Int) != 1) = true := by simp; omega
    go_enter Try.func13, Try.ntmps13
    go_wp2_with fail
    go_ret2
    exact ⟨rfl, Below.refl _ _⟩

theorem implJoin_no (v : Value) (l : List ByteArray) (s : ByteArray) (w : World) (h : Txt w v l) (hl : l.length ≤ 1048576) (hs : s.size ≤ 1048576) (hn : l.length = 0 ∨ s.size ≠ 1) :
    Calls Try.prog 12 #[v, .string s] w fun e w' => e = .returned (.tuple #[.string ⟨[].toArray⟩, .bool false]) ∧ Below w.heap.size w w' := by
  obtain ⟨A, c, rfl, -⟩ := h
  by_cases h0 : l.length = 0
  · rw [h0]
    by_cases h1 : s.size = 1
    · have d1 : ((s.size : Int) == 1) = true := by rw [beq_iff_eq]; omega
      have d2 : ((s.size : Int) != 1) = false := by simp; omega
      go_enter Try.func12, Try.ntmps12
      go_wp2_with fail
      go_step3
      go_wp2_with fail
      try rw [Exit.noGoto_ret]
      go_ret2
      exact ⟨rfl, Below.refl _ _⟩
    · have d1 : ((s.size : Int) == 1) = false := by rw [beq_eq_false_iff_ne]; omega
      have d2 : ((s.size : Int) != 1) = true := by simp; omega
      go_enter Try.func12, Try.ntmps12
      go_wp2_with fail
      go_step3
      go_wp2_with fail
      try rw [Exit.noGoto_ret]
      go_ret2
      exact ⟨rfl, Below.refl _ _⟩
  · have hl1 : ((l.length : Int) == 0) = false := by rw [beq_eq_false_iff_ne]; omega
    have d1 : ((s.size : Int) == 1) = false := by rw [beq_eq_false_iff_ne]; omega
    have d2 : ((s.size : Int) != 1) = true := by simp; omega
    go_enter Try.func12, Try.ntmps12
    go_wp2_with fail
    go_step3
    go_wp2_with fail
    try rw [Exit.noGoto_ret]
    go_ret2
    exact ⟨rfl, Below.refl _ _⟩

/-- the law behind its first tests, by what both functions give -/
theorem core (v : Value) (l : List ByteArray) (s r : ByteArray) (b : Bool) (w : World) (h : Txt w v l) (hl : l.length ≤ 1048576) (hm : ∀ x ∈ l, x.size ≤ maxLen) (ht : l.length + total l ≤ 1048576) (hs : s.size ≤ 1048576)
    (HS : Hid (∀ (v : Value) (W : World), Txt W v l → Calls Try.prog 13 #[v, .string s] W fun e W' => e = .returned (.tuple #[.string r, .bool b]) ∧ Below W.heap.size W W'))
    (HI : Hid (∀ (v : Value) (W : World), Txt W v l → Calls Try.prog 12 #[v, .string s] W fun e W' => e = .returned (.tuple #[.string r, .bool b]) ∧ Below W.heap.size W W')) :
    Calls Try.prog 5 #[v, .string s] w fun e w' => e = .returned (.bool true) ∧ Below w.heap.size w w' := by
  have hself := str_eq_self r
  have hz := szStringS_any v l w h (by unfold maxLen; omega) hm
  rw [szR_yes ht] at hz
  generalize hgz : ((1048576 - l.length - total l : Nat) : Int) = z at hz
  have hz0 : 0 ≤ z := by omega
  have HZ := Lib.hid hz
  clear hz hgz hm ht
  go_enter Try.func5, Try.ntmps5
  go_wp2_with fail
  refine HZ.out.mono ?_
  rintro e w1 ⟨rfl, b1⟩
  have t1 := h.below b1
  go_wp2_with fail
  refine (toStringS_any v l _ t1 hl).mono ?_
  rintro e w2 ⟨v2, rfl, h2, b2⟩
  have t2 := t1.below b2
  go_wp2_with fail
  refine (HS.out v2 _ (Holds.txt h2)).mono ?_
  rintro e w3 ⟨rfl, b3⟩
  have t3 := t2.below b3
  go_wp2_with fail
  refine (toStringS_any v l _ t3 hl).mono ?_
  rintro e w4 ⟨v4, rfl, h4, b4⟩
  have t4 := t3.below b4
  go_wp2_with fail
  refine (HI.out v4 _ (Holds.txt h4)).mono ?_
  rintro e w5 ⟨rfl, b5⟩
  have t5 := t4.below b5
  have s5 := (Holds.txt h4).below b5
  go_wp2_with fail
  refine (toStringS_any v l _ t5 hl).mono ?_
  rintro e w6 ⟨v6, rfl, h6, b6⟩
  go_wp2_with fail
  refine (eqStringS_yes v4 v6 l _ (s5.below b6) (Holds.txt h6) (by omega)).mono ?_
  rintro e w7 ⟨rfl, m7, rfl⟩
  go_wp2_with fail
  go_ret
  have c2 : Below w.heap.size w w2 := b1.trans (b2.mono b1.size)
  have c3 := c2.trans (b3.mono c2.size)
  have c4 := c3.trans (b4.mono c3.size)
  have c5 := c4.trans (b5.mono c4.size)
  have c6 := c5.trans (b6.mono c5.size)
  exact ⟨rfl, below_drewN c6 m7⟩

theorem walk (a : Option Addr) (len cap : Nat) (z : List ByteArray) (s : ByteArray) (w : World) (w0 : IsRowS w a len cap z) (hs : s.size ≤ maxLen) :
    Calls Try.prog 5 #[.slice a len cap, .string s] w fun e w' => e = .returned (.bool true) ∧ Below w.heap.size w w' := by
  obtain ⟨l, hx, -, hl, hm⟩ := rowS_txt w0
  generalize Value.slice a len cap = v at *
  clear w0
  by_cases hbig : 1048576 < s.size
  · unfold maxLen at hs
    clear hm
    go_enter Try.func5, Try.ntmps5
    go_wp2_with fail
    go_ret
    exact ⟨rfl, Below.refl _ _⟩
  have hs1 : s.size ≤ 1048576 := by omega
  by_cases ht : l.length + total l ≤ 1048576
  · by_cases hn : l.length = 0 ∨ s.size ≠ 1
    · exact core v l s ⟨[].toArray⟩ false w hx (by omega) hm ht hs1 (fun v W h => specJoin_no v l s W h (by omega) hs1 hn) (fun v W h => implJoin_no v l s W h (by omega) hs1 hn)
    · obtain ⟨c, hc⟩ : ∃ c, s.data.toList = [c] := by
        have hl : s.data.toList.length = 1 := by
          have : s.size = 1 := by omega
          rw [← this]; exact Array.length_toList
        exact List.length_eq_one_iff.1 hl
      exact core v l s ⟨(outJoin l c).toArray⟩ (okJoin l c) w hx (by omega) hm ht hs1 (fun v W h => specJoin_any v l s c W h hc (by omega) (by omega) (by omega)) (fun v W h => implJoin_any v l s c W h hc (by omega) (by omega) (by omega))
  · have hz := szStringS_any v l w hx hl hm
    rw [szR_no ht] at hz
    have HZ := Lib.hid hz
    clear hz hm ht hx hl
    go_enter Try.func5, Try.ntmps5
    go_wp2_with fail
    refine HZ.out.mono ?_
    rintro e w1 ⟨rfl, b1⟩
    go_wp2_with fail
    go_ret
    exact ⟨rfl, b1⟩

theorem own : ownKnob Try.prog.godebug = none := by kernel_rfl
theorem laidOut : laidOutB Try.prog = true := by kernel_rfl

set_option maxRecDepth 100000 in
theorem lifted (os : Os) (started : os.Started) (H : Type) (enc : TypeId × Value → H) :
    ReturnsInHanded {} Try.checked os 5 .any (Rows.fnExactJoinStringsSpec.pre6 enc Try.prog Try.f5 Rows.fnExactJoinStringsRow.domain false) (Rows.fnExactJoinStringsSpec.post enc Try.prog Try.f5 false true false false) := by
  refine returnsInHanded_of_change (C := Try.checked) own started (by kernel_rfl) Try.func5
    (ChangeSpec.witness6 (enc := enc) (C := Try.checked) false ⟨#[], #[.slice none 0 0, .string ⟨#[]⟩], []⟩ 8 (by kernel_rfl) (by kernel_rfl) (by kernel_rfl) (by kernel_rfl)) ?_
  intro W base args ds gs before hval0 hW hcnd _
  have hval : ∀ (j : Nat) t v, Try.f5.params[j]? = some t → args[j]? = some v → Value.okWide Try.prog W .any base t v := hval0
  have hW' := hW
  obtain ⟨p, q, hA0, hV, rfl, hfz, hnd⟩ := hW
  have hA : DataW.TrodAll enc Try.prog W 0 (fun _ => true) true Try.f5.params.toList args.toList ds p := hA0
  rw [Try.params5] at hA hval
  obtain ⟨v0, vs0, d0, ds0, p0, q0, hargs, rfl, rfl, h0, r0⟩ := trodAll_cons hA
  obtain ⟨v1, vs1, d1, ds1, p1, q1, rfl, rfl, rfl, h1, r1⟩ := trodAll_cons r0
  obtain ⟨rfl, rfl, rfl⟩ := trodAll_nil r1
  obtain rfl : args = #[v0, v1] := by cases args; simp_all
  obtain ⟨rfl, rfl⟩ := trodVars_none hV
  obtain ⟨a0, len0, cap0, rfl⟩ := okWide_slice Try.underlying26 (hval 0 26 v0 rfl rfl)
  have k0 := h0
  have lt0 : ∀ x ∈ p0, x.block < W.heap.size := by obtain ⟨m, hm⟩ := k0; exact DataW.trod_lt m _ _ _ hm
  obtain ⟨z0, w0⟩ : ∃ zs, P1.IsRowS W a0 len0 cap0 zs := by
    obtain ⟨fuel, hf⟩ := h0
    rcases open_strings Try.underlying26 Try.underlying9 (by kernel_rfl) hf with ⟨hcs, _⟩ | ⟨x, l, c, zs, hcs, _, hl, hm, hz, _, hcell, hwz⟩
    · simp [Value.cells] at hcs
      obtain ⟨rfl, rfl, rfl⟩ := hcs
      exact ⟨[], .inl ⟨rfl, rfl, rfl, rfl⟩⟩
    · simp [Value.cells] at hcs
      obtain ⟨rfl, rfl, rfl⟩ := hcs
      exact ⟨zs, .inr ⟨_, rfl, hl, hm, by simpa using hz, hcell, hwz⟩⟩
  obtain ⟨a1, rfl, rfl, rfl, w1⟩ := open_string Try.underlying9 (hval 1 9 v1 rfl rfl) h1
  clear hA0 hval0
  refine (walk a0 len0 cap0 z0 a1 W w0 w1).mono fun e W' ⟨he, bel⟩ => ?_
  subst he
  exact ⟨_, rfl, _, _, _, [], _, [], hW', trodAll_mk1 (shut_bool Try.underlying4 _), (trodAll_cons_mk (Below.trod laidOut (by kernel_rfl) (of_decide_eq_true (by kernel_rfl)) k0 bel lt0) (trodAll_cons_mk (shut_string Try.underlying9 w1) trodAll_mk0)), rfl, bel.frame _, fun h => by cases h⟩

theorem over : Rows.fnExactJoinStringsRow.holds Try.pinned (OpenSpec.ofChange Rows.fnExactJoinStringsSpec) :=
  OpenClaim.holds_of_wide 5 Try.f5 rfl rfl rfl rfl rfl rfl rfl ⟨rfl, rfl, rfl, rfl, rfl⟩ rfl rfl rfl rfl rfl (by kernel_rfl) Try.func5 (by kernel_rfl)
    (of_decide_eq_true (by kernel_rfl)) (by unfold Func.isWrapper; first | (rw [if_pos (by decide +kernel)]; kernel_rfl) | (rw [if_neg (by decide +kernel)]; exact ⟨rfl, rfl⟩))
    (fun os started H enc _ => lifted os started H enc)

theorem fnExactJoinStrings_holds : Rows.FnExactJoinStringsSaid := over
end Go.Proofs.Ytgbnpdgehknfpaa.exJoin
