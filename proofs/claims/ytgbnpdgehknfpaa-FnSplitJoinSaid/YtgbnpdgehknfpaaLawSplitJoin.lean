/- FnSplitJoin holds: SplitString and JoinStrings are inverse, LessString is a strict order. No condition. -/
import Derived.Test.YtgbnpdgehknfpaaRows
import Derived.Test.YtgbnpdgehknfpaaCodes
import Derived.Test.YtgbnpdgehknfpaaDrawText
import Derived.Test.YtgbnpdgehknfpaaLessRun
import Derived.Test.YtgbnpdgehknfpaaInverse
import Derived.Test.YtgbnpdgehknfpaaExJoin
import Derived.Test.YtgbnpdgehknfpaaSplitRun
import Derived.SliceStrings
namespace Go.Proofs.Ytgbnpdgehknfpaa.lawSplitJoin
open Go.ChangeShapes Go.WideShapes Go.ChangeAt Go.RowKit P1 P3 P4 P5 marks split sizes join joinimpl cursor codes drawtext lessrun
open Go.ChangeMaps (open_string shut_string)
set_option linter.unusedVariables false

theorem Holds.txt {w0 w : World} {v : Value} {l : List ByteArray} (h : Holds w0 w v l) : Txt w v l := by
  obtain ⟨B, _, hr⟩ := h
  exact Txt.of_own hr

theorem total_small (l : List ByteArray) (h : ∀ x ∈ l, x.size ≤ 4100) : total l ≤ 4100 * l.length := by
  unfold total
  induction l with
  | nil => simp
  | cons a l ih =>
    have h1 := h a (List.mem_cons_self)
    have h2 := ih fun x hx => h x (List.mem_cons_of_mem _ hx)
    simp; omega

/-- what both JoinStrings give for a few texts -/
theorem both (l : List ByteArray) (y : ByteArray) (hl : l.length ≤ 1000) (ht : total l ≤ 1048576) (hy : y.size ≤ 1048576) :
    ∃ (r : ByteArray) (b : Bool), (∀ (v : Value) (W : World), Txt W v l → Calls Try.prog 12 #[v, .string y] W fun e W' => e = .returned (.tuple #[.string r, .bool b]) ∧ Below W.heap.size W W') ∧
      (∀ (v : Value) (W : World), Txt W v l → Calls Try.prog 13 #[v, .string y] W fun e W' => e = .returned (.tuple #[.string r, .bool b]) ∧ Below W.heap.size W W') := by
  by_cases hn : l.length = 0 ∨ y.size ≠ 1
  · exact ⟨_, _, fun v W h => exJoin.implJoin_no v l y W h (by omega) hy hn, fun v W h => exJoin.specJoin_no v l y W h (by omega) hy hn⟩
  · obtain ⟨c, hc⟩ : ∃ c, y.data.toList = [c] := by
      have hl : y.data.toList.length = 1 := by
        have : y.size = 1 := by omega
        rw [← this]; exact Array.length_toList
      exact List.length_eq_one_iff.1 hl
    exact ⟨_, _, fun v W h => implJoin_any v l y c W h hc (by omega) (by omega) ht, fun v W h => specJoin_any v l y c W h hc (by omega) (by omega) ht⟩

/-- the law behind its draws, by what the calls give: the parts -/
theorem backs (x y : ByteArray) (c : UInt8) (v : Value) (W : World) (hx : x.size ≤ 16) (hc : y.data.toList = [c]) (h : Txt W v (splitN x c)) :
    Calls Try.prog 12 #[v, .string y] W fun e W' => e = .returned (.tuple #[.string x, .bool true]) ∧ Below W.heap.size W W' := by
  have hl := splitN_len x c
  have ht := total_split x c
  have := implJoin_any v (splitN x c) y c W h hc (by omega) (by omega) (by omega)
  rw [out_split x c (by omega), ok_split x c (by omega)] at this
  exact this

theorem splits (x y : ByteArray) (hx : x.size ≤ 16) (hy : y.size ≤ 16) :
    ∃ (L : List ByteArray) (b : Bool), L.length ≤ 17 ∧ (y.size ≠ 1 → b = false ∧ L.length = 0) ∧ (y.size = 1 → b = true ∧ ∃ c, y.data.toList = [c] ∧ L = splitN x c) ∧
      ∀ W : World, Calls Try.prog 10 #[.string x, .string y] W fun e W' => ∃ A cp, e = .returned (.tuple #[.slice A L.length cp, .bool b]) ∧ Txt W' (.slice A L.length cp) L ∧ Below W.heap.size W W' := by
  have open_ : ∀ {W W' : World} {v : Value} {L : List ByteArray}, Holds W W' v L → ∃ A cp, v = .slice A L.length cp := fun h => by
    obtain ⟨A, c, e, _⟩ := Holds.txt h
    exact ⟨A, c, e⟩
  by_cases h1 : y.size = 1
  · obtain ⟨c, hc⟩ : ∃ c, y.data.toList = [c] := by
      have hl : y.data.toList.length = 1 := by rw [← h1]; exact Array.length_toList
      exact List.length_eq_one_iff.1 hl
    refine ⟨splitN x c, true, by have := splitN_len x c; omega, fun h => absurd h1 h, fun _ => ⟨rfl, c, hc, rfl⟩, fun W => (implSplit_yes x y c W (by omega) h1 hc).mono fun e W' ⟨v, he, hh, hb⟩ => ?_⟩
    obtain ⟨A, cp, rfl⟩ := open_ hh
    exact ⟨A, cp, he, Holds.txt hh, hb⟩
  · refine ⟨[], false, by simp, fun _ => ⟨rfl, rfl⟩, fun h => absurd h h1, fun W => (implSplit_no x y W (by unfold maxLen; omega) (.inr h1)).mono fun e W' ⟨he, hw⟩ => ⟨none, 0, he, ⟨none, 0, rfl, fun h => by cases h⟩, by rw [← hw]; exact Below.refl _ _⟩⟩

theorem vBig_any (a : Option Addr) (len cap : Nat) (b : Bool) (w : World) (h : len ≤ 9223372036854775807) (hb : decide (65536 < (len : Int)) = b) :
    Calls Try.prog 8 #[.slice a len cap] w fun e w' => e = .returned (.bool b) ∧ w = w' := by
  go_enter Try.func8, Try.ntmps8
  go_wp2_with fail
  go_ret
  exact ⟨rfl, rfl⟩

set_option maxHeartbeats 1000000 in
theorem walk (a : Option Addr) (len cap : Nat) (z : List Int) (w : World) (w0 : IsRow .u8 w a len cap z) :
    Calls Try.prog 3 #[.slice a len cap] w fun e w' => e = .returned (.bool true) ∧ Below w.heap.size w w' := by
  have hC := code_of w0
  clear w0
  have hn := hC.1
  unfold maxLen at hn
  by_cases hbig : 65536 < len
  · clear hC
    have HV := Lib.hid (vBig_any a len cap true w hn (by simp; omega))
    go_enter Try.func3, Try.ntmps3
    go_wp2_with (go_at_call 8; refine HV.out.mono ?_; rintro e w' ⟨rfl, rfl⟩)
    go_ret
    exact ⟨rfl, Below.refl _ _⟩
  have HC := Lib.hid hC
  clear hC
  have HV := Lib.hid (vBig_any a len cap false w hn (by simp; omega))
  clear hbig hn
  go_enter Try.func3, Try.ntmps3
  go_wp2_with (go_at_call 8; refine HV.out.mono ?_; rintro e w' ⟨rfl, rfl⟩)
  refine (drawSplit_any a len cap _ HC.out).mono ?_
  rintro e w1 ⟨x, y, hx, hy, rfl, b1⟩
  obtain ⟨L, ok, hL, hno, hyes, hS⟩ := splits x y hx hy
  have HNO := Lib.hid hno
  have HYES := Lib.hid hyes
  have HS := Lib.hid hS
  clear hno hyes hS
  go_wp2_with fail
  refine (HS.out _).mono ?_
  rintro e w2 ⟨A, cp, rfl, t2, b2⟩
  have c2 : Below w.heap.size w w2 := b1.trans (b2.mono b1.size)
  clear b1 b2
  go_wp2_with fail
  refine (drawJoin_any a len cap _ (CodeIs.next HC.out c2)).mono ?_
  rintro e w3 ⟨v, l, m, hl, hlm, hm, rfl, r3, b3⟩
  have c3 := c2.trans (b3.mono c2.size)
  have t3 := t2.below b3
  obtain ⟨r, g, HI0, HSP0⟩ := both l m (by omega) (by have := total_small l hlm; omega) (by omega)
  have HI := Lib.hid HI0
  have HSP := Lib.hid HSP0
  have k3 := Txt.of_own r3
  clear HI0 HSP0 hlm r3 b3 c2 t2
  go_wp2_with fail
  refine (HI.out _ _ k3).mono ?_
  rintro e w4 ⟨rfl, b4⟩
  have c4 := c3.trans (b4.mono c3.size)
  have t4 := t3.below b4
  have k4 := k3.below b4
  clear b4 c3 t3 k3
  go_wp2_with fail
  refine (HSP.out _ _ k4).mono ?_
  rintro e w5 ⟨rfl, b5⟩
  have c5 := c4.trans (b5.mono c4.size)
  have t5 := t4.below b5
  clear b5 c4 t4 k4
  go_wp2_with fail
  refine (drawLess_any a len cap _ (CodeIs.next HC.out c5)).mono ?_
  rintro e w6 ⟨p, q, hp, hq, rfl, b6⟩
  have c6 := c5.trans (b6.mono c5.size)
  have t6 := t5.below b6
  clear b6 c5 t5
  have hself := str_eq_self r
  obtain ⟨d1, hd1⟩ : ∃ d, Op.bytesLess p.toList q.toList = d := ⟨_, rfl⟩
  obtain ⟨d2, hd2⟩ : ∃ d, Op.bytesLess q.toList p.toList = d := ⟨_, rfl⟩
  have has : d1 = true → d2 = false := fun h => by rw [← hd2]; exact less_asym _ _ (by rw [hd1]; exact h)
  have HA := Lib.hid has
  have L1 := Lib.hid (fun W : World => implLess_any p q d1 W hd1)
  have L2 := Lib.hid (fun W : World => specLess_any p q d1 W hd1)
  have L3 := Lib.hid (fun W : World => implLess_any q p d2 W hd2)
  clear has hd1 hd2
  have HB := Lib.hid (fun (c : UInt8) (W : World) => backs x y c (.slice A L.length cp) W hx)
  by_cases hy1 : y.size = 1
  · obtain ⟨rfl, c, hyc, hLs⟩ := HYES.out hy1
    have hb := HB.out c w6 hyc (by rw [← hLs]; exact t6)
    have HB6 := Lib.hid hb
    have e1 : ((y.size : Int) != 1) = false := by simp; omega
    have hsx := str_eq_self x
    clear hb hLs hyc HNO HYES HS HI HSP HC HV HB
    cases d1 with
    | false =>
      go_wp2_with (first | (go_at_call 15; refine (L1.out _).mono ?_; rintro e w' ⟨rfl, rfl⟩) | (go_at_call 16; refine (L2.out _).mono ?_; rintro e w' ⟨rfl, rfl⟩) | (go_at_call 12; refine HB6.out.mono ?_; rintro e w7 ⟨rfl, b7⟩))
      go_ret
      exact ⟨rfl, c6.trans (b7.mono c6.size)⟩
    | true =>
      obtain rfl := HA.out rfl
      go_wp2_with (first | (go_at_call 15; refine (L1.out _).mono ?_; rintro e w' ⟨rfl, rfl⟩) | (go_at_call 16; refine (L2.out _).mono ?_; rintro e w' ⟨rfl, rfl⟩) | (go_at_call 15; refine (L3.out _).mono ?_; rintro e w' ⟨rfl, rfl⟩) | (go_at_call 12; refine HB6.out.mono ?_; rintro e w7 ⟨rfl, b7⟩))
      go_ret
      exact ⟨rfl, c6.trans (b7.mono c6.size)⟩
  · obtain ⟨rfl, hL0⟩ := HNO.out hy1
    have e1 : ((y.size : Int) != 1) = true := by simp; omega
    have hL0' : ((L.length : Int) == 0) = true := by rw [beq_iff_eq]; omega
    clear HNO HYES HS HI HSP HC HV HB t6
    cases d1 with
    | false =>
      go_wp2_with (first | (go_at_call 15; refine (L1.out _).mono ?_; rintro e w' ⟨rfl, rfl⟩) | (go_at_call 16; refine (L2.out _).mono ?_; rintro e w' ⟨rfl, rfl⟩))
      go_ret
      exact ⟨rfl, c6⟩
    | true =>
      obtain rfl := HA.out rfl
      go_wp2_with (first | (go_at_call 15; refine (L1.out _).mono ?_; rintro e w' ⟨rfl, rfl⟩) | (go_at_call 16; refine (L2.out _).mono ?_; rintro e w' ⟨rfl, rfl⟩) | (go_at_call 15; refine (L3.out _).mono ?_; rintro e w' ⟨rfl, rfl⟩))
      go_ret
      exact ⟨rfl, c6⟩

theorem own : ownKnob Try.prog.godebug = none := by kernel_rfl
theorem laidOut : laidOutB Try.prog = true := by kernel_rfl

set_option maxRecDepth 100000 in
theorem lifted (os : Os) (started : os.Started) (H : Type) (enc : TypeId × Value → H) :
    ReturnsInHanded {} Try.checked os 3 .any (Rows.fnSplitJoinSpec.pre6 enc Try.prog Try.f3 Rows.fnSplitJoinRow.domain false) (Rows.fnSplitJoinSpec.post enc Try.prog Try.f3 false true false false) := by
  refine returnsInHanded_of_change (C := Try.checked) own started (by kernel_rfl) Try.func3
    (ChangeSpec.witness6 (enc := enc) (C := Try.checked) false ⟨#[], #[.slice none 0 0], []⟩ 8 (by kernel_rfl) (by kernel_rfl) (by kernel_rfl) (by kernel_rfl)) ?_
  intro W base args ds gs before hval0 hW hcnd _
  have hval : ∀ (j : Nat) t v, Try.f3.params[j]? = some t → args[j]? = some v → Value.okWide Try.prog W .any base t v := hval0
  have hW' := hW
  obtain ⟨p, q, hA0, hV, rfl, hfz, hnd⟩ := hW
  have hA : DataW.TrodAll enc Try.prog W 0 (fun _ => true) true Try.f3.params.toList args.toList ds p := hA0
  rw [Try.params3] at hA hval
  obtain ⟨v0, vs0, d0, ds0, p0, q0, hargs, rfl, rfl, h0, r0⟩ := trodAll_cons hA
  obtain ⟨rfl, rfl, rfl⟩ := trodAll_nil r0
  obtain rfl : args = #[v0] := by cases args; simp_all
  obtain ⟨rfl, rfl⟩ := trodVars_none hV
  obtain ⟨a0, len0, cap0, rfl⟩ := okWide_slice Try.underlying22 (hval 0 22 v0 rfl rfl)
  have k0 := h0
  have lt0 : ∀ x ∈ p0, x.block < W.heap.size := by obtain ⟨m, hm⟩ := k0; exact DataW.trod_lt m _ _ _ hm
  obtain ⟨z0, w0⟩ : ∃ zs, P1.IsRow .u8 W a0 len0 cap0 zs := by
    obtain ⟨fuel, hf⟩ := h0
    rcases open_ints Try.underlying22 Try.underlying5 (by kernel_rfl) hf with ⟨hcs, _⟩ | ⟨x, l, c, zs, hcs, _, hl, hm, hz, _, hcell, hwz⟩
    · simp [Value.cells] at hcs
      obtain ⟨rfl, rfl, rfl⟩ := hcs
      exact ⟨[], .inl ⟨rfl, rfl, rfl, rfl⟩⟩
    · simp [Value.cells] at hcs
      obtain ⟨rfl, rfl, rfl⟩ := hcs
      exact ⟨zs, .inr ⟨_, rfl, hl, hm, by simpa using hz, hcell, hwz⟩⟩
  clear hA0 hval0
  refine (walk a0 len0 cap0 z0 W w0).mono fun e W' ⟨he, bel⟩ => ?_
  subst he
  exact ⟨_, rfl, _, _, _, [], _, [], hW', trodAll_mk1 (shut_bool Try.underlying4 _), (trodAll_cons_mk (Below.trod laidOut (by kernel_rfl) (of_decide_eq_true (by kernel_rfl)) k0 bel lt0) trodAll_mk0), rfl, bel.frame _, fun h => by cases h⟩

theorem over : Rows.fnSplitJoinRow.holds Try.pinned (OpenSpec.ofChange Rows.fnSplitJoinSpec) :=
  OpenClaim.holds_of_wide 3 Try.f3 rfl rfl rfl rfl rfl rfl rfl ⟨rfl, rfl, rfl, rfl, rfl⟩ rfl rfl rfl rfl rfl (by kernel_rfl) Try.func3 (by kernel_rfl)
    (of_decide_eq_true (by kernel_rfl)) (by unfold Func.isWrapper; first | (rw [if_pos (by decide +kernel)]; kernel_rfl) | (rw [if_neg (by decide +kernel)]; exact ⟨rfl, rfl⟩))
    (fun os started H enc _ => lifted os started H enc)

theorem fnSplitJoin_holds : Rows.FnSplitJoinSaid := over
end Go.Proofs.Ytgbnpdgehknfpaa.lawSplitJoin
