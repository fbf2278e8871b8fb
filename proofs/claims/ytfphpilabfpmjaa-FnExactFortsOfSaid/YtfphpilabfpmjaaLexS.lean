/- The contract of the model's l5Less over lists of the same length. -/
import Derived.Handy
import Derived.Test.YtfphpilabfpmjaaUpsM
import Derived.Test.YtfphpilabfpmjaaNearV
import Derived.Deep.DeepCutAuto
import Derived.Deep.RegionHeld3
import Derived.Deep.QuietTactic
namespace Go.Proofs.Ytfphpilabfpmjaa.ups
open Go.RowKit P2 words edges ints good adjs fns sets rets covs bitsI
set_option linter.unusedVariables false

theorem drop5 {L : List Int} {i : Nat} {x : Int} (h : L[i]? = some x) : L.drop i = x :: L.drop (i + 1) := by
  obtain ⟨h1, h2⟩ := List.getElem?_eq_some_iff.1 h
  rw [List.drop_eq_getElem_cons h1, h2]
theorem lex5_same {a b : List Int} {i : Nat} {x : Int} (ha : a[i]? = some x) (hb : b[i]? = some x) : lexI (a.drop i) (b.drop i) = lexI (a.drop (i + 1)) (b.drop (i + 1)) := by
  rw [drop5 ha, drop5 hb]; show (if x = x then _ else _) = _; rw [if_pos rfl]
theorem lex5_diff {a b : List Int} {i : Nat} {x y : Int} (ha : a[i]? = some x) (hb : b[i]? = some y) (h : x ≠ y) : lexI (a.drop i) (b.drop i) = decide (x < y) := by
  rw [drop5 ha, drop5 hb]; show (if x = y then _ else _) = _; rw [if_neg h]
theorem lex5_end {a b : List Int} : lexI (a.drop a.length) b = false := by
  rw [List.drop_length]; cases b <;> rfl
set_option maxHeartbeats 2000000 in
set_option maxRecDepth 100000 in
theorem l5LessI_any (u v : Value) (a b : List Int) (w : World) (hu : Ints w u a) (hv : Ints w v b) (hl : a.length = b.length) (ha : a.length ≤ 1048576) :
    Calls Try.prog 107 #[u, v] w fun e w' => e = .returned (.bool (lexI a b)) ∧ Below w.heap.size w w' := by
  obtain ⟨A1, c1, rfl, hc1⟩ := hu.form
  obtain ⟨A2, c2, rfl, hc2⟩ := hv.form
  have HC1 := Lib.hid hc1
  have HC2 := Lib.hid hc2
  have HL := Lib.hid hl
  clear hu hv hc1 hc2 hl
  go_enter Try.func107, Try.ntmps107
  go_wp2_with fail
  go_loopg [5] a.length (fun g i wr => ∃ k : Nat, k + g = a.length ∧ i = .int .i64 (k : Int) ∧ Hid (lexI (a.drop k) (b.drop k) = lexI a b) ∧ Below w.heap.size w wr)
  case atStart => exact ⟨0, by omega, rfl, by show _ = _; rw [List.drop_zero, List.drop_zero], Below.refl _ _⟩
  case round =>
    obtain ⟨k, hkg, rfl, hr, hB⟩ := hrel
    cases gk with
    | zero =>
      obtain rfl : k = a.length := by omega
      have HV : Hid (lexI a b = false) := by show _ = _; rw [← hr.out, lex5_end]
      have hge : ¬ (a.length : Int) < (b.length : Int) := by rw [HL.out]; omega
      go_wp2_with fail
      go_ret
      rw [HV.out]
      refine ⟨?_, hB⟩
      have := HL.out
      first | rfl | simp [this]
    | succ gg =>
      have hlt : k < a.length := by omega
      have hlt' : (k : Int) < (a.length : Int) := by omega
      have hlb' : (k : Int) < (b.length : Int) := by rw [← HL.out]; omega
      obtain ⟨x, hx⟩ : ∃ x, a[k]? = some x := ⟨_, List.getElem?_eq_getElem hlt⟩
      obtain ⟨y, hy⟩ : ∃ y, b[k]? = some y := ⟨_, List.getElem?_eq_getElem (by have := HL.out; omega)⟩
      obtain ⟨g1, o1, rfl, q1⟩ := HC1.out k _ hx
      obtain ⟨g2, o2, rfl, q2⟩ := HC2.out k _ hy
      have r1 := nearv.cell_keep q1 hB
      have r2 := nearv.cell_keep q2 hB
      have HB := Lib.hid (fun nq => below_drewN hB nq)
      have HB2 := Lib.hid (fun n1 n2 => below_drewN (below_drewN hB n1) n2)
      by_cases hxy : x = y
      · subst hxy
        have HK : Hid (lexI (a.drop (k + 1)) (b.drop (k + 1)) = lexI a b) := (lex5_same hx hy).symm.trans hr.out
        have d0 : (x != x) = false := by simp
        clear hx hy q1 q2 hB
        go_wp2_with fail
        go_quiet (fail)
        go_wp2_with fail
        go_roundg gg
        case measure => omega
        case rel => exact ⟨k + 1, by omega, by go_num, HK, HB.out _⟩
      · have HV : Hid (decide (x < y) = lexI a b) := (lex5_diff hx hy hxy).symm.trans hr.out
        have d0 : (x != y) = true := by simpa using hxy
        clear hx hy q1 q2 hB
        go_wp2_with fail
        go_quiet (fail)
        go_wp2_with fail
        go_quiet (fail)
        go_wp2_with fail
        go_ret
        exact ⟨ret_bool HV.out, HB2.out _ _⟩
end Go.Proofs.Ytfphpilabfpmjaa.ups
