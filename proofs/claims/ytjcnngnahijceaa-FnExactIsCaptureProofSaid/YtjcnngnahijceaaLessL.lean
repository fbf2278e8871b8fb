/- The contracts of the model's l4Less, l1Same and l4At. -/
import Derived.Handy
import Derived.Test.YtjcnngnahijceaaListI
import Derived.Test.YtjcnngnahijceaaMovM
import Derived.Test.YtjcnngnahijceaaTrip
namespace Go.Proofs.Ytjcnngnahijceaa.lists
open Go.RowKit P2 words edges ints good adjs fns sets rets apps gridr grid trip
set_option linter.unusedVariables false

def lexB : List Nat → List Nat → Bool
  | x :: a, y :: b => if x = y then lexB a b else decide (x < y)
  | _, _ => false
theorem lexB_iff : ∀ {a b : List Nat}, lexB a b = true ↔ lexN a b
  | [], b => by simp [lexB, lexN]
  | x :: a, [] => by simp [lexB, lexN]
  | x :: a, y :: b => by
    show (if x = y then lexB a b else decide (x < y)) = true ↔ x < y ∨ x = y ∧ lexN a b
    by_cases e : x = y
    · rw [if_pos e, lexB_iff]
      exact ⟨fun h => .inr ⟨e, h⟩, fun h => h.elim (fun h => by omega) fun h => h.2⟩
    · rw [if_neg e, decide_eq_true_iff]
      exact ⟨.inl, fun h => h.elim id fun h => absurd h.1 e⟩
theorem drop_at {L : List Nat} {i x : Nat} (h : L[i]? = some x) : L.drop i = x :: L.drop (i + 1) := by
  obtain ⟨h1, h2⟩ := List.getElem?_eq_some_iff.1 h
  rw [List.drop_eq_getElem_cons h1, h2]
theorem lexB_same {a b : List Nat} {i x : Nat} (ha : a[i]? = some x) (hb : b[i]? = some x) : lexB (a.drop i) (b.drop i) = lexB (a.drop (i + 1)) (b.drop (i + 1)) := by
  rw [drop_at ha, drop_at hb]; show (if x = x then _ else _) = _; rw [if_pos rfl]
theorem lexB_diff {a b : List Nat} {i x y : Nat} (ha : a[i]? = some x) (hb : b[i]? = some y) (h : x ≠ y) : lexB (a.drop i) (b.drop i) = decide (x < y) := by
  rw [drop_at ha, drop_at hb]; show (if x = y then _ else _) = _; rw [if_neg h]
theorem lexB_end {a b : List Nat} : lexB (a.drop a.length) b = false := by
  rw [List.drop_length]; rfl
set_option maxHeartbeats 2000000 in
set_option maxRecDepth 100000 in
theorem l4Less_any (u v : Value) (a b : List Nat) (w : World) (hu : Ints w u (castL a)) (hv : Ints w v (castL b)) (hl : a.length = b.length) (ha : a.length ≤ 3) :
    Calls Try.prog 73 #[u, v] w fun e w' => e = .returned (.bool (lexB a b)) ∧ Below w.heap.size w w' := by
  obtain ⟨A1, c1, rfl, hc1⟩ := hu.form
  obtain ⟨A2, c2, rfl, hc2⟩ := hv.form
  have HC1 := Lib.hid hc1
  have HC2 := Lib.hid hc2
  have HL := Lib.hid hl
  have hla : (castL a).length ≤ 3 := by rw [castL_len]; exact ha
  have HLA := Lib.hid (castL_len a)
  have HLB := Lib.hid (castL_len b)
  clear hu hv hc1 hc2 hl
  go_enter Try.func73, Try.ntmps73
  go_wp2_with fail
  go_loopg [5] a.length (fun g i wr => ∃ k : Nat, k + g = a.length ∧ i = .int .i64 (k : Int) ∧ Hid (lexB (a.drop k) (b.drop k) = lexB a b) ∧ Below w.heap.size w wr)
  case atStart => exact ⟨0, by omega, rfl, by show _ = _; rw [List.drop_zero, List.drop_zero], Below.refl _ _⟩
  case round =>
    obtain ⟨k, hkg, rfl, hr, hB⟩ := hrel
    cases gk with
    | succ gg =>
      have hlt : k < a.length := by omega
      have hlt' : (k : Int) < ((castL a).length : Int) := by have := HLA.out; omega
      have hlb' : (k : Int) < ((castL b).length : Int) := by rw [HLB.out, ← HL.out]; omega
      obtain ⟨x, hx⟩ : ∃ x, a[k]? = some x := ⟨_, List.getElem?_eq_getElem hlt⟩
      obtain ⟨y, hy⟩ : ∃ y, b[k]? = some y := ⟨_, List.getElem?_eq_getElem (by have := HL.out; omega)⟩
      obtain ⟨g1, o1, rfl, q1⟩ := HC1.out k _ (castL_at hx)
      obtain ⟨g2, o2, rfl, q2⟩ := HC2.out k _ (castL_at hy)
      have r1 := nearv.cell_keep q1 hB
      have r2 := nearv.cell_keep q2 hB
      have HB := Lib.hid (fun nq => below_drewN hB nq)
      have HB2 := Lib.hid (fun n1 n2 => below_drewN (below_drewN hB n1) n2)
      by_cases hxy : x = y
      · subst hxy
        have HK : Hid (lexB (a.drop (k + 1)) (b.drop (k + 1)) = lexB a b) := (lexB_same hx hy).symm.trans hr.out
        have d0 : ((x : Int) != (x : Int)) = false := by simp
        clear hx hy q1 q2 hB
        go_wp2_with fail
        go_quiet (fail)
        go_wp2_with fail
        go_roundg gg
        case measure => omega
        case rel => exact ⟨k + 1, by omega, by go_num, HK, HB.out _⟩
      · have HV : Hid (decide (x < y) = lexB a b) := (lexB_diff hx hy hxy).symm.trans hr.out
        have d0 : ((x : Int) != (y : Int)) = true := by simp <;> omega
        have d1 : (x != y) = true := by simpa using hxy
        clear hx hy q1 q2 hB
        go_wp2_with fail
        go_quiet (fail)
        go_wp2_with fail
        have s1 : (wr.drewN nq).cell? _ = _ := r1
        have s2 : (wr.drewN nq).cell? _ = _ := r2
        clear r1 r2
        have HB3 := Lib.hid (fun n2 => HB2.out nq n2)
        generalize wr.drewN nq = w7 at *
        go_quiet (fail)
        go_wp2_with fail
        go_ret
        exact ⟨ret_bool (by rw [← HV.out]), HB3.out _⟩
    | zero =>
      obtain rfl : k = a.length := by omega
      have HV : Hid (lexB a b = false) := hr.out.symm.trans lexB_end
      have hk9 : ¬ ((a.length : Int) < ((castL a).length : Int)) := by have := HLA.out; omega
      go_wp2_with fail
      go_ret
      exact ⟨ret_bool HV.out.symm, hB⟩
set_option maxHeartbeats 2000000 in
set_option maxRecDepth 100000 in
theorem l1Same_any (u v : Value) (a b : List Nat) (w : World) (hu : Ints w u (castL a)) (hv : Ints w v (castL b)) (hl : a.length = b.length) (ha : a.length ≤ 3) :
    Calls Try.prog 160 #[u, v] w fun e w' => e = .returned (.bool (decide (a = b))) ∧ Below w.heap.size w w' := by
  obtain ⟨A1, c1, rfl, hc1⟩ := hu.form
  obtain ⟨A2, c2, rfl, hc2⟩ := hv.form
  have HC1 := Lib.hid hc1
  have HC2 := Lib.hid hc2
  have HL := Lib.hid hl
  have HLA := Lib.hid (castL_len a)
  have HLB := Lib.hid (castL_len b)
  have e9 : (castL b).length = (castL a).length := by rw [castL_len, castL_len, hl]
  rw [e9]
  clear hu hv hc1 hc2 hl e9
  go_enter Try.func160, Try.ntmps160
  go_wp2_with fail
  go_loopg [5] a.length (fun g i wr => ∃ k : Nat, k + g = a.length ∧ i = .int .i64 (k : Int) ∧ Hid (∀ j, j < k → a[j]? = b[j]?) ∧ Below w.heap.size w wr)
  case atStart => exact ⟨0, by omega, rfl, fun j hj => by omega, Below.refl _ _⟩
  case round =>
    obtain ⟨k, hkg, rfl, hr, hB⟩ := hrel
    cases gk with
    | succ gg =>
      have hlt : k < a.length := by omega
      have hlt' : (k : Int) < ((castL a).length : Int) := by have := HLA.out; omega
      obtain ⟨x, hx⟩ : ∃ x, a[k]? = some x := ⟨_, List.getElem?_eq_getElem hlt⟩
      obtain ⟨y, hy⟩ : ∃ y, b[k]? = some y := ⟨_, List.getElem?_eq_getElem (by have := HL.out; omega)⟩
      obtain ⟨g1, o1, rfl, q1⟩ := HC1.out k _ (castL_at hx)
      obtain ⟨g2, o2, rfl, q2⟩ := HC2.out k _ (castL_at hy)
      have r1 := nearv.cell_keep q1 hB
      have r2 := nearv.cell_keep q2 hB
      have HB := Lib.hid (fun nq => below_drewN hB nq)
      have HB2 := Lib.hid (fun n1 n2 => below_drewN (below_drewN hB n1) n2)
      by_cases hxy : x = y
      · subst hxy
        have HK : Hid (∀ j, j < k + 1 → a[j]? = b[j]?) := fun j hj => by
          by_cases e : j = k
          · subst e; rw [hx, hy]
          · exact hr.out j (by omega)
        have d0 : ((x : Int) != (x : Int)) = false := by simp
        clear hx hy q1 q2 hB
        go_wp2_with fail
        go_quiet (fail)
        go_wp2_with fail
        go_roundg gg
        case measure => omega
        case rel => exact ⟨k + 1, by omega, by go_num, HK, HB.out _⟩
      · have HV : Hid (decide (a = b) = false) := by
          show _ = _
          rw [decide_eq_false_iff_not]
          intro e
          rw [e, hy] at hx
          exact hxy (by injection hx with h; exact h.symm)
        have d0 : ((x : Int) != (y : Int)) = true := by simp <;> omega
        have d1 : (x != y) = true := by simpa using hxy
        clear hx hy q1 q2 hB
        go_wp2_with fail
        go_quiet (fail)
        go_wp2_with fail
        go_ret
        exact ⟨ret_bool HV.out.symm, HB.out _⟩
    | zero =>
      obtain rfl : k = a.length := by omega
      have HV : Hid (decide (a = b) = true) := by
        show _ = _
        rw [decide_eq_true_iff]
        apply List.ext_getElem?
        intro j
        by_cases hj : j < a.length
        · exact hr.out j hj
        · rw [List.getElem?_eq_none (by omega), List.getElem?_eq_none (by have := HL.out; omega)]
      have hk9 : ¬ ((a.length : Int) < ((castL a).length : Int)) := by have := HLA.out; omega
      go_wp2_with fail
      go_ret
      exact ⟨ret_bool HV.out.symm, hB⟩
set_option maxHeartbeats 2000000 in
set_option maxRecDepth 100000 in
theorem l4At_any (t v : Value) (us : List Value) (Ls : List (List Nat)) (x : List Nat) (k m : Nat) (w : World) (ht : ReadsG w t us (rowsN Ls)) (hv : Ints w v (castL x)) (hx : Ls[m]? = some x) (hlex : Lex Ls) (hlen : ∀ L ∈ Ls, L.length = k) (hk : k ≤ 3) (hL : Ls.length ≤ 1000) :
    Calls Try.prog 126 #[t, v] w fun e w' => e = .returned (.int .i64 (m : Int)) ∧ Below w.heap.size w w' := by
  obtain ⟨At, ct, rfl, -⟩ := ht.1
  have HT := Lib.hid ht
  have HX := Lib.hid hx
  have HLEX := Lib.hid hlex
  have HLEN := Lib.hid hlen
  have hml := (List.getElem?_eq_some_iff.1 hx).1
  have HRL := Lib.hid (rowsN_len Ls)
  have HV := Lib.hid hv
  obtain ⟨A2, c2, rfl, -⟩ := hv.form
  have hxk := hlen x (List.mem_of_getElem? hx)
  have HXK := Lib.hid hxk
  clear ht hx hlex hlen hv hxk
  go_enter Try.func126, Try.ntmps126
  go_wp2_with fail
  go_loopg [5] m (fun g i wr => ∃ j : Nat, j + g = m ∧ i = .int .i64 (j : Int) ∧ Below w.heap.size w wr)
  case atStart => exact ⟨0, by omega, rfl, Below.refl _ _⟩
  case round =>
    obtain ⟨j, hjg, rfl, hB⟩ := hrel
    have hlt' : (j : Int) < ((rowsN Ls).length : Int) := by rw [HRL.out]; omega
    obtain ⟨y, hy⟩ : ∃ y, Ls[j]? = some y := ⟨_, List.getElem?_eq_getElem (by omega)⟩
    obtain ⟨u, g, o, hu, hAx, c0, hru⟩ := (HT.out.below hB).row (rowsN_at hy)
    subst hAx
    obtain ⟨Ar, cr, rfl, -⟩ := hru.form
    have hyk := HLEN.out y (List.mem_of_getElem? hy)
    have HS := Lib.hid (l1Same_any _ _ y x wr hru (HV.out.below hB) (by rw [hyk, HXK.out]) (by omega))
    by_cases e : y = x
    · have hjm : j = m := by subst e; exact lex_nodup HLEX.out hy HX.out
      have HM := Lib.hid hjm
      rw [decide_eq_true e] at HS
      clear hyk hy hu hru e hjm
      go_wp2_with fail
      refine HS.out.mono ?_
      rintro e w5 ⟨rfl, b5⟩
      have hB5 := btrans hB b5
      go_wp2_with fail
      go_ret
      exact ⟨ret_int (by rw [HM.out]), hB5⟩
    · have hjm : j ≠ m := fun h => by
        subst h
        have h2 := HX.out
        rw [hy] at h2
        exact e (by injection h2)
      rw [decide_eq_false e] at HS
      clear hyk hy hu hru e
      go_wp2_with fail
      refine HS.out.mono ?_
      rintro e w5 ⟨rfl, b5⟩
      have hB5 := btrans hB b5
      go_wp2_with fail
      cases gk with
      | zero => exfalso; omega
      | succ gg =>
        go_roundg gg
        case measure => omega
        case rel => exact ⟨j + 1, by omega, by go_num, hB5⟩
end Go.Proofs.Ytjcnngnahijceaa.lists
