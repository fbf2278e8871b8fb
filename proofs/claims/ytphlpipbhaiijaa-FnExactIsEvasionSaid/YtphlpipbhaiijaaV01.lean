/- The contracts of the model's l4Less, l1Same and l4At. -/
import Derived.Handy
import Derived.Test.YtphlpipbhaiijaaListI
import Derived.Test.YtphlpipbhaiijaaMovM
import Derived.Test.YtphlpipbhaiijaaTrip
import Derived.Deep.RegionHeld3
import Derived.StillTailTactics
namespace Go.Proofs.Ytphlpipbhaiijaa.lists
open Go.RowKit P2 words edges ints good adjs fns sets rets apps gridr grid trip
set_option linter.unusedVariables false

def lexB : List Nat → List Nat → Bool
  | x :: a, y :: b => if x = y then lexB a b else decide (x < y)
  | _, _ => false
theorem lexB_iff : ∀ {a b : List Nat}, lexB a b = true ↔ lexN a b
  | [], b => by simp [lexB, lexN]
  | x :: a, [] => by simp [lexB, lexN]
  | x :: a, y :: b => by
    show (if x = y then lexB a b else decide (x < y)) = true ↔ x < y ∨ x = y ∧ lexN a b
    by_cases e : x = y
    · rw [if_pos e, lexB_iff]
      exact ⟨fun h => .inr ⟨e, h⟩, fun h => h.elim (fun h => by omega) fun h => h.2⟩
    · rw [if_neg e, decide_eq_true_iff]
      exact ⟨.inl, fun h => h.elim id fun h => absurd h.1 e⟩
theorem drop_at {L : List Nat} {i x : Nat} (h : L[i]? = some x) : L.drop i = x :: L.drop (i + 1) := by
  obtain ⟨h1, h2⟩ := List.getElem?_eq_some_iff.1 h
  rw [List.drop_eq_getElem_cons h1, h2]
theorem lexB_same {a b : List Nat} {i x : Nat} (ha : a[i]? = some x) (hb : b[i]? = some x) : lexB (a.drop i) (b.drop i) = lexB (a.drop (i + 1)) (b.drop (i + 1)) := by
  rw [drop_at ha, drop_at hb]; show (if x = x then _ else _) = _; rw [if_pos rfl]
theorem lexB_diff {a b : List Nat} {i x y : Nat} (ha : a[i]? = some x) (hb : b[i]? = some y) (h : x ≠ y) : lexB (a.drop i) (b.drop i) = decide (x < y) := by
  rw [drop_at ha, drop_at hb]; show (if x = y then _ else _) = _; rw [if_neg h]
theorem lexB_end {a b : List Nat} : lexB (a.drop a.length) b = false := by
  rw [List.drop_length]; rfl
set_option maxHeartbeats 2000000 in
set_option maxRecDepth 100000 in
theorem l4Less_any (u v : Value) (a b : List Nat) (w : World) (hu : Ints w u (castL a)) (hv : Ints w v (castL b)) (hl : a.length = b.length) (ha : a.length ≤ 3) :
    Calls Try.prog 173 #[u, v] w fun e w' => e = .returned (.bool (lexB a b)) ∧ Below w.heap.size w w' := by
  obtain ⟨A1, c1, rfl, hc1⟩ := hu.form
  obtain ⟨A2, c2, rfl, hc2⟩ := hv.form
  have HC1 := Lib.hid hc1
  have HC2 := Lib.hid hc2
  have HL := Lib.hid hl
  have hla : (castL a).length ≤ 3 := by rw [castL_len]; exact ha
  have HLA := Lib.hid (castL_len a)
  have HLB := Lib.hid (castL_len b)
  clear hu hv hc1 hc2 hl
  go_enter Try.func173, Try.ntmps173
  go_wp2_with fail
  go_loopg [5] a.length (fun g i wr => ∃ k : Nat, k + g = a.length ∧ i = .int .i64 (k : Int) ∧ Hid (lexB (a.drop k) (b.drop k) = lexB a b) ∧ Below w.heap.size w wr)
  case atStart => exact ⟨0, by omega, rfl, by show _ = _; rw [List.drop_zero, List.drop_zero], Below.refl _ _⟩
  case round =>
    obtain ⟨k, hkg, rfl, hr, hB⟩ := hrel
    cases gk with
    | succ gg =>
      have hlt : k < a.length := by omega
      have hlt' : (k : Int) < ((castL a).length : Int) := by have := HLA.out; omega
      have hlb' : (k : Int) < ((castL b).length : Int) := by rw [HLB.out, ← HL.out]; omega
      obtain ⟨x, hx⟩ : ∃ x, a[k]? = some x := ⟨_, List.getElem?_eq_getElem hlt⟩
      obtain ⟨y, hy⟩ : ∃ y, b[k]? = some y := ⟨_, List.getElem?_eq_getElem (by have := HL.out; omega)⟩
      obtain ⟨g1, o1, rfl, q1⟩ := HC1.out k _ (castL_at hx)
      obtain ⟨g2, o2, rfl, q2⟩ := HC2.out k _ (castL_at hy)
      have r1 := nearv.cell_keep q1 hB
      have r2 := nearv.cell_keep q2 hB
      have HB := Lib.hid (fun nq => below_drewN hB nq)
      have HB2 := Lib.hid (fun n1 n2 => below_drewN (below_drewN hB n1) n2)
      by_cases hxy : x = y
      · subst hxy
        have HK : Hid (lexB (a.drop (k + 1)) (b.drop (k + 1)) = lexB a b) := (lexB_same hx hy).symm.trans hr.out
        have d0 : ((x : Int) != (x : Int)) = false := by simp
        clear hx hy q1 q2 hB
        go_wp2_with fail
        go_quiet (fail)
        go_wp2_with fail
        go_roundg gg
        case measure => omega
        case rel => exact ⟨k + 1, by omega, by go_num, HK, HB.out _⟩
      · have HV : Hid (decide (x < y) = lexB a b) := (lexB_diff hx hy hxy).symm.trans hr.out
        have d0 : ((x : Int) != (y : Int)) = true := by simp <;> omega
        have d1 : (x != y) = true := by simpa using hxy
        clear hx hy q1 q2 hB
        go_wp2_with fail
        go_quiet (fail)
        go_wp2_with fail
        have s1 : (wr.drewN nq).cell? _ = _ := r1
        have s2 : (wr.drewN nq).cell? _ = _ := r2
        clear r1 r2
        have HB3 := Lib.hid (fun n2 => HB2.out nq n2)
        generalize wr.drewN nq = w7 at *
        go_quiet (fail)
        go_wp2_with fail
        go_ret
        exact ⟨ret_bool (by rw [← HV.out]), HB3.out _⟩
    | zero =>
      obtain rfl : k = a.length := by omega
      have HV : Hid (lexB a b = false) := hr.out.symm.trans lexB_end
      have hk9 : ¬ ((a.length : Int) < ((castL a).length : Int)) := by have := HLA.out; omega
      go_wp2_with fail
      go_ret
      exact ⟨ret_bool HV.out.symm, hB⟩
set_option maxHeartbeats 2000000 in
set_option maxRecDepth 100000 in
theorem l1Same_any (u v : Value) (a b : List Nat) (w : World) (hu : Ints w u (castL a)) (hv : Ints w v (castL b)) (hl : a.length = b.length) (ha : a.length ≤ 3) :
    Calls Try.prog 164 #[u, v] w fun e w' => e = .returned (.bool (decide (a = b))) ∧ Below w.heap.size w w' := by
  obtain ⟨A1, c1, rfl, hc1⟩ := hu.form
  obtain ⟨A2, c2, rfl, hc2⟩ := hv.form
  have HC1 := Lib.hid hc1
  have HC2 := Lib.hid hc2
  have HL := Lib.hid hl
  have HLA := Lib.hid (castL_len a)
  have HLB := Lib.hid (castL_len b)
  have e9 : (castL b).length = (castL a).length := by rw [castL_len, castL_len, hl]
  rw [e9]
  clear hu hv hc1 hc2 hl e9
  go_enter Try.func164, Try.ntmps164
  go_wp2_with fail
  go_loopg [5] a.length (fun g i wr => ∃ k : Nat, k + g = a.length ∧ i = .int .i64 (k : Int) ∧ Hid (∀ j, j < k → a[j]? = b[j]?) ∧ Below w.heap.size w wr)
  case atStart => exact ⟨0, by omega, rfl, fun j hj => by omega, Below.refl _ _⟩
  case round =>
    obtain ⟨k, hkg, rfl, hr, hB⟩ := hrel
    cases gk with
    | succ gg =>
      have hlt : k < a.length := by omega
      have hlt' : (k : Int) < ((castL a).length : Int) := by have := HLA.out; omega
      obtain ⟨x, hx⟩ : ∃ x, a[k]? = some x := ⟨_, List.getElem?_eq_getElem hlt⟩
      obtain ⟨y, hy⟩ : ∃ y, b[k]? = some y := ⟨_, List.getElem?_eq_getElem (by have := HL.out; omega)⟩
      obtain ⟨g1, o1, rfl, q1⟩ := HC1.out k _ (castL_at hx)
      obtain ⟨g2, o2, rfl, q2⟩ := HC2.out k _ (castL_at hy)
      have r1 := nearv.cell_keep q1 hB
      have r2 := nearv.cell_keep q2 hB
      have HB := Lib.hid (fun nq => below_drewN hB nq)
      have HB2 := Lib.hid (fun n1 n2 => below_drewN (below_drewN hB n1) n2)
      by_cases hxy : x = y
      · subst hxy
        have HK : Hid (∀ j, j < k + 1 → a[j]? = b[j]?) := fun j hj => by
          by_cases e : j = k
          · subst e; rw [hx, hy]
          · exact hr.out j (by omega)
        have d0 : ((x : Int) != (x : Int)) = false := by simp
        clear hx hy q1 q2 hB
        go_wp2_with fail
        go_quiet (fail)
        go_wp2_with fail
        go_roundg gg
        case measure => omega
        case rel => exact ⟨k + 1, by omega, by go_num, HK, HB.out _⟩
      · have HV : Hid (decide (a = b) = false) := by
          show _ = _
          rw [decide_eq_false_iff_not]
          intro e
          rw [e, hy] at hx
          exact hxy (by injection hx with h; exact h.symm)
        have d0 : ((x : Int) != (y : Int)) = true := by simp <;> omega
        have d1 : (x != y) = true := by simpa using hxy
        clear hx hy q1 q2 hB
        go_wp2_with fail
        go_quiet (fail)
        go_wp2_with fail
        go_ret
        exact ⟨ret_bool HV.out.symm, HB.out _⟩
    | zero =>
      obtain rfl : k = a.length := by omega
      have HV : Hid (decide (a = b) = true) := by
        show _ = _
        rw [decide_eq_true_iff]
        apply List.ext_getElem?
        intro j
        by_cases hj : j < a.length
        · exact hr.out j hj
        · rw [List.getElem?_eq_none (by omega), List.getElem?_eq_none (by have := HL.out; omega)]
      have hk9 : ¬ ((a.length : Int) < ((castL a).length : Int)) := by have := HLA.out; omega
      go_wp2_with fail
      go_ret
      exact ⟨ret_bool HV.out.symm, hB⟩
set_option maxHeartbeats 2000000 in
set_option maxRecDepth 100000 in
theorem l4At_any (t v : Value) (us : List Value) (Ls : List (List Nat)) (x : List Nat) (k m : Nat) (w : World) (ht : ReadsG w t us (rowsN Ls)) (hv : Ints w v (castL x)) (hx : Ls[m]? = some x) (hlex : Lex Ls) (hlen : ∀ L ∈ Ls, L.length = k) (hk : k ≤ 3) (hL : Ls.length ≤ 1000) :
    Calls Try.prog 142 #[t, v] w fun e w' => e = .returned (.int .i64 (m : Int)) ∧ Below w.heap.size w w' := by
  obtain ⟨At, ct, rfl, -⟩ := ht.1
  have HT := Lib.hid ht
  have HX := Lib.hid hx
  have HLEX := Lib.hid hlex
  have HLEN := Lib.hid hlen
  have hml := (List.getElem?_eq_some_iff.1 hx).1
  have HRL := Lib.hid (rowsN_len Ls)
  have HV := Lib.hid hv
  obtain ⟨A2, c2, rfl, -⟩ := hv.form
  have hxk := hlen x (List.mem_of_getElem? hx)
  have HXK := Lib.hid hxk
  clear ht hx hlex hlen hv hxk
  go_enter Try.func142, Try.ntmps142
  go_wp2_with fail
  go_loopg [5] m (fun g i wr => ∃ j : Nat, j + g = m ∧ i = .int .i64 (j : Int) ∧ Below w.heap.size w wr)
  case atStart => exact ⟨0, by omega, rfl, Below.refl _ _⟩
  case round =>
    obtain ⟨j, hjg, rfl, hB⟩ := hrel
    have hlt' : (j : Int) < ((rowsN Ls).length : Int) := by rw [HRL.out]; omega
    obtain ⟨y, hy⟩ : ∃ y, Ls[j]? = some y := ⟨_, List.getElem?_eq_getElem (by omega)⟩
    obtain ⟨u, g, o, hu, hAx, c0, hru⟩ := (HT.out.below hB).row (rowsN_at hy)
    subst hAx
    obtain ⟨Ar, cr, rfl, -⟩ := hru.form
    have hyk := HLEN.out y (List.mem_of_getElem? hy)
    have HS := Lib.hid (l1Same_any _ _ y x wr hru (HV.out.below hB) (by rw [hyk, HXK.out]) (by omega))
    by_cases e : y = x
    · have hjm : j = m := by subst e; exact lex_nodup HLEX.out hy HX.out
      have HM := Lib.hid hjm
      rw [decide_eq_true e] at HS
      clear hyk hy hu hru e hjm
      go_wp2_with fail
      refine HS.out.mono ?_
      rintro e w5 ⟨rfl, b5⟩
      have hB5 := btrans hB b5
      go_wp2_with fail
      go_ret
      exact ⟨ret_int (by rw [HM.out]), hB5⟩
    · have hjm : j ≠ m := fun h => by
        subst h
        have h2 := HX.out
        rw [hy] at h2
        exact e (by injection h2)
      rw [decide_eq_false e] at HS
      clear hyk hy hu hru e
      go_wp2_with fail
      refine HS.out.mono ?_
      rintro e w5 ⟨rfl, b5⟩
      have hB5 := btrans hB b5
      go_wp2_with fail
      cases gk with
      | zero => exfalso; omega
      | succ gg =>
        go_roundg gg
        case measure => omega
        case rel => exact ⟨j + 1, by omega, by go_num, hB5⟩
end Go.Proofs.Ytphlpipbhaiijaa.lists

/- The contract of the model's l4Put. -/
namespace Go.Proofs.Ytphlpipbhaiijaa.lists
open Go.RowKit P2 words edges ints good adjs fns sets rets apps gridr grid trip
set_option linter.unusedVariables false

theorem ins_get {α : Type} {L : List α} {x : α} {k : Nat} (hk : k ≤ L.length) (i : Nat) : (L.take k ++ x :: L.drop k)[i]? = if i < k then L[i]? else if i = k then some x else L[i - 1]? := by
  have ht : (L.take k).length = k := by rw [List.length_take]; omega
  by_cases h : i < k
  · rw [if_pos h, List.getElem?_append_left (by omega), List.getElem?_take_of_lt h]
  · rw [if_neg h, List.getElem?_append_right (by omega), ht]
    by_cases e : i = k
    · subst e; simp
    · rw [if_neg e]
      obtain ⟨m, hm⟩ : ∃ m, i - k = m + 1 := ⟨i - k - 1, by omega⟩
      rw [hm, List.getElem?_cons_succ, List.getElem?_drop]
      congr 1; omega
theorem OwnG.ins {w w3 : World} {B k : Nat} {v v3 xv : Value} {us : List Value} {rows : List (List Int)} {r : List Int} (h : OwnG w B v us rows) (hk : k ≤ rows.length) (hb : Below w.heap.size w w3)
    (hx : w.ownsRow B 3 1 xv r.length (cellsI r)) (hf : ∀ (i : Nat) u b, us[i]? = some u → u.ownBlock = some b → xv.ownBlock ≠ some b)
    (h3 : w3.ownsRow B 25 1 v3 (rows.take k ++ r :: rows.drop k).length (us.take k ++ xv :: us.drop k)) : OwnG w3 B v3 (us.take k ++ xv :: us.drop k) (rows.take k ++ r :: rows.drop k) := by
  have hl := h.len
  have h5 := h.below hb
  refine ⟨h3, fun i u q hu hq => ?_, fun i j u u' b hij hu hu' hub => ?_⟩
  · rw [ins_get (by omega)] at hu
    rw [ins_get hk] at hq
    by_cases h1 : i < k
    · rw [if_pos h1] at hu hq; exact h5.2.1 i u q hu hq
    · rw [if_neg h1] at hu hq
      by_cases h2 : i = k
      · rw [if_pos h2] at hu hq
        cases hu; cases hq
        exact own_below hx hb
      · rw [if_neg h2] at hu hq; exact h5.2.1 _ u q hu hq
  · rw [ins_get (by omega)] at hu hu'
    by_cases h1 : i < k
    · rw [if_pos h1] at hu
      by_cases h2 : j < k
      · rw [if_pos h2] at hu'; exact h.2.2 i j u u' b hij hu hu' hub
      · rw [if_neg h2] at hu'
        by_cases h4 : j = k
        · rw [if_pos h4] at hu'; cases hu'; exact hf i u b hu hub
        · rw [if_neg h4] at hu'; exact h.2.2 i (j - 1) u u' b (by omega) hu hu' hub
    · rw [if_neg h1] at hu
      rw [if_neg (by omega), if_neg (by omega)] at hu'
      by_cases h4 : i = k
      · rw [if_pos h4] at hu; cases hu
        exact fun e => hf (j - 1) u' b hu' e hub
      · rw [if_neg h4] at hu; exact h.2.2 (i - 1) (j - 1) u u' b (by omega) hu hu' hub
theorem OwnG.ones {w : World} {B : Nat} {v : Value} {us : List Value} {rows : List (List Int)} (h : OwnG w B v us rows) : ∀ u ∈ us, u.oneCell' = true := fun u hu => by
  obtain ⟨i, hi⟩ := List.getElem?_of_mem hu
  obtain ⟨r, hr⟩ : ∃ r, rows[i]? = some r := ⟨_, List.getElem?_eq_getElem (by have := (List.getElem?_eq_some_iff.1 hi).1; have := h.len; omega)⟩
  obtain ⟨A, c, rfl⟩ := own_form (h.2.1 i u r hi hr)
  rfl
theorem rowsN_ins (Ls : List (List Nat)) (x : List Nat) (k : Nat) : rowsN (Ls.take k ++ x :: Ls.drop k) = (rowsN Ls).take k ++ castL x :: (rowsN Ls).drop k := by
  simp [rowsN, List.map_take, List.map_drop]
theorem rows_short {Ls : List (List Nat)} {k m : Nat} (h : ∀ L ∈ Ls, L.length = m) {y : List Nat} (hy : Ls[k]? = some y) : y.length = m := h y (List.mem_of_getElem? hy)
set_option maxHeartbeats 8000000 in
set_option maxRecDepth 100000 in
theorem l4Put_own (v xv : Value) (us : List Value) (Ls : List (List Nat)) (x : List Nat) (B : Nat) (w : World) (h : OwnG w B v us (rowsN Ls)) (hx : w.ownsRow B 3 1 xv (castL x).length (cellsI (castL x)))
    (hf : ∀ (i : Nat) u b, us[i]? = some u → u.ownBlock = some b → xv.ownBlock ≠ some b) (hB : B ≤ w.heap.size) (hlex : Lex Ls) (hlen : ∀ L ∈ Ls, L.length = x.length) (hx3 : x.length ≤ 3) (hL : Ls.length ≤ 1000) :
    Calls Try.prog 162 #[v, xv] w fun e w' => ∃ M A c us', e = .returned (.slice A (rowsN M).length c) ∧ PutL Ls x M ∧ OwnG w' B (.slice A (rowsN M).length c) us' (rowsN M) ∧ Below w.heap.size w w' := by
  obtain ⟨i1, hi1, hy0, hy1, hy2⟩ := info_parts infoRow
  obtain ⟨A, c, rfl⟩ := own_form h.1
  obtain ⟨Ax, cx, rfl⟩ := own_form hx
  have HRL := Lib.hid (rowsN_len Ls)
  have HG := Lib.hid h
  have HX := Lib.hid hx
  have HXI : Hid (Ints w (.slice Ax (castL x).length cx) (castL x)) := Reads.of_own hx
  have HF := Lib.hid hf
  have HLEX := Lib.hid hlex
  have HLEN := Lib.hid hlen
  have HUL := Lib.hid h.len
  have hrl : (rowsN Ls).length ≤ 1000 := by rw [rowsN_len]; exact hL
  have hx9 : (castL x).length ≤ 3 := by rw [castL_len]; exact hx3
  clear h hx hf hlex hlen
  go_enter Try.func162, Try.ntmps162
  go_wp2_with fail
  go_loopg [5] (rowsN Ls).length (fun g kv wr => ∃ k : Nat, k + g = (rowsN Ls).length ∧ kv = .int .i64 (k : Int) ∧ Hid (∀ j y, j < k → Ls[j]? = some y → lexN y x) ∧ Below w.heap.size w wr)
  case atStart => exact ⟨0, by omega, rfl, fun j y hj => by omega, Below.refl _ _⟩
  case round =>
    obtain ⟨k, hkg, rfl, hle, hBW⟩ := hrel
    cases gk with
    | succ gg =>
      have hlt : (k : Int) < ((rowsN Ls).length : Int) := by omega
      obtain ⟨y, hy⟩ : ∃ y, Ls[k]? = some y := ⟨_, List.getElem?_eq_getElem (by have := HRL.out; omega)⟩
      obtain ⟨u, g, o, hu, hAx, c0, hru⟩ := (gridl.readsG_of_own (HG.out.below hBW)).row (rowsN_at hy)
      subst hAx
      obtain ⟨Ar, cr, rfl, -⟩ := hru.form
      have hyl := rows_short HLEN.out hy
      have HLS := Lib.hid (l4Less_any _ _ y x wr hru (HXI.out.below hBW) hyl (by omega))
      have HSS := Lib.hid (fun (W : World) (hb : Below wr.heap.size wr W) => l1Same_any _ _ y x W (hru.below hb) ((HXI.out.below hBW).below hb) hyl (by omega))
      have HBW := Lib.hid hBW
      have HY := Lib.hid hy
      clear hyl hru hu hBW hy
      by_cases hlx : lexN y x
      · rw [lexB_iff.2 hlx] at HLS
        have HK : Hid (∀ j z, j < k + 1 → Ls[j]? = some z → lexN z x) := fun j z hj hz => by
          by_cases e : j = k
          · subst e; rw [HY.out] at hz; cases hz; exact hlx
          · exact hle.out j z (by omega) hz
        clear hlx
        go_wp2_with fail
        refine HLS.out.mono ?_
        rintro e w5 ⟨rfl, b5⟩
        have HB5 := Lib.hid (btrans HBW.out b5)
        clear b5 c0
        go_wp2_with fail
        go_roundg gg
        case measure => omega
        case rel => exact ⟨k + 1, by omega, by go_num, HK, HB5.out⟩
      · have hlf : lexB y x = false := by
          cases hb : lexB y x with
          | false => rfl
          | true => exact absurd (lexB_iff.1 hb) hlx
        rw [hlf] at HLS
        by_cases hsm : y = x
        · have HP : Hid (PutL Ls x Ls) := PutL.same HLEX.out (hsm ▸ List.mem_of_getElem? HY.out)
          rw [decide_eq_true hsm] at HSS
          clear hlx hlf hsm
          go_wp2_with fail
          refine HLS.out.mono ?_
          rintro e w5 ⟨rfl, b5⟩
          have c5 := nearv.cell_keep c0 b5
          have HSS5 := Lib.hid (HSS.out w5 b5)
          have HB5 := Lib.hid (btrans HBW.out b5)
          clear b5 c0
          go_wp2_with fail
          refine HSS5.out.mono ?_
          rintro e w6 ⟨rfl, b6⟩
          have HB6 := Lib.hid (btrans HB5.out b6)
          clear b6
          go_wp2_with fail
          go_ret
          exact ⟨Ls, _, _, us, rfl, HP.out, HG.out.below HB6.out, HB6.out⟩
        · have HP : Hid (PutL Ls x (Ls.take k ++ x :: Ls.drop k)) := PutL.new (by have := HRL.out; omega) HLEX.out hle.out (fun z hz => by
            have e : z = y := by
              have := HY.out
              rw [hz] at this; injection this
            subst e
            exact lex_tri (rows_short HLEN.out hz) hsm hlx)
          rw [decide_eq_false hsm] at HSS
          clear hlx hlf hsm
          go_wp2_with fail
          refine HLS.out.mono ?_
          rintro e w5 ⟨rfl, b5⟩
          have c5 := nearv.cell_keep c0 b5
          have HSS5 := Lib.hid (HSS.out w5 b5)
          have HB5 := Lib.hid (btrans HBW.out b5)
          clear b5 c0
          go_wp2_with fail
          refine HSS5.out.mono ?_
          rintro e w6 ⟨rfl, b6⟩
          have HBT := Lib.hid (btrans HB5.out b6)
          clear b6 c5
          go_wp2_with fail
          have hrd := Reads.of_own (HG.out.below HBT.out).1
          have HRD : Hid (Reads w6 1 (.slice (some ⟨g, o, none⟩) (rowsN Ls).length c) (rowsN Ls).length us) := hrd
          have HXL : Hid (us.length = (rowsN Ls).length) := HUL.out
          have hkl : k ≤ (rowsN Ls).length := by omega
          have hkc : k ≤ c := reads_cap hrd hkl
          have H1 := Lib.hid (OwnG.ones HG.out)
          have HX1 : Hid ((Value.slice Ax (castL x).length cx).oneCell' = true) := rfl
          clear hrd
          have B5 := Below.refl w6.heap.size w6
          have RT := Lib.hid (fun (W_ : World) (hb : Below w6.heap.size w6 W_) => by have h_ := apps.Reads.take (c' := c) (HRD.out.below hb) hkl hkc; rw [Nat.mul_one] at h_; exact h_)
          have RD := Lib.hid (fun (W_ : World) (hb : Below w6.heap.size w6 W_) => by have h_ := apps.Reads.drop (HRD.out.below hb) hkl; rw [Nat.mul_one] at h_; exact h_)
          have hXSl_ : (us).length = (rowsN Ls).length := HXL.out
          have LT : Hid (((us).take k).length = k * 1) := by show _ = _; rw [List.length_take, hXSl_]; omega
          have LD : Hid (((us).drop k).length = ((rowsN Ls).length - k) * 1) := by show _ = _; rw [List.length_drop, hXSl_]; omega
          have N1 := Lib.hid (fun x (hx : x ∈ (us).take k) => H1.out x (List.mem_of_mem_take hx))
          have N3 := Lib.hid (fun x (hx : x ∈ (us).drop k) => H1.out x (List.mem_of_mem_drop hx))
          have N2 : Hid (∀ x_ ∈ ([.slice Ax (castL x).length cx] : List Value), x_.oneCell' = true) := fun x_ hx_ => by rw [List.mem_singleton.1 hx_]; exact HX1.out
          have F1 := Lib.hid (show ((w6.alloc (.cells #[] 25)).drew).ownsRow w6.heap.size 25 1 (.slice (some ⟨w6.heap.size, 0, none⟩) 0 0) 0 [] from own_new0 w6.drew 25 1)
          have F2 := Lib.hid (show (((w6.alloc (.cells #[] 25)).alloc (.cells #[.slice Ax (castL x).length cx] 25)).drew).ownsRow w6.heap.size 25 1 (.slice (some ⟨w6.heap.size, 0, none⟩) 0 0) 0 [] from (own_new0 w6.drew 25 1).alloc _)
          have F3 := Lib.hid (show (((w6.alloc (.cells #[.slice Ax (castL x).length cx] 25)).alloc (.cells #[] 25)).drew).ownsRow w6.heap.size 25 1 (.slice (some ⟨w6.heap.size + 1, 0, none⟩) 0 0) 0 [] from by
            have t := own_new0 (w6.alloc (.cells #[.slice Ax (castL x).length cx] 25)) 25 1
            rw [World.size_alloc] at t
            exact own_base t (by omega))
          have B0 := Lib.hid (show Below w6.heap.size w6 w6.drew from B5.drew)
          have B1 := Lib.hid (show Below w6.heap.size w6 ((w6.alloc (.cells #[] 25)).drew) from (B5.alloc (Nat.le_refl _) _).drew)
          have B4 := Lib.hid (show Below w6.heap.size w6 ((w6.alloc (.cells #[.slice Ax (castL x).length cx] 25)).drew) from (B5.alloc (Nat.le_refl _) _).drew)
          have B2 := Lib.hid (show Below w6.heap.size w6 (((w6.alloc (.cells #[] 25)).alloc (.cells #[.slice Ax (castL x).length cx] 25)).drew) from ((B5.alloc (Nat.le_refl _) _).alloc (by simp) _).drew)
          have B3 := Lib.hid (show Below w6.heap.size w6 (((w6.alloc (.cells #[.slice Ax (castL x).length cx] 25)).alloc (.cells #[] 25)).drew) from ((B5.alloc (Nat.le_refl _) _).alloc (by simp) _).drew)
          have Y2 := Lib.hid (show Blk (((w6.alloc (.cells #[] 25)).alloc (.cells #[.slice Ax (castL x).length cx] 25)).drew) (w6.heap.size + 1) 25 #[.slice Ax (castL x).length cx] from by
            have t := (Blk.new (w6.alloc (.cells #[] 25)) 25 #[.slice Ax (castL x).length cx]).drewN 1
            rw [World.size_alloc] at t; exact t)
          have Y3 := Lib.hid (show Blk (((w6.alloc (.cells #[.slice Ax (castL x).length cx] 25)).alloc (.cells #[] 25)).drew) w6.heap.size 25 #[.slice Ax (castL x).length cx] from ((Blk.new w6 25 #[.slice Ax (castL x).length cx]).alloc (.cells #[] 25)).drewN 1)
          clear B5 hXSl_
          go_region_law (first
            | ((first
                  | (refine step_append_any _ rfl (.tmp 33) (.tmp 36) 44 rfl w6.heap.size 25 i1 (.slice none 0 0) 1 24 Try.underlying44 hi1 hy0 hy1 hy2 rfl (by decide) (.slice (some ⟨w6.heap.size, 0, none⟩) 0 0) 0 [] rfl ?_ (.slice (some ⟨g, o, none⟩) k c) k ((us).take k) rfl ?_ LT.out N1.out (by unfold maxLen; omega) (by omega) (by simp <;> omega) ?_)
                  | (refine step_append_any _ rfl (.tmp 33) (.tmp 36) 44 rfl w6.heap.size 25 i1 (.slice none 0 0) 1 24 Try.underlying44 hi1 hy0 hy1 hy2 rfl (by decide) (.slice (some ⟨w6.heap.size + 1, 0, none⟩) 0 0) 0 [] rfl ?_ (.slice (some ⟨g, o, none⟩) k c) k ((us).take k) rfl ?_ LT.out N1.out (by unfold maxLen; omega) (by omega) (by simp <;> omega) ?_)
                  | (refine step_append_any _ rfl (.tmp 33) (.tmp 36) 44 rfl w6.heap.size 25 i1 (.slice none 0 0) 1 24 Try.underlying44 hi1 hy0 hy1 hy2 rfl (by decide) (.slice (some ⟨w6.heap.size, 0, none⟩) 0 0) 0 [] rfl ?_ (.slice (some ⟨g, o, none⟩) k c) k ((us).take k) rfl ?_ LT.out N1.out (by unfold maxLen; omega) (by omega) (by simp <;> omega) ?_)
                  | (refine step_append_any _ rfl (.tmp 33) (.tmp 36) 44 rfl w6.heap.size 25 i1 (.slice none 0 0) 1 24 Try.underlying44 hi1 hy0 hy1 hy2 rfl (by decide) (.slice (some ⟨w6.heap.size + 1, 0, none⟩) 0 0) 0 [] rfl ?_ (.slice (some ⟨g, o, none⟩) k c) k ((us).take k) rfl ?_ LT.out N1.out (by unfold maxLen; omega) (by omega) (by simp <;> omega) ?_))
               (first | with_reducible exact F1.out | with_reducible exact F2.out | with_reducible exact F3.out)
               refine RT.out _ ?_
               (first | with_reducible exact B1.out | with_reducible exact B2.out | with_reducible exact B3.out)
               intro v1 w1 o1 g1
               rw [Nat.zero_add, List.nil_append] at o1
               (first
                 | (have e1 := B1.out.grown g1 (by simp) (fun k hk => by simp [Value.ownBlock] at hk; omega))
                 | (have e1 := B2.out.grown g1 (by simp; omega) (fun k hk => by simp [Value.ownBlock] at hk; omega); have y1 := Y2.out.grown g1 (by simp [Value.ownBlock]))
                 | (have e1 := B3.out.grown g1 (by simp; omega) (fun k hk => by simp [Value.ownBlock] at hk; omega); have y1 := Y3.out.grown g1 (by simp [Value.ownBlock])))
               have s1 := e1.size)
            | ((first
                  | (refine step_append_any _ rfl (.tmp 37) (.tmp 39) 44 rfl w6.heap.size 25 i1 (.slice none 0 0) 1 24 Try.underlying44 hi1 hy0 hy1 hy2 rfl (by decide) v1 k ((us).take k) rfl ?_ (.slice (some ⟨w1.heap.size, 0, none⟩) 1 1) 1 [.slice Ax (castL x).length cx] rfl ?_ rfl N2.out (by unfold maxLen; omega) (by omega) ?_ ?_)
                  | (refine step_append_any _ rfl (.tmp 37) (.tmp 39) 44 rfl w6.heap.size 25 i1 (.slice none 0 0) 1 24 Try.underlying44 hi1 hy0 hy1 hy2 rfl (by decide) v1 k ((us).take k) rfl ?_ (.slice (some ⟨w6.heap.size + 1, 0, none⟩) 1 1) 1 [.slice Ax (castL x).length cx] rfl ?_ rfl N2.out (by unfold maxLen; omega) (by omega) ?_ ?_)
                  | (refine step_append_any _ rfl (.tmp 37) (.tmp 39) 44 rfl w6.heap.size 25 i1 (.slice none 0 0) 1 24 Try.underlying44 hi1 hy0 hy1 hy2 rfl (by decide) v1 k ((us).take k) rfl ?_ (.slice (some ⟨w6.heap.size, 0, none⟩) 1 1) 1 [.slice Ax (castL x).length cx] rfl ?_ rfl N2.out (by unfold maxLen; omega) (by omega) ?_ ?_))
               (first | with_reducible exact o1 | with_reducible exact o1.alloc _)
               (first | with_reducible exact one_readsV y1 | with_reducible exact one_readsV (Blk.new w1 _ _))
               (first | with_reducible exact s1 | with_reducible exact Nat.le_trans s1 (by simp))
               intro v2 w2 o2 g2
               (first
                 | have e2 := e1.grown g2 s1 (fun q hq => (o1.lt q hq).1)
                 | have e2 := (e1.alloc s1 _).grown g2 (Nat.le_trans s1 (by simp)) (fun q hq => (o1.lt q hq).1))
               have s2 := e2.size)
            | ((first
                  | (refine step_append_any _ rfl (.tmp 40) (.tmp 43) 44 rfl w6.heap.size 25 i1 (.slice none 0 0) 1 24 Try.underlying44 hi1 hy0 hy1 hy2 rfl (by decide) v2 (k + 1) ((us).take k ++ [.slice Ax (castL x).length cx]) rfl ?_ (.slice (if c = k then some ⟨g, o, none⟩ else some ⟨g, o + k, none⟩) ((rowsN Ls).length - k) (c - k)) ((rowsN Ls).length - k) ((us).drop k) rfl ?_ LD.out N3.out (by unfold maxLen; omega) (by omega) s2 ?_)
                  | (refine step_append_any _ rfl (.tmp 40) (.tmp 43) 44 rfl w6.heap.size 25 i1 (.slice none 0 0) 1 24 Try.underlying44 hi1 hy0 hy1 hy2 rfl (by decide) v2 (k + 1) ((us).take k ++ [.slice Ax (castL x).length cx]) rfl ?_ (.slice (if c = k then (some ⟨g, o, none⟩) else Option.map (fun x => x.add k) (some ⟨g, o, none⟩)) ((rowsN Ls).length - k) (c - k)) ((rowsN Ls).length - k) ((us).drop k) rfl ?_ LD.out N3.out (by unfold maxLen; omega) (by omega) s2 ?_))
               with_reducible exact o2
               (first | with_reducible exact rd1_someV (RD.out _ e2) | with_reducible exact rd1_zeroV (RD.out _ e2) | exact (by simpa using RD.out _ e2))
               intro v3 w3 o3 g3
               have e3 := e2.grown g3 s2 (fun q hq => (o2.lt q hq).1)))
          all_goals
            have hw3 : w3.ownsRow B 25 1 v3 ((rowsN Ls).take k ++ castL x :: (rowsN Ls).drop k).length (us.take k ++ .slice Ax (castL x).length cx :: us.drop k) := by
              have e1 : ((rowsN Ls).take k ++ castL x :: (rowsN Ls).drop k).length = k + 1 + ((rowsN Ls).length - k) := by
                rw [List.length_append, List.length_cons, List.length_take, List.length_drop, Nat.min_eq_left hkl]; omega
              have e4 : us.take k ++ .slice Ax (castL x).length cx :: us.drop k = us.take k ++ [.slice Ax (castL x).length cx] ++ us.drop k := by simp
              rw [e1, e4]; exact own_base o3 (Nat.le_trans hB HBT.out.size)
            have HG9 := Lib.hid (OwnG.ins HG.out hkl (btrans HBT.out e3) HX.out HF.out hw3)
            have HB9 := Lib.hid (btrans HBT.out e3)
            rw [← rowsN_ins] at HG9 hw3
            generalize hn : (rowsN (Ls.take k ++ x :: Ls.drop k)).length = n3 at hw3
            obtain ⟨A3, c3, rfl⟩ := own_form hw3
            clear o3 hw3
            go_wp2_with fail
            all_goals (go_ret; subst hn; (first | exact ⟨_, A3, c3, _, rfl, HP.out, HG9.out, HB9.out⟩ | exact ⟨_, A3, c3, rfl, HP.out, ⟨_, HG9.out⟩, HB9.out⟩))
    | zero =>
      have HP : Hid (PutL Ls x (Ls.take k ++ x :: Ls.drop k)) := PutL.new (by have := HRL.out; omega) HLEX.out hle.out (fun z hz => by
        have := (List.getElem?_eq_some_iff.1 hz).1
        have := HRL.out
        omega)
      have HBT := Lib.hid hBW
      have hkz : ¬ ((k : Int) < ((rowsN Ls).length : Int)) := by omega
      have dk : decide ((k : Int) < ((rowsN Ls).length : Int)) = false := by simpa using hkz
      have dk' : decide (k < (rowsN Ls).length) = false := decide_eq_false (by omega)
      clear hBW
      go_wp2_with fail
      have hrd := Reads.of_own (HG.out.below HBT.out).1
      have HRD : Hid (Reads wr 1 (.slice A (rowsN Ls).length c) (rowsN Ls).length us) := hrd
      have HXL : Hid (us.length = (rowsN Ls).length) := HUL.out
      have hkl : k ≤ (rowsN Ls).length := by omega
      have hkc : k ≤ c := reads_cap hrd hkl
      have H1 := Lib.hid (OwnG.ones HG.out)
      have HX1 : Hid ((Value.slice Ax (castL x).length cx).oneCell' = true) := rfl
      clear hrd
      have B5 := Below.refl wr.heap.size wr
      have RT := Lib.hid (fun (W_ : World) (hb : Below wr.heap.size wr W_) => by have h_ := apps.Reads.take (c' := c) (HRD.out.below hb) hkl hkc; rw [Nat.mul_one] at h_; exact h_)
      have RD := Lib.hid (fun (W_ : World) (hb : Below wr.heap.size wr W_) => by have h_ := apps.Reads.drop (HRD.out.below hb) hkl; rw [Nat.mul_one] at h_; exact h_)
      have hXSl_ : (us).length = (rowsN Ls).length := HXL.out
      have LT : Hid (((us).take k).length = k * 1) := by show _ = _; rw [List.length_take, hXSl_]; omega
      have LD : Hid (((us).drop k).length = ((rowsN Ls).length - k) * 1) := by show _ = _; rw [List.length_drop, hXSl_]; omega
      have N1 := Lib.hid (fun x (hx : x ∈ (us).take k) => H1.out x (List.mem_of_mem_take hx))
      have N3 := Lib.hid (fun x (hx : x ∈ (us).drop k) => H1.out x (List.mem_of_mem_drop hx))
      have N2 : Hid (∀ x_ ∈ ([.slice Ax (castL x).length cx] : List Value), x_.oneCell' = true) := fun x_ hx_ => by rw [List.mem_singleton.1 hx_]; exact HX1.out
      have F1 := Lib.hid (show ((wr.alloc (.cells #[] 25)).drew).ownsRow wr.heap.size 25 1 (.slice (some ⟨wr.heap.size, 0, none⟩) 0 0) 0 [] from own_new0 wr.drew 25 1)
      have F2 := Lib.hid (show (((wr.alloc (.cells #[] 25)).alloc (.cells #[.slice Ax (castL x).length cx] 25)).drew).ownsRow wr.heap.size 25 1 (.slice (some ⟨wr.heap.size, 0, none⟩) 0 0) 0 [] from (own_new0 wr.drew 25 1).alloc _)
      have F3 := Lib.hid (show (((wr.alloc (.cells #[.slice Ax (castL x).length cx] 25)).alloc (.cells #[] 25)).drew).ownsRow wr.heap.size 25 1 (.slice (some ⟨wr.heap.size + 1, 0, none⟩) 0 0) 0 [] from by
        have t := own_new0 (wr.alloc (.cells #[.slice Ax (castL x).length cx] 25)) 25 1
        rw [World.size_alloc] at t
        exact own_base t (by omega))
      have B0 := Lib.hid (show Below wr.heap.size wr wr.drew from B5.drew)
      have B1 := Lib.hid (show Below wr.heap.size wr ((wr.alloc (.cells #[] 25)).drew) from (B5.alloc (Nat.le_refl _) _).drew)
      have B4 := Lib.hid (show Below wr.heap.size wr ((wr.alloc (.cells #[.slice Ax (castL x).length cx] 25)).drew) from (B5.alloc (Nat.le_refl _) _).drew)
      have B2 := Lib.hid (show Below wr.heap.size wr (((wr.alloc (.cells #[] 25)).alloc (.cells #[.slice Ax (castL x).length cx] 25)).drew) from ((B5.alloc (Nat.le_refl _) _).alloc (by simp) _).drew)
      have B3 := Lib.hid (show Below wr.heap.size wr (((wr.alloc (.cells #[.slice Ax (castL x).length cx] 25)).alloc (.cells #[] 25)).drew) from ((B5.alloc (Nat.le_refl _) _).alloc (by simp) _).drew)
      have Y2 := Lib.hid (show Blk (((wr.alloc (.cells #[] 25)).alloc (.cells #[.slice Ax (castL x).length cx] 25)).drew) (wr.heap.size + 1) 25 #[.slice Ax (castL x).length cx] from by
        have t := (Blk.new (wr.alloc (.cells #[] 25)) 25 #[.slice Ax (castL x).length cx]).drewN 1
        rw [World.size_alloc] at t; exact t)
      have Y3 := Lib.hid (show Blk (((wr.alloc (.cells #[.slice Ax (castL x).length cx] 25)).alloc (.cells #[] 25)).drew) wr.heap.size 25 #[.slice Ax (castL x).length cx] from ((Blk.new wr 25 #[.slice Ax (castL x).length cx]).alloc (.cells #[] 25)).drewN 1)
      clear B5 hXSl_
      go_region_law (first
        | ((first
              | (refine step_append_any _ rfl (.tmp 33) (.tmp 36) 44 rfl wr.heap.size 25 i1 (.slice none 0 0) 1 24 Try.underlying44 hi1 hy0 hy1 hy2 rfl (by decide) (.slice (some ⟨wr.heap.size, 0, none⟩) 0 0) 0 [] rfl ?_ (.slice A k c) k ((us).take k) rfl ?_ LT.out N1.out (by unfold maxLen; omega) (by omega) (by simp <;> omega) ?_)
              | (refine step_append_any _ rfl (.tmp 33) (.tmp 36) 44 rfl wr.heap.size 25 i1 (.slice none 0 0) 1 24 Try.underlying44 hi1 hy0 hy1 hy2 rfl (by decide) (.slice (some ⟨wr.heap.size + 1, 0, none⟩) 0 0) 0 [] rfl ?_ (.slice A k c) k ((us).take k) rfl ?_ LT.out N1.out (by unfold maxLen; omega) (by omega) (by simp <;> omega) ?_))
           (first | with_reducible exact F1.out | with_reducible exact F2.out | with_reducible exact F3.out)
           refine RT.out _ ?_
           (first | with_reducible exact B1.out | with_reducible exact B2.out | with_reducible exact B3.out)
           intro v1 w1 o1 g1
           rw [Nat.zero_add, List.nil_append] at o1
           (first
             | (have e1 := B1.out.grown g1 (by simp) (fun k hk => by simp [Value.ownBlock] at hk; omega))
             | (have e1 := B2.out.grown g1 (by simp; omega) (fun k hk => by simp [Value.ownBlock] at hk; omega); have y1 := Y2.out.grown g1 (by simp [Value.ownBlock]))
             | (have e1 := B3.out.grown g1 (by simp; omega) (fun k hk => by simp [Value.ownBlock] at hk; omega); have y1 := Y3.out.grown g1 (by simp [Value.ownBlock])))
           have s1 := e1.size)
        | ((first
              | (refine step_append_any _ rfl (.tmp 37) (.tmp 39) 44 rfl wr.heap.size 25 i1 (.slice none 0 0) 1 24 Try.underlying44 hi1 hy0 hy1 hy2 rfl (by decide) v1 k ((us).take k) rfl ?_ (.slice (some ⟨w1.heap.size, 0, none⟩) 1 1) 1 [.slice Ax (castL x).length cx] rfl ?_ rfl N2.out (by unfold maxLen; omega) (by omega) ?_ ?_)
              | (refine step_append_any _ rfl (.tmp 37) (.tmp 39) 44 rfl wr.heap.size 25 i1 (.slice none 0 0) 1 24 Try.underlying44 hi1 hy0 hy1 hy2 rfl (by decide) v1 k ((us).take k) rfl ?_ (.slice (some ⟨wr.heap.size + 1, 0, none⟩) 1 1) 1 [.slice Ax (castL x).length cx] rfl ?_ rfl N2.out (by unfold maxLen; omega) (by omega) ?_ ?_)
              | (refine step_append_any _ rfl (.tmp 37) (.tmp 39) 44 rfl wr.heap.size 25 i1 (.slice none 0 0) 1 24 Try.underlying44 hi1 hy0 hy1 hy2 rfl (by decide) v1 k ((us).take k) rfl ?_ (.slice (some ⟨wr.heap.size, 0, none⟩) 1 1) 1 [.slice Ax (castL x).length cx] rfl ?_ rfl N2.out (by unfold maxLen; omega) (by omega) ?_ ?_))
           (first | with_reducible exact o1 | with_reducible exact o1.alloc _)
           (first | with_reducible exact one_readsV y1 | with_reducible exact one_readsV (Blk.new w1 _ _))
           (first | with_reducible exact s1 | with_reducible exact Nat.le_trans s1 (by simp))
           intro v2 w2 o2 g2
           (first
             | have e2 := e1.grown g2 s1 (fun q hq => (o1.lt q hq).1)
             | have e2 := (e1.alloc s1 _).grown g2 (Nat.le_trans s1 (by simp)) (fun q hq => (o1.lt q hq).1))
           have s2 := e2.size)
        | ((first
              | (refine step_append_any _ rfl (.tmp 40) (.tmp 43) 44 rfl wr.heap.size 25 i1 (.slice none 0 0) 1 24 Try.underlying44 hi1 hy0 hy1 hy2 rfl (by decide) v2 (k + 1) ((us).take k ++ [.slice Ax (castL x).length cx]) rfl ?_ (.slice (if c = k then A else Option.map (fun x => x.add k) A) ((rowsN Ls).length - k) (c - k)) ((rowsN Ls).length - k) ((us).drop k) rfl ?_ LD.out N3.out (by unfold maxLen; omega) (by omega) s2 ?_))
           with_reducible exact o2
           (first | with_reducible exact rd1_someV (RD.out _ e2) | with_reducible exact rd1_zeroV (RD.out _ e2) | exact (by simpa using RD.out _ e2))
           intro v3 w3 o3 g3
           have e3 := e2.grown g3 s2 (fun q hq => (o2.lt q hq).1)))
      all_goals
        have hw3 : w3.ownsRow B 25 1 v3 ((rowsN Ls).take k ++ castL x :: (rowsN Ls).drop k).length (us.take k ++ .slice Ax (castL x).length cx :: us.drop k) := by
          have e1 : ((rowsN Ls).take k ++ castL x :: (rowsN Ls).drop k).length = k + 1 + ((rowsN Ls).length - k) := by
            rw [List.length_append, List.length_cons, List.length_take, List.length_drop, Nat.min_eq_left hkl]; omega
          have e4 : us.take k ++ .slice Ax (castL x).length cx :: us.drop k = us.take k ++ [.slice Ax (castL x).length cx] ++ us.drop k := by simp
          rw [e1, e4]; exact own_base o3 (Nat.le_trans hB HBT.out.size)
        have HG9 := Lib.hid (OwnG.ins HG.out hkl (btrans HBT.out e3) HX.out HF.out hw3)
        have HB9 := Lib.hid (btrans HBT.out e3)
        rw [← rowsN_ins] at HG9 hw3
        generalize hn : (rowsN (Ls.take k ++ x :: Ls.drop k)).length = n3 at hw3
        obtain ⟨A3, c3, rfl⟩ := own_form hw3
        clear o3 hw3
        go_wp2_with fail
        all_goals (go_ret; subst hn; (first | exact ⟨_, A3, c3, _, rfl, HP.out, HG9.out, HB9.out⟩ | exact ⟨_, A3, c3, rfl, HP.out, ⟨_, HG9.out⟩, HB9.out⟩))
end Go.Proofs.Ytphlpipbhaiijaa.lists
