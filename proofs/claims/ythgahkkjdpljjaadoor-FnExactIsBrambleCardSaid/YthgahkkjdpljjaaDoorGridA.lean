/- The laws' helpers over arguments of type [][]int: szIntS, szIntSS, toIntSS. -/
import Derived.Handy
import Derived.Test.YthgahkkjdpljjaaDoorGridL
import Derived.Test.YthgahkkjdpljjaaDoorGridW
import Derived.Test.YthgahkkjdpljjaaDoorOwn
import Derived.Deep.DeepCutAuto
namespace Go.Proofs.YthgahkkjdpljjaaDoor.gridl
open Go.RowKit P2 words ints grid gridr owns
set_option linter.unusedVariables false

def szS (left m : Int) : Int := if left - m < 0 then -1 else left - m
/-- what is left of a budget behind a slice of slices, -1 if it is used up -/
def szSS (left : Int) (rows : List (List Int)) : Int := if left - (rows.length : Int) < 0 then -1 else szS (left - (rows.length : Int)) (tot rows : Int)
set_option maxHeartbeats 400000 in
theorem szIntS_any (v : Value) (l : List Int) (left : Int) (w : World) (h : Ints w v l) (h0 : 0 ≤ left) (h1 : left ≤ 1048576) (hl : (l.length : Int) ≤ 9223372036854775807) :
    Calls Tryd.prog 13 #[v, .int .i64 left] w fun e w' => e = .returned (.int .i64 (szS left (l.length : Int))) ∧ w = w' := by
  obtain ⟨A, c, rfl, -⟩ := h.form
  clear h
  have hw : IntKind.i64.wrap (left - (l.length : Int)) = left - (l.length : Int) := IntWalk.i64_in _ (by omega)
  by_cases hn : left - (l.length : Int) < 0
  · have HV : Hid (szS left (l.length : Int) = -1) := by show _ = _; unfold szS; rw [if_pos hn]
    go_enter Tryd.func13, Tryd.ntmps13
    go_wp2_with fail
    go_ret
    exact ⟨ret_int HV.out.symm, rfl⟩
  · have HV : Hid (szS left (l.length : Int) = left - (l.length : Int)) := by show _ = _; unfold szS; rw [if_neg hn]
    go_enter Tryd.func13, Tryd.ntmps13
    go_wp2_with fail
    go_ret
    exact ⟨ret_int HV.out.symm, rfl⟩
set_option maxHeartbeats 1000000 in
theorem szIntSS_any (v : Value) (us : List Value) (rows : List (List Int)) (left : Int) (w : World) (h : ReadsG w v us rows) (h0 : 0 ≤ left) (h1 : left ≤ 1048576) (hl : (rows.length : Int) ≤ 9223372036854775807) (hr : ∀ r ∈ rows, (r.length : Int) ≤ 9223372036854775807) :
    Calls Tryd.prog 5 #[v, .int .i64 left] w fun e w' => e = .returned (.int .i64 (szSS left rows)) ∧ w = w' := by
  obtain ⟨A, c, rfl, -⟩ := h.1
  have H := Lib.hid h
  have HR := Lib.hid hr
  clear h hr
  have hw : IntKind.i64.wrap (left - (rows.length : Int)) = left - (rows.length : Int) := IntWalk.i64_in _ (by omega)
  by_cases hn : left - (rows.length : Int) < 0
  · have HV : Hid (szSS left rows = -1) := by show _ = _; unfold szSS; rw [if_pos hn]
    go_enter Tryd.func5, Tryd.ntmps5
    go_wp2_with fail
    go_ret
    exact ⟨ret_int HV.out.symm, rfl⟩
  · have HV : Hid (szSS left rows = szS (left - (rows.length : Int)) (tot rows : Int)) := by show _ = _; unfold szSS; rw [if_neg hn]
    go_enter Tryd.func5, Tryd.ntmps5
    go_wp2_with fail
    go_loopg [1, 5] rows.length (fun g lv iv wr => ∃ (k : Nat) (b : Int), k + g = rows.length ∧ iv = .int .i64 (k : Int) ∧ lv = .int .i64 b ∧ Hid (b = left - (rows.length : Int) - (tot (rows.take k) : Int) ∧ 0 ≤ b) ∧ w = wr)
    case atStart => exact ⟨0, _, by omega, rfl, rfl, (by show _ ∧ _; simp [tot]; omega), rfl⟩
    case round =>
      obtain ⟨k, b, hkg, rfl, rfl, hb, rfl⟩ := hrel
      cases gk with
      | zero =>
        obtain rfl : k = rows.length := by omega
        have HB : Hid (szSS left rows = b) := by
          show _ = _
          have := hb.out
          rw [HV.out]
          unfold szS
          rw [List.take_length] at this
          rw [if_neg (by omega)]; omega
        go_wp2_with fail
        go_ret
        exact ⟨ret_int HB.out.symm, rfl⟩
      | succ g2 =>
        have hlt : k < rows.length := by omega
        have hlt' : (k : Int) < (rows.length : Int) := by omega
        obtain ⟨r, hrk⟩ : ∃ r, rows[k]? = some r := ⟨_, List.getElem?_eq_getElem hlt⟩
        obtain ⟨u, g, o, hu, rfl, c0, hru⟩ := H.out.row hrk
        have hrl := HR.out r (List.mem_of_getElem? hrk)
        have ht := tot_succ hrk
        have hle := tot_le rows (k + 1)
        have hb0 := hb.out
        have HSZ := Lib.hid (szIntS_any u r b w hru (by omega) (by omega) hrl)
        by_cases hneg : b - (r.length : Int) < 0
        · have HS1 : Hid (szS b (r.length : Int) = -1) := by show _ = _; unfold szS; rw [if_pos hneg]
          have HB : Hid (szSS left rows = -1) := by
            show _ = _
            rw [HV.out]
            unfold szS
            rw [if_pos (by omega)]
          rw [HS1.out] at HSZ
          clear hu hru hrk ht hle hb0
          go_wp2_with fail
          refine HSZ.out.mono ?_
          rintro e w' ⟨rfl, rfl⟩
          go_wp2_with fail
          go_ret
          exact ⟨ret_int HB.out.symm, rfl⟩
        · have HS1 : Hid (szS b (r.length : Int) = b - (r.length : Int)) := by show _ = _; unfold szS; rw [if_neg hneg]
          have HB : Hid (b - (r.length : Int) = left - (rows.length : Int) - (tot (rows.take (k + 1)) : Int) ∧ 0 ≤ b - (r.length : Int)) := by
            show _ ∧ _
            omega
          rw [HS1.out] at HSZ
          clear hu hru hrk ht hle hb0
          generalize b - (r.length : Int) = b2 at *
          go_wp2_with fail
          refine HSZ.out.mono ?_
          rintro e w' ⟨rfl, rfl⟩
          have hb2 : ¬ b2 < 0 := by have := HB.out; omega
          go_wp2_with fail
          go_roundg g2
          case measure => omega
          case rel => exact ⟨k + 1, b2, by omega, by go_num, rfl, HB, rfl⟩
/-- the budget is enough -/
theorem szIntSS_yes (v : Value) (us : List Value) (rows : List (List Int)) (left : Int) (w : World) (h : ReadsG w v us rows) (h0 : 0 ≤ left) (h1 : left ≤ 1048576) (hl : (rows.length : Int) + (tot rows : Int) ≤ left) :
    Calls Tryd.prog 5 #[v, .int .i64 left] w fun e w' => e = .returned (.int .i64 (left - (rows.length : Int) - (tot rows : Int))) ∧ Below w.heap.size w w' :=
  (szIntSS_any v us rows left w h h0 h1 (by omega) (fun r hr => by
    obtain ⟨k, hk⟩ := List.getElem?_of_mem hr
    have := tot_succ hk
    have := tot_le rows (k + 1)
    omega)).mono fun _ _ ⟨e, hw⟩ => ⟨by rw [e]; unfold szSS szS; rw [if_neg (by omega), if_neg (by omega)], hw ▸ Below.refl _ _⟩
/-- it is not -/
theorem szIntSS_no (v : Value) (us : List Value) (rows : List (List Int)) (left : Int) (w : World) (h : ReadsG w v us rows) (h0 : 0 ≤ left) (h1 : left ≤ 1048576) (hl : (rows.length : Int) ≤ 9223372036854775807) (hr : ∀ r ∈ rows, (r.length : Int) ≤ 9223372036854775807) (hn : left < (rows.length : Int) + (tot rows : Int)) :
    Calls Tryd.prog 5 #[v, .int .i64 left] w fun e w' => e = .returned (.int .i64 (-1)) ∧ Below w.heap.size w w' :=
  (szIntSS_any v us rows left w h h0 h1 hl hr).mono fun _ _ ⟨e, hw⟩ => ⟨by
    rw [e]; unfold szSS szS
    by_cases h2 : left - (rows.length : Int) < 0
    · rw [if_pos h2]
    · rw [if_neg h2, if_pos (by omega)], hw ▸ Below.refl _ _⟩
/-- a copy in the making -/
def cpR (rows : List (List Int)) (k : Nat) : List (List Int) := rows.take k ++ List.replicate (rows.length - k) []
theorem cpR_len (rows : List (List Int)) {k : Nat} (h : k ≤ rows.length) : (cpR rows k).length = rows.length := by simp [cpR]; omega
theorem cpR_zero (rows : List (List Int)) : cpR rows 0 = List.replicate rows.length [] := by simp [cpR]
theorem cpR_all (rows : List (List Int)) : cpR rows rows.length = rows := by simp [cpR]
theorem cpR_succ {rows : List (List Int)} {k : Nat} {r : List Int} (h : rows[k]? = some r) : (cpR rows k).set k r = cpR rows (k + 1) := by
  have hk := (List.getElem?_eq_some_iff.1 h).1
  unfold cpR
  rw [show rows.length - k = (rows.length - (k + 1)) + 1 from by omega, List.replicate_succ, List.set_append_right _ _ (by rw [List.length_take]; omega), List.take_add_one, h]
  have e : k - (List.take k rows).length = 0 := by simp; omega
  rw [e, List.set_cons_zero, List.append_assoc]
  rfl
set_option maxHeartbeats 2000000 in
set_option maxRecDepth 100000 in
theorem toIntSS_any (v : Value) (us : List Value) (rows : List (List Int)) (w : World) (h : ReadsG w v us rows) (hl : tot rows ≤ 1048576) (hn : rows.length ≤ 1048576) :
    Calls Tryd.prog 8 #[v] w fun e w' => ∃ A c us', e = .returned (.slice A rows.length c) ∧ OwnG w' w.heap.size (.slice A rows.length c) us' rows ∧ Below w.heap.size w w' := by
  obtain ⟨A, c, rfl, -⟩ := h.1
  obtain ⟨i1, hi1, hy0, hy1, hy2⟩ := info_parts infoRow
  have hmk := fun (W : World) => run_make_rowN (P := Tryd.prog) 25 38 i1 (.slice none 0 0) Tryd.underlying25 hi1 hy0 .i64 .i64 rows.length rows.length (Nat.le_refl _) (by rw [hy2]; omega) (by omega) W
  rw [hy1] at hmk
  simp only [Nat.mul_one] at hmk
  have H := Lib.hid h
  have HM := Lib.hid (OwnG.made w rows.length (by unfold maxLen; omega))
  rw [Nat.mul_one, ← cpR_zero] at HM
  have HE := Lib.hid ((Below.refl w.heap.size w).alloc (Nat.le_refl _) (.cells (madeCells #[.slice none 0 0] rows.length) 38))
  clear h
  go_enter Tryd.func8, Tryd.ntmps8
  go_wp2_with fail
  clear hmk
  go_loopg [4] rows.length (fun g iv wr => ∃ (k : Nat) (vs : List Value), k + g = rows.length ∧ iv = .int .i64 (k : Int) ∧ OwnG wr w.heap.size (.slice (some ⟨w.heap.size, 0, none⟩) rows.length rows.length) vs (cpR rows k) ∧ Below w.heap.size w wr)
  case atStart => exact ⟨0, _, by omega, rfl, HM.out, HE.out⟩
  case round =>
    clear HM HE
    obtain ⟨k, vs, hkg, rfl, hG, hB⟩ := hrel
    cases gk with
    | zero =>
      obtain rfl : k = rows.length := by omega
      rw [cpR_all] at hG
      have HG := Lib.hid hG
      have HB := Lib.hid hB
      clear hG hB
      go_wp2_with fail
      go_ret
      exact ⟨_, _, _, rfl, HG.out, HB.out⟩
    | succ g2 =>
      have hlt : k < rows.length := by omega
      have hlt' : (k : Int) < (rows.length : Int) := by omega
      obtain ⟨r, hr⟩ : ∃ r, rows[k]? = some r := ⟨_, List.getElem?_eq_getElem hlt⟩
      obtain ⟨u, g, o, hu, rfl, c0, hru⟩ := (H.out.below hB).row hr
      obtain ⟨Ar, cr, rfl, -⟩ := hru.form
      have hrl : r.length ≤ 1048576 := by have := tot_succ hr; have := tot_le rows (k + 1); omega
      have HT := Lib.hid (fun (W : World) (hW : Below wr.heap.size wr W) => toIntS_any (.slice Ar r.length cr) r W (hru.below hW) hrl)
      have HT0 := Lib.hid (HT.out wr (Below.refl _ _))
      have HRS := Lib.hid (cpR_succ hr)
      have HRL := Lib.hid (cpR_len rows (k := k) (by omega))
      have HG := Lib.hid hG
      have HB := Lib.hid hB
      have HC := Lib.hid c0
      clear hu hru hr hrl hG hB
      go_wp2_with fail
      refine HT0.out.mono ?_
      rintro e w4 ⟨A5, c5, rfl, o5, b5⟩
      have hG4 := HG.out.below b5
      have h1 := hG4.1
      rw [HRL.out] at h1
      have hul := hG4.len
      rw [HRL.out] at hul
      obtain ⟨u0, hu0⟩ : ∃ u, vs[k]? = some u := ⟨_, List.getElem?_eq_getElem (by omega)⟩
      have f0 := h1.cellAt k (by omega)
      rw [hu0] at f0
      have z0 := h1.frozenAt k
      have hgr := h1.lt w.heap.size rfl
      have HS : Hid (OwnG (w4.setCell ⟨w.heap.size, k, none⟩ (.slice A5 r.length c5)) w.heap.size (.slice (some ⟨w.heap.size, 0, none⟩) rows.length rows.length) (vs.set k (.slice A5 r.length c5)) (cpR rows (k + 1))) := by
        have h9 : OwnG w4 w.heap.size (.slice (some ⟨w.heap.size, 0, none⟩) (cpR rows k).length rows.length) vs (cpR rows k) := by rw [HRL.out]; exact hG4
        have hfr := OwnG.fresh HG.out (own_base o5 (Nat.le_refl _))
        have := OwnG.store h9 (by rw [HRL.out]; exact hlt) (own_base o5 (by have := HB.out.size; omega)) (fun i x b _ hx hb => hfr i x b hx hb)
        rw [HRS.out, HRL.out] at this
        exact this
      have HB5 := Lib.hid ((btrans HB.out b5).setCell (p := ⟨w.heap.size, k, none⟩) hgr.1 (.slice A5 r.length c5))
      clear hG4 h1 hul b5 o5 hu0 c0
      go_wp2_with fail
      go_roundg g2
      case measure => omega
      case rel => exact ⟨k + 1, _, by omega, by go_num, HS.out, HB5.out⟩
end Go.Proofs.YthgahkkjdpljjaaDoor.gridl
