/- The contract of the model's l3Times. -/
import Derived.Handy
import Derived.Test.YtgbdgenlmmofeaaDoorTimeS
import Derived.Test.YtgbdgenlmmofeaaDoorTimeT
import Derived.Test.YtgbdgenlmmofeaaDoorGridW
import Derived.Test.YtgbdgenlmmofeaaDoorGridL
namespace Go.Proofs.YtgbdgenlmmofeaaDoor.times
open Go.RowKit P2 words edges ints owns good adjs fns sets rets covs balls minmax gridr grid gridl
set_option linter.unusedVariables false

/-- so many rows of a table -/
def tabT (n : Nat) (T : Nat → Nat → Int) (k : Nat) : List (List Int) := (List.range k).map fun p => rowL n (T p)
theorem tabT_len (n : Nat) (T : Nat → Nat → Int) (k : Nat) : (tabT n T k).length = k := by simp [tabT]
theorem tabT_succ (n : Nat) (T : Nat → Nat → Int) (k : Nat) : tabT n T (k + 1) = tabT n T k ++ [rowL n (T k)] := by simp [tabT, List.range_succ]
theorem tabT_all (n : Nat) (T : Nat → Nat → Int) : tabT n T n = tabL n T := rfl
theorem rowL_succ (f : Nat → Int) (r : Nat) : rowL (r + 1) f = rowL r f ++ [f r] := by simp [rowL, List.range_succ]
def T0 (l : List Ed) (n : Nat) : Nat → Nat → Int := tmTo (one l n) 0
theorem T0_at (l : List Ed) (n c r : Nat) : T0 l n c r = if ((c : Int) == (r : Int)) = true then 0 else -1 := by
  show (if (c == r) = true then (0 : Int) else -1) = _
  by_cases h : c = r
  · subst h; simp
  · rw [if_neg (by simpa using h), if_neg (by simp; omega)]
theorem tabL_congr {n : Nat} {T U : Nat → Nat → Int} (h : ∀ p r, p < n → r < n → T p r = U p r) : tabL n T = tabL n U := by
  unfold tabL rowL
  refine List.map_congr_left fun p hp => List.map_congr_left fun r hr => h p r (List.mem_range.1 hp) (List.mem_range.1 hr)
def mixL (n : Nat) (T U : Nat → Int) (r : Nat) : List Int := (List.range n).map fun x => if x < r then U x else T x
theorem mixL_len (n : Nat) (T U : Nat → Int) (r : Nat) : (mixL n T U r).length = n := by simp [mixL]
theorem mixL_zero (n : Nat) (T U : Nat → Int) : mixL n T U 0 = rowL n T := by simp [mixL, rowL]
theorem mixL_all (n : Nat) (T U : Nat → Int) : mixL n T U n = rowL n U := by
  unfold mixL rowL
  exact List.map_congr_left fun x hx => if_pos (List.mem_range.1 hx)
theorem mixL_at {n r : Nat} {T U : Nat → Int} (h : r < n) : (mixL n T U r)[r]? = some (T r) := by simp [mixL, h]
theorem mixL_put {n r : Nat} {T U : Nat → Int} (h : r < n) : (mixL n T U r).set r (U r) = mixL n T U (r + 1) := by
  refine List.ext_getElem? fun x => ?_
  by_cases e : x = r
  · subst e
    rw [List.getElem?_set_self (by rw [mixL_len]; exact h)]
    simp [mixL, h]
  · rw [List.getElem?_set_ne (fun hh => e hh.symm)]
    by_cases hx : x < n
    · simp only [mixL, List.getElem?_map, List.getElem?_range hx, Option.map_some]
      by_cases h1 : x < r
      · rw [if_pos h1, if_pos (by omega)]
      · rw [if_neg h1, if_neg (by omega)]
    · rw [List.getElem?_eq_none (by rw [mixL_len]; omega), List.getElem?_eq_none (by rw [mixL_len]; omega)]
theorem mixL_keep {n r : Nat} {T U : Nat → Int} (h : r < n) (e : U r = T r) : mixL n T U (r + 1) = mixL n T U r := by
  rw [← mixL_put h, e]
  refine List.ext_getElem? fun x => ?_
  by_cases ex : x = r
  · subst ex
    rw [List.getElem?_set_self (by rw [mixL_len]; exact h), mixL_at h]
  · rw [List.getElem?_set_ne (fun hh => ex hh.symm)]
theorem grid_cell {w : World} {B i n c : Nat} {A : Option Addr} {us : List Value} {u : Value} (h : w.ownsRow B 26 1 (.slice A n c) n us) (hu : us[i]? = some u) :
    ∃ g, A = some ⟨g, 0, none⟩ ∧ w.cell? ⟨g, i, none⟩ = some u ∧ B ≤ g ∧ g < w.heap.size := by
  have hi := (List.getElem?_eq_some_iff.1 hu).1
  have hl := h.1
  rcases h.2 with ⟨hf, _⟩ | ⟨g, cap, cur, hf, _⟩
  · have := congrArg (fun v => match v with | .slice _ n _ => n | _ => 0) hf
    simp at this
    omega
  · obtain ⟨rfl, rfl⟩ : A = some ⟨g, 0, none⟩ ∧ c = cap := by simpa using hf
    have := h.cellAt i (by omega)
    rw [hu] at this
    exact ⟨g, rfl, this, (h.lt g rfl).1, (h.lt g rfl).2⟩
theorem row_tab {w : World} {B n p : Nat} {A : Option Addr} {c : Nat} {us : List Value} {T : Nat → Nat → Int} (h : OwnG w B (.slice A (tabL n T).length c) us (tabL n T)) (hp : p < n) :
    ∃ g A5 c5, A = some ⟨g, 0, none⟩ ∧ w.cell? ⟨g, p, none⟩ = some (.slice A5 (rowL n (T p)).length c5) ∧ Ints w (.slice A5 (rowL n (T p)).length c5) (rowL n (T p)) := by
  obtain ⟨u5, hu5, o5⟩ := h.row (tabL_at (T := T) hp)
  obtain ⟨A5, c5, rfl⟩ := own_form o5
  obtain ⟨g, rfl, f5, _⟩ := grid_cell h.1 hu5
  exact ⟨g, A5, c5, rfl, f5, Reads.of_own o5⟩
theorem cells_set4 (D : List Int) (y : Nat) (u : Int) : (cellsI D).set y (.int .i64 u) = cellsI (D.set y u) := by simp [cellsI, List.map_set]
set_option maxHeartbeats 8000000 in
set_option maxRecDepth 100000 in
theorem l3Times_any (n : Nat) (v : Value) (l : List Ed) (w : World) (h : Edges w v l) (hl : l.length ≤ 1048576) (hn8 : n ≤ 8) :
    Calls Tryd.prog 35 #[.agg #[.int .i64 (n : Int), v]] w fun e w' => ∃ A c us, e = .returned (.slice A (tabL n (tms (one l n))).length c) ∧ OwnG w' w.heap.size (.slice A (tabL n (tms (one l n))).length c) us (tabL n (tms (one l n))) ∧ Below w.heap.size w w' := by
  obtain ⟨i0, hi, hz0, hz1, hz2⟩ := info_parts infoInt
  obtain ⟨i1, hi1, hy0, hy1, hy2⟩ := info_parts infoRow
  obtain ⟨A, c, rfl, -⟩ := h.form
  have H := Lib.hid h
  have HB0 : Hid (Below w.heap.size w ((w.alloc (.cells #[.int .i64 (n : Int), .slice A l.length c] 29)).alloc (.cells #[] 26))) := ((Below.refl _ _).alloc (Nat.le_refl _) _).alloc (by simp) _
  have HG0 := Lib.hid ((Blk.new w 29 #[.int .i64 (n : Int), .slice A l.length c]).alloc (.cells #[] 26))
  have HO0 : Hid (OwnG ((w.alloc (.cells #[.int .i64 (n : Int), .slice A l.length c] 29)).alloc (.cells #[] 26)) w.heap.size (.slice (some ⟨w.heap.size + 1, 0, none⟩) 0 0) [] (tabT n (T0 l n) 0)) := by
    have h_ := own_new0 (w.alloc (.cells #[.int .i64 (n : Int), .slice A l.length c] 29)) 26 1
    rw [World.size_alloc] at h_
    exact ⟨own_base h_ (by omega), fun i u r hu => by simp at hu, fun i j u u' k _ hu => by simp at hu⟩
  clear h
  go_enter Tryd.func35, Tryd.ntmps35
  go_wp2_with fail
  go_loopg [3, 4] n (fun g ov cv wr => ∃ (c9 : Nat) (ow : Value) (us : List Value), ow = ov ∧ c9 + g = n ∧ cv = .int .i64 (c9 : Int) ∧ OwnG wr w.heap.size ow us (tabT n (T0 l n) c9) ∧ Blk wr w.heap.size 29 #[.int .i64 (n : Int), .slice A l.length c] ∧ Below w.heap.size w wr)
  case atStart => exact ⟨0, _, _, rfl, by omega, rfl, HO0.out, HG0.out, HB0.out⟩
  case round =>
    clear HO0 HG0 HB0
    obtain ⟨c9, ow, us, rfl, hcg, rfl, hG, hgb, hB⟩ := hrel
    obtain ⟨p0, p1, -, -⟩ := hgb.two
    cases gk with
    | zero =>
      obtain rfl : c9 = n := by omega
      rw [tabT_all] at hG
      have HG := Lib.hid hG
      have HGB := Lib.hid hgb
      have HB := Lib.hid hB
      clear hG hgb hB
      have hnn : c9 * c9 ≤ 8 * 8 := Nat.mul_le_mul hn8 hn8
      go_wp2_with fail
      go_loopg [3, 7] (c9 * c9 + 1) (fun g ov bv wr => ∃ (t : Nat) (b : Bool) (ow : Value) (us : List Value), ow = ov ∧ bv = .bool b ∧ t + g ≤ c9 * c9 + 1 ∧ Hid ((b = true → c9 * c9 + 1 ≤ g + cnt (one l c9) t) ∧ (b = false → Stable (one l c9) t)) ∧
        OwnG wr w.heap.size ow us (tabL c9 (tmTo (one l c9) t)) ∧ Blk wr w.heap.size 29 #[.int .i64 (c9 : Int), .slice A l.length c] ∧ Below w.heap.size w wr)
      case atStart => exact ⟨0, true, _, _, rfl, rfl, by omega, ⟨fun _ => by omega, fun h => by cases h⟩, HG.out, HGB.out, HB.out⟩
      case round =>
        clear HG HGB HB p0 p1
        obtain ⟨t, b, ow, us, rfl, rfl, htg, hst, hG, hgb, hB⟩ := hrel
        obtain ⟨p0, p1, -, -⟩ := hgb.two
        cases b with
        | false =>
          have hstab := hst.out.2 rfl
          rw [tabL_congr (n := c9) (U := tms (one l c9)) (fun p r hp hr => (tms_eq hstab hp hr).symm)] at hG
          obtain ⟨A4, c4, rfl⟩ := own_form hG.1
          have HG := Lib.hid hG
          have HB := Lib.hid hB
          clear hG hgb hB hst hstab
          go_wp2_with fail
          go_ret
          exact ⟨A4, c4, us, rfl, HG.out, HB.out⟩
        | true =>
          have hfu := hst.out.1 rfl
          have hcl : cnt (one l c9) t ≤ c9 * c9 := cnt_le (one l c9) t
          cases gk with
          | zero => exfalso; omega
          | succ g3 =>
            obtain ⟨wo, hwo⟩ : ∃ wo, wo = wr := ⟨_, rfl⟩
            subst hwo
            obtain ⟨A4, c4, rfl⟩ := own_form hG.1
            have HG := Lib.hid hG
            have HGB := Lib.hid hgb
            have HB := Lib.hid hB
            have HFU := Lib.hid hfu
            have hsz := hgb.lt
            have ht64 : t ≤ 65 := by omega
            have HN0 : Hid (OwnG (wo.alloc (.cells #[] 26)) wo.heap.size (.slice (some ⟨wo.heap.size, 0, none⟩) 0 0) [] (tabT c9 (tmTo (one l c9) (t + 1)) 0)) := ⟨own_new0 wo 26 1, fun i u r hu => by simp at hu, fun i j u u' k _ hu => by simp at hu⟩
            have HB1 : Hid (Below wo.heap.size wo (wo.alloc (.cells #[] 26))) := (Below.refl _ _).alloc (Nat.le_refl _) _
            clear hG hgb hB hst hfu hcl
            go_wp2_with fail
            go_loopg [7, 8, 9] c9 (fun g bv nv cv wr => ∃ (q : Nat) (b : Bool) (nw9 : Value) (us2 : List Value), nw9 = nv ∧ bv = .bool b ∧ q + g = c9 ∧ cv = .int .i64 (q : Int) ∧ Hid ((b = true → ¬ Stable (one l c9) t) ∧ (b = false → ∀ p r, p < q → r < c9 → win (one l c9) (t + 1) p r = true → win (one l c9) t p r = true)) ∧
              OwnG wr wo.heap.size nw9 us2 (tabT c9 (tmTo (one l c9) (t + 1)) q) ∧ Below wo.heap.size wo wr)
            case atStart => exact ⟨0, false, _, _, rfl, rfl, by omega, rfl, ⟨fun h => (by cases h), fun _ p r hp => by omega⟩, HN0.out, HB1.out⟩
            case round =>
              clear HN0 HB1 p0 p1
              obtain ⟨q, b, nw9, us2, rfl, rfl, hqg, rfl, hch, hN, hB1⟩ := hrel
              have hgi := HGB.out.below hB1 HGB.out.lt
              obtain ⟨p0, p1, -, -⟩ := hgi.two
              cases gk with
              | zero =>
                obtain rfl : q = c9 := by omega
                have HREL : Hid ((b = true → q * q + 1 ≤ g3 + cnt (one l q) (t + 1)) ∧ (b = false → Stable (one l q) (t + 1))) := by
                  refine ⟨fun hb => ?_, fun hb => ?_⟩
                  · have := cnt_grow (hch.out.1 hb)
                    have := HFU.out
                    omega
                  · exact Stable.next (hch.out.2 hb)
                have HN := Lib.hid (hN.base HB.out.size)
                have HB5 := Lib.hid (btrans HB.out hB1)
                have HG5 := Lib.hid hgi
                clear hN hB1 hgi hch
                go_wp2_with fail
                go_roundg g3
                case measure => omega
                case rel => exact ⟨t + 1, b, _, us2, rfl, rfl, by omega, HREL, HN.out, HG5.out, HB5.out⟩
              | succ g4 =>
                have hqn : q < c9 := by omega
                have hqn' : (q : Int) < (c9 : Int) := by omega
                have hG1 := HG.out.below hB1
                obtain ⟨gr, A5, c5, rfl, f5, hI⟩ := row_tab hG1 hqn
                have hql : (q : Int) < ((tabL c9 (tmTo (one l c9) t)).length : Int) := by rw [tabL_len]; omega
                have hrl := rowL_len c9 (tmTo (one l c9) t q)
                have HOW := Lib.hid (l1Own_any _ (rowL c9 (tmTo (one l c9) t q)) wr hI (by omega))
                have HRD := Lib.hid (readsG_of_own HG.out)
                have HN := Lib.hid hN
                have HB2 := Lib.hid hB1
                have HRL := Lib.hid hrl
                clear hG1 hI hN hB1 hgi hrl
                go_wp2_with fail
                refine HOW.out.mono ?_
                rintro e w5 ⟨A6, c6, rfl, o6, b6⟩
                rw [HRL.out] at o6
                obtain ⟨gd, cap, hf⟩ : ∃ g cap, Value.slice A6 c9 c6 = .slice (some ⟨g, 0, none⟩) c9 cap := by
                  rcases o6.2 with ⟨hf, h0⟩ | ⟨g, cap, cur, hf, _⟩
                  · have := congrArg (fun v => match v with | .slice _ n _ => n | _ => 0) hf
                    simp at this
                    omega
                  · exact ⟨g, cap, hf⟩
                obtain ⟨rfl, rfl⟩ : A6 = some ⟨gd, 0, none⟩ ∧ c6 = cap := by simpa using hf
                rw [HRL.out]
                have HR5 : Hid (w5.ownsRow wr.heap.size 3 1 (.slice (some ⟨gd, 0, none⟩) c9 c6) c9 (cellsI (mixL c9 (tmTo (one l c9) t q) (tmTo (one l c9) (t + 1) q) 0))) := by
                  show World.ownsRow _ _ _ _ _ _ _
                  rw [mixL_zero]; exact o6
                have HB6 := Lib.hid b6
                obtain ⟨wi, hwi⟩ : ∃ wi, wi = wr := ⟨_, rfl⟩
                subst hwi
                clear hf o6 b6 p0 p1 f5
                go_wp2_with fail
                go_loopg [7, 11] c9 (fun g bv rv wr => ∃ (r : Nat) (b : Bool), bv = .bool b ∧ r + g = c9 ∧ rv = .int .i64 (r : Int) ∧ Hid ((b = true → ¬ Stable (one l c9) t) ∧ (b = false → (∀ p r, p < q → r < c9 → win (one l c9) (t + 1) p r = true → win (one l c9) t p r = true) ∧ ∀ r', r' < r → win (one l c9) (t + 1) q r' = true → win (one l c9) t q r' = true)) ∧
                  wr.ownsRow wi.heap.size 3 1 (.slice (some ⟨gd, 0, none⟩) c9 c6) c9 (cellsI (mixL c9 (tmTo (one l c9) t q) (tmTo (one l c9) (t + 1) q) r)) ∧ Below wi.heap.size wi wr)
                case atStart => exact ⟨0, b, rfl, by omega, rfl, ⟨hch.out.1, fun hb => ⟨hch.out.2 hb, fun r' hr => by omega⟩⟩, HR5.out, HB6.out⟩
                case round =>
                  clear HR5 HB6
                  obtain ⟨r, b, rfl, hrg, rfl, hch, hrow, hB6⟩ := hrel
                  have HBW := Lib.hid (btrans HB2.out hB6)
                  have hgi := HGB.out.below HBW.out HGB.out.lt
                  obtain ⟨p0, p1, -, -⟩ := hgi.two
                  cases gk with
                  | zero =>
                    obtain rfl : r = c9 := by omega
                    rw [mixL_all] at hrow
                    have HCH : Hid ((b = true → ¬ Stable (one l r) t) ∧ (b = false → ∀ p x, p < q + 1 → x < r → win (one l r) (t + 1) p x = true → win (one l r) t p x = true)) := by
                      refine ⟨hch.out.1, fun hb p x hp hx hw => ?_⟩
                      by_cases e : p = q
                      · subst e; exact (hch.out.2 hb).2 x hx hw
                      · exact (hch.out.2 hb).1 p x (by omega) hx hw
                    have HT := Lib.hid (tabT_succ r (tmTo (one l r) (t + 1)) q)
                    have hlu := rowL_len r (tmTo (one l r) (t + 1) q)
                    have HU5 : Hid (wr.ownsRow wi.heap.size 3 1 (.slice (some ⟨gd, 0, none⟩) r c6) (rowL r (tmTo (one l r) (t + 1) q)).length (cellsI (rowL r (tmTo (one l r) (t + 1) q)))) := by
                      show World.ownsRow _ _ _ _ _ _ _
                      rw [hlu]; exact hrow
                    have hul : us2.length ≤ 8 := by rw [HN.out.len, tabT_len]; omega
                    have htl : (tabT r (tmTo (one l r) (t + 1)) q).length ≤ 8 := by rw [tabT_len]; omega
                    have hown5 := (HN.out.below hB6).1
                    have hszw := HB2.out.size
                    have hszw2 := HBW.out.size
                    have HB7 := Lib.hid hB6
                    clear hlu hrow hB6 hgi hch
                    generalize tabT r (tmTo (one l r) (t + 1)) q = rows at *
                    generalize rowL r (tmTo (one l r) (t + 1) q) = row9 at *
                    obtain ⟨A9, c8, rfl⟩ := own_form hown5
                    go_wp2_with (at_builtin; refine wpList_append_own _ rfl _ _ 57 rfl wo.heap.size 26 i1 (.slice none 0 0) 1 24 Tryd.underlying57 hi1 hy0 hy1 hy2 rfl (by decide) _ _ _ rfl (hown5.alloc _) ⟨wr.heap.size, 0, none⟩ 1 1 [.slice (some ⟨gd, 0, none⟩) r c6] rfl rfl (cell_one_new _ _ _) (fun x hx => by simp at hx; subst hx; rfl) (by unfold maxLen; omega) (by omega) (by simp; omega) ?_; intro v6 w6 hown6 hgrow6 _)
                    have HG6 := Lib.hid (OwnG.push HN.out HB7.out hszw HU5.out hown6 rfl hgrow6)
                    have HB8 := Lib.hid ((HBW.out.alloc (by omega) (.cells #[.slice (some ⟨gd, 0, none⟩) r c6] 26)).grown hgrow6 (by simp; omega) (fun j e => (hown5.lt j e).1))
                    clear hown6 hgrow6 hown5
                    go_roundg g4
                    case measure => omega
                    case rel => exact ⟨q + 1, b, _, _, rfl, rfl, by omega, by go_num, HCH, by rw [HT.out]; exact HG6.out, HB8.out⟩
                  | succ g6 =>
                    have hrn : r < c9 := by omega
                    have hrn' : (r : Int) < (c9 : Int) := by omega
                    have cr := hrow.cellAt r (by omega)
                    rw [cellsI_at (mixL_at hrn)] at cr
                    have zr := hrow.frozenAt r
                    have hgd := hrow.lt gd rfl
                    have HBE := Lib.hid (l3Best_any c9 q r (tmTo (one l c9) t) (.slice A l.length c) _ us l wr (H.out.below (btrans HB.out HBW.out)) hl (HRD.out.below HBW.out) hn8 hqn hrn)
                    have HNY := Lib.hid (next_yes (l := l) (n := c9) (t := t) (c := q) (r := r))
                    have HNN := Lib.hid (next_no (l := l) (n := c9) (t := t) (c := q) (r := r))
                    have hbv : bestL (fun x => afterV (tmTo (one l c9) t) (ballL l c9) x.toNat r) (ballL l c9 q) = bestV l c9 t q r := rfl
                    rw [hbv] at HBE
                    have hsm := tm_small (G := one l c9) (t + 1) q r
                    have HMP := Lib.hid (mixL_put (T := tmTo (one l c9) t q) (U := tmTo (one l c9) (t + 1) q) hrn)
                    have HMK := Lib.hid (mixL_keep (T := tmTo (one l c9) t q) (U := tmTo (one l c9) (t + 1) q) hrn)
                    have HROW := Lib.hid hrow
                    have HB7 := Lib.hid hB6
                    by_cases hyes : tmTo (one l c9) t q r < 0 ∧ 0 ≤ bestV l c9 t q r
                    · obtain ⟨e1, hw0, hw1⟩ := HNY.out hyes.1 hyes.2
                      have HNS : Hid (¬ Stable (one l c9) t) := fun hs => by
                        have h_ := hs q r hqn hrn hw1
                        rw [hw0] at h_
                        cases h_
                      have h1 := hyes.1
                      have h2 := hyes.2
                      have d1 : decide (tmTo (one l c9) t q r < 0) = true := decide_eq_true h1
                      have d2 : decide (0 ≤ bestV l c9 t q r) = true := decide_eq_true h2
                      have hwr : IntKind.i64.wrap (bestV l c9 t q r + 1) = bestV l c9 t q r + 1 := IntWalk.i64_in _ (by omega)
                      rw [e1] at HMP
                      clear e1 hw0 hw1 hyes hbv hsm HMK HNY HNN hrow hB6 hgi hch
                      generalize bestV l c9 t q r = bs at *
                      generalize tmTo (one l c9) t q r = tv at *
                      go_wp2_with fail
                      refine HBE.out.mono ?_
                      rintro e w7 ⟨rfl, b7⟩
                      have hr7 := own_below HROW.out b7
                      have q7 := nearv.cell_keep cr b7
                      have z7 := hr7.frozenAt r
                      have HR7 := Lib.hid (hr7.stored r (.int .i64 (bs + 1))).1
                      have HB8 := Lib.hid ((btrans HB7.out b7).setCell (p := ⟨gd, r, none⟩) hgd.1 (.int .i64 (bs + 1)))
                      clear hr7 b7 cr zr p0 p1
                      go_wp2_with fail
                      go_roundg g6
                      case measure => omega
                      case rel => exact ⟨r + 1, true, rfl, by omega, by go_num, ⟨fun _ => HNS.out, fun h => (by cases h)⟩, by have h_ := HR7.out; rw [cells_set4, HMP.out] at h_; exact h_, HB8.out⟩
                    · obtain ⟨e1, hw1⟩ := HNN.out hyes
                      have HK9 := Lib.hid (HMK.out e1)
                      have HCN : Hid ((b = true → ¬ Stable (one l c9) t) ∧ (b = false → (∀ p x, p < q → x < c9 → win (one l c9) (t + 1) p x = true → win (one l c9) t p x = true) ∧ ∀ r', r' < r + 1 → win (one l c9) (t + 1) q r' = true → win (one l c9) t q r' = true)) := by
                        refine ⟨hch.out.1, fun hb => ⟨(hch.out.2 hb).1, fun r' hr' hw => ?_⟩⟩
                        by_cases e : r' = r
                        · subst e; exact hw1 hw
                        · exact (hch.out.2 hb).2 r' (by omega) hw
                      clear e1 hw1 hbv hsm HMP HMK HNY HNN hrow hB6 hgi hch
                      generalize bestV l c9 t q r = bs at *
                      generalize tmTo (one l c9) t q r = tv at *
                      by_cases h1 : tv < 0
                      · have h2 : ¬ 0 ≤ bs := fun hh => hyes ⟨h1, hh⟩
                        have d1 : decide (tv < 0) = true := decide_eq_true h1
                        have d2 : decide (0 ≤ bs) = false := decide_eq_false h2
                        clear hyes
                        go_wp2_with fail
                        refine HBE.out.mono ?_
                        rintro e w7 ⟨rfl, b7⟩
                        have HR7 := Lib.hid (own_below HROW.out b7)
                        have HB8 := Lib.hid (btrans HB7.out b7)
                        have q7 := nearv.cell_keep cr b7
                        clear b7 cr zr p0 p1
                        go_wp2_with fail
                        go_roundg g6
                        case measure => omega
                        case rel => exact ⟨r + 1, b, rfl, by omega, by go_num, HCN, by rw [HK9.out]; exact HR7.out, HB8.out⟩
                      · have d1 : decide (tv < 0) = false := decide_eq_false h1
                        clear hyes
                        go_wp2_with fail
                        refine HBE.out.mono ?_
                        rintro e w7 ⟨rfl, b7⟩
                        have HR7 := Lib.hid (own_below HROW.out b7)
                        have HB8 := Lib.hid (btrans HB7.out b7)
                        have q7 := nearv.cell_keep cr b7
                        clear b7 cr zr p0 p1
                        go_wp2_with fail
                        go_roundg g6
                        case measure => omega
                        case rel => exact ⟨r + 1, b, rfl, by omega, by go_num, HCN, by rw [HK9.out]; exact HR7.out, HB8.out⟩
    | succ g2 =>
      have hcn : c9 < n := by omega
      have hcn' : (c9 : Int) < (n : Int) := by omega
      obtain ⟨wo, hwo⟩ : ∃ wo, wo = wr := ⟨_, rfl⟩
      subst hwo
      have HG := Lib.hid hG
      have HGB := Lib.hid hgb
      have HB := Lib.hid hB
      have hsz := hgb.lt
      have HR0 : Hid ((wo.alloc (.cells #[] 3)).ownsRow wo.heap.size 3 1 (.slice (some ⟨wo.heap.size, 0, none⟩) 0 0) (rowL 0 (T0 l n c9)).length (cellsI (rowL 0 (T0 l n c9)))) := own_new0 wo 3 1
      have HB1 : Hid (Below wo.heap.size wo (wo.alloc (.cells #[] 3))) := (Below.refl _ _).alloc (Nat.le_refl _) _
      clear hG hgb hB
      go_wp2_with fail
      go_loopg [5, 6] n (fun g rv iv wr => ∃ (r : Nat) (rw9 : Value), rw9 = rv ∧ r + g = n ∧ iv = .int .i64 (r : Int) ∧ wr.ownsRow wo.heap.size 3 1 rw9 (rowL r (T0 l n c9)).length (cellsI (rowL r (T0 l n c9))) ∧ Below wo.heap.size wo wr)
      case atStart => exact ⟨0, _, rfl, by omega, rfl, HR0.out, HB1.out⟩
      case round =>
        clear HR0 HB1 p0 p1
        obtain ⟨r, rw9, rfl, hrg, rfl, hrow, hB1⟩ := hrel
        have hgi := HGB.out.below hB1 HGB.out.lt
        obtain ⟨p0, p1, -, -⟩ := hgi.two
        have hlr := rowL_len r (T0 l n c9)
        have hrl : (rowL r (T0 l n c9)).length ≤ 8 := by omega
        cases gk with
        | zero =>
          obtain rfl : r = n := by omega
          have hG5 := HG.out.below hB1
          have HU5 := Lib.hid hrow
          have hul : us.length ≤ 8 := by rw [HG.out.len, tabT_len]; omega
          have htl : (tabT r (T0 l r) c9).length ≤ 8 := by rw [tabT_len]; omega
          have hszw := HB.out.size
          have hszw2 := hB1.size
          have HB5 := Lib.hid (btrans HB.out hB1)
          have HK5 := Lib.hid hgi
          have HT := Lib.hid (tabT_succ r (T0 l r) c9)
          have hown5 := hG5.1
          have HBW := Lib.hid hB1
          clear hlr hgi hG5 hrow hB1
          generalize tabT r (T0 l r) c9 = rows at *
          obtain ⟨A9, c8, rfl⟩ := own_form hown5
          obtain ⟨A7, c7, rfl⟩ := own_form HU5.out
          go_wp2_with (at_builtin; refine wpList_append_own _ rfl _ _ 57 rfl w.heap.size 26 i1 (.slice none 0 0) 1 24 Tryd.underlying57 hi1 hy0 hy1 hy2 rfl (by decide) _ _ _ rfl (hown5.alloc _) ⟨wr.heap.size, 0, none⟩ 1 1 [.slice A7 (rowL r (T0 l r c9)).length c7] rfl rfl (cell_one_new _ _ _) (fun x hx => by simp at hx; subst hx; rfl) (by unfold maxLen; omega) (by omega) (by simp; omega) ?_; intro v6 w6 hown6 hgrow6 _)
          have HG6 := Lib.hid (OwnG.push HG.out HBW.out hszw HU5.out hown6 rfl hgrow6)
          have HK6 := Lib.hid ((HK5.out.alloc (.cells #[.slice A7 (rowL r (T0 l r c9)).length c7] 26)).grown hgrow6 (fun e => mids.own_ne hown5 HK5.out (by decide) e.symm))
          have HB6 := Lib.hid ((HB5.out.alloc (by omega) (.cells #[.slice A7 (rowL r (T0 l r c9)).length c7] 26)).grown hgrow6 (by simp; omega) (fun j e => (hown5.lt j e).1))
          clear hown6 hgrow6 hown5
          go_roundg g2
          case measure => omega
          case rel => exact ⟨c9 + 1, _, _, rfl, by omega, by go_num, by rw [HT.out]; exact HG6.out, HK6.out, HB6.out⟩
        | succ g4 =>
          have hrn' : (r : Int) < (n : Int) := by omega
          have HTA := Lib.hid (T0_at l n c9 r)
          have HRS := Lib.hid (rowL_succ (T0 l n c9) r)
          have HSG := Lib.hid (l3Sign_any ((c9 : Int) == (r : Int)) wr)
          rw [← HTA.out] at HSG
          have HB2 := Lib.hid hB1
          have hsz2 := hB1.size
          clear hlr hgi hB1
          generalize T0 l n c9 r = d at *
          generalize rowL r (T0 l n c9) = m at *
          go_wp2_with fail
          refine HSG.out.mono ?_
          rintro e w' ⟨rfl, rfl⟩
          go_wp2_with (at_builtin; refine wpList_append_own _ rfl _ _ 26 rfl (wo.heap.size) 3 i0 (.int .i64 0) 1 8 Tryd.underlying26 hi hz0 hz1 hz2 rfl (by decide) _ _ _ rfl (hrow.alloc _) ⟨wr.heap.size, 0, none⟩ 1 1 [.int .i64 (d)] rfl rfl (cell_one_new _ _ _) (fun x hx => by simp at hx; subst hx; rfl) (by unfold maxLen; omega) (by omega) (by simp; omega) ?_; intro v2 w2 hown2 hgrow2 _)
          obtain ⟨hown3, hB3⟩ := push1 hrow hown2 hgrow2 (by omega)
          rw [← HRS.out] at hown3
          have HO3 := Lib.hid hown3
          have HB3 := Lib.hid (HB2.out.trans hB3)
          clear hown2 hgrow2 hown3 hB3
          go_roundg g4
          case measure => omega
          case rel => exact ⟨r + 1, _, rfl, by omega, by go_num, HO3.out, HB3.out⟩
end Go.Proofs.YtgbdgenlmmofeaaDoor.times
