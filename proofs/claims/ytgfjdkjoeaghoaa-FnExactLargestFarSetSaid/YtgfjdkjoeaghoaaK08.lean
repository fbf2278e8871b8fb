/- The contract of slices.Repeat of one number. -/
import Derived.Handy
import Derived.Test.YtgfjdkjoeaghoaaK02
import Derived.Laws.CopyOwn
import Derived.Deep.RegionLaw
import Derived.Test.YtgfjdkjoeaghoaaK07
import Derived.Test.YtgfjdkjoeaghoaaK03
import Derived.Test.YtgfjdkjoeaghoaaK04
import Derived.Deep.DeepCutAuto
import Derived.Deep.RegionHeld3
import Derived.Deep.QuietTactic
import Derived.Laws.BitsAllLaws
import Derived.StillTailTactics
namespace Go.Proofs.Ytgfjdkjoeaghoaa.reps
open Go.RowKit P2 words ints fns
set_option linter.unusedVariables false

end Go.Proofs.Ytgfjdkjoeaghoaa.reps

/- The contract of the model's l2Dist. -/
namespace Go.Proofs.Ytgfjdkjoeaghoaa.dists
open Go.RowKit P2 words edges ints owns good near adjs fns rets nearv sets grid reps
set_option linter.unusedVariables false

def J1 (l : List Ed) (a b : Nat) : Bool := adj l a b
noncomputable def distTo (n : Nat) (l : List Ed) (k : Nat) : List (List Int) := (List.range k).map fun x => dist n (J1 l) x
noncomputable def distG (n : Nat) (l : List Ed) : List (List Int) := distTo n l n
theorem distTo_len (n : Nat) (l : List Ed) (k : Nat) : (distTo n l k).length = k := by simp [distTo]
theorem distTo_succ (n : Nat) (l : List Ed) (k : Nat) : distTo n l (k + 1) = distTo n l k ++ [dist n (J1 l) k] := by simp [distTo, List.range_succ]
theorem cells_set1 (D : List Int) (y : Nat) (u : Int) : (cellsI D).set y (.int .i64 u) = cellsI (D.set y u) := by simp [cellsI, List.map_set]
theorem rep_succ (y : Nat) (x : Int) : cellsI (List.replicate (y + 1) x) = cellsI (List.replicate y x) ++ [.int .i64 x] := by simp [cellsI, List.replicate_succ']

/-- the row in the making -/
def RowH (wr wi : World) (n gr c5 : Nat) (D : List Int) : Prop := D.length = n ∧ wi.ownsRow wr.heap.size 3 1 (.slice (some ⟨gr, 0, none⟩) n c5) n (cellsI D) ∧ Below wr.heap.size wr wi

set_option maxHeartbeats 4000000 in
set_option maxRecDepth 100000 in
theorem l2Dist_any (n : Nat) (v : Value) (l : List Ed) (w : World) (h : Edges w v l) (hl : l.length ≤ 1048576) (hn8 : n ≤ 8) :
    Calls Try.prog 88 #[.agg #[.int .i64 (n : Int), v]] w fun e w' => ∃ A c us, e = .returned (.slice A (distG n l).length c) ∧ OwnG w' w.heap.size (.slice A (distG n l).length c) us (distG n l) ∧ Below w.heap.size w w' := by
  obtain ⟨i0, hi, hz0, hz1, hz2⟩ := info_parts infoInt
  obtain ⟨i1, hi1, hy0, hy1, hy2⟩ := info_parts infoRow
  obtain ⟨A, c, rfl, -⟩ := h.form
  have H := Lib.hid h
  have e_w := Below.refl w.heap.size w
  have G0 := Lib.hid ((Blk.new w 30 #[.int .i64 (n : Int), .slice A l.length c]).alloc (.cells #[] 37))
  have O0 : Hid (OwnG ((w.alloc (.cells #[.int .i64 (n : Int), .slice A l.length c] 30)).alloc (.cells #[] 37)) w.heap.size (.slice (some ⟨w.heap.size + 1, 0, none⟩) 0 0) [] (distTo n l 0)) := by
    refine ⟨?_, fun i u r hu => by simp at hu, fun i j u u' k _ hu => by simp at hu⟩
    have := own_new0 (w.alloc (.cells #[.int .i64 (n : Int), .slice A l.length c] 30)) 37 1
    rw [World.size_alloc] at this
    exact own_base this (by omega)
  have b0 : Below w.heap.size w ((w.alloc (.cells #[.int .i64 (n : Int), .slice A l.length c] 30)).alloc (.cells #[] 37)) := (by have hz_ := (e_w).size; have hb_ := e_w; go_grown)
  have B0 := Lib.hid b0
  clear h e_w b0
  go_enter Try.func88, Try.ntmps88
  go_wp2_with fail
  go_loopg [3, 4] n (fun g ov i wr => ∃ (x : Nat) (us : List Value) (v : Value), v = ov ∧ x + g = n ∧ i = .int .i64 (x : Int) ∧ OwnG wr w.heap.size v us (distTo n l x) ∧ Blk wr w.heap.size 30 #[.int .i64 (n : Int), .slice A l.length c] ∧ Below w.heap.size w wr)
  case atStart => exact ⟨0, [], _, rfl, by omega, rfl, O0.out, G0.out, B0.out⟩
  case round =>
    clear O0 G0 B0
    obtain ⟨x, us, ov, rfl, hxg, rfl, hown, hgb, hB⟩ := hrel
    obtain ⟨wo, hwo⟩ : ∃ wo, wo = wr := ⟨_, rfl⟩
    subst hwo
    obtain ⟨p0, p1, -, -⟩ := hgb.two
    have hlen := distTo_len n l x
    cases gk with
    | zero =>
      obtain rfl : x = n := by omega
      obtain ⟨A3, c3, rfl⟩ := own_form hown.1
      go_wp2_with fail
      go_ret
      exact ⟨A3, c3, us, rfl, hown, hB⟩
    | succ g2 =>
      have hx : x < n := by omega
      have hx' : (x : Int) < (n : Int) := by omega
      have HOWN := Lib.hid hown
      have HGB := Lib.hid hgb
      have HB := Lib.hid hB
      have hsg := hgb.lt
      have R0 := Lib.hid (own_new0 wo 3 1)
      have BR : Hid (Below wo.heap.size wo (wo.alloc (.cells #[] 3))) := (Below.refl _ _).alloc (Nat.le_refl _) _
      clear hown hgb hB hlen
      go_wp2_with fail
      go_loopg [5, 6] n (fun g3 rv i wi => ∃ (y : Nat) (v : Value), v = rv ∧ y + g3 = n ∧ i = .int .i64 (y : Int) ∧ wi.ownsRow wo.heap.size 3 1 v y (cellsI (List.replicate y (-1))) ∧ Below wo.heap.size wo wi)
      case atStart => exact ⟨0, _, rfl, by omega, rfl, R0.out, BR.out⟩
      case round =>
        clear p0 p1 R0 BR
        obtain ⟨y, rv, rfl, hyg, rfl, hrow, hBi⟩ := hrel
        have hgi := HGB.out.below hBi HGB.out.lt
        obtain ⟨p0, p1, -, -⟩ := hgi.two
        have hsz := hBi.size
        cases gk with
        | succ g4 =>
          have hy : y < n := by omega
          have hy' : (y : Int) < (n : Int) := by omega
          have hy8 : y ≤ 8 := by omega
          clear hgi
          go_wp2_with (at_builtin; refine wpList_append_own _ rfl _ _ 37 rfl wo.heap.size 3 i0 (.int .i64 0) 1 8 Try.underlying37 hi hz0 hz1 hz2 rfl (by decide) _ _ _ rfl (hrow.alloc _) ⟨wr.heap.size, 0, none⟩ 1 1 [.int .i64 (-1)] rfl rfl (cell_one_new _ _ _) (fun x hx => by simp at hx; subst hx; rfl) (by unfold maxLen; omega) (by omega) (by simp; omega) ?_; intro v2 w2 hown2 hgrow2 _)
          have HO : Hid (w2.ownsRow wo.heap.size 3 1 v2 (y + 1) (cellsI (List.replicate (y + 1) (-1)))) := by show World.ownsRow _ _ _ _ _ _ _; rw [rep_succ]; exact hown2
          have HBB := Lib.hid ((hBi.alloc hsz _).grown hgrow2 (by simp; omega) (fun j e => (hrow.lt j e).1))
          clear hown2 hgrow2 hrow hBi
          go_roundg g4
          case measure => omega
          case rel => exact ⟨y + 1, _, rfl, by omega, by go_num, HO.out, HBB.out⟩
        | zero =>
          obtain rfl : n = y := by omega
          obtain ⟨gr, c5, hf⟩ : ∃ g cap, rv = .slice (some ⟨g, 0, none⟩) n cap := by
            rcases hrow.2 with ⟨hf, h0⟩ | ⟨g, cap, cur, hf, _⟩
            · omega
            · exact ⟨g, cap, hf⟩
          subst hf
          have hgr := hrow.lt gr rfl
          have f0 := hrow.cellAt x (by simpa using hx)
          have f1 : (cellsI (List.replicate n (-1 : Int)))[x]? = some (.int .i64 (-1)) := by simp [cellsI, hx]
          rw [f1] at f0
          have z0 := hrow.frozenAt x
          have hst := (hrow.stored x (.int .i64 0)).1
          rw [cells_set1] at hst
          have H0 : Hid (RowH wo (wr.setCell ⟨gr, x, none⟩ (.int .i64 0)) n gr c5 ((List.replicate n (-1)).set x 0)) := ⟨by simp, hst, hBi.setCell hgr.1 _⟩
          have HP0 : Hid (IsPart n (J1 l) x 0 (fn ((List.replicate n (-1)).set x 0))) := by
            refine IsPart.zero (J1 l) _ ?_ ?_
            · rw [fn_set (by simpa using hx), if_pos rfl]
            · intro z hz hne
              rw [fn_set (by simpa using hx), if_neg hne]
              simp [fn, List.getD_eq_getElem?_getD, hz]
          have HGR := Lib.hid hgr
          clear hrow hst f1 hgi hBi hgr
          go_wp2_with fail
          go_loopg [7] n (fun g i wr => ∃ (k : Nat) (D : List Int), k + g = n ∧ i = .int .i64 (k : Int) ∧ RowH wo wr n gr c5 D ∧ Hid (IsPart n (J1 l) x k (fn D)))
          case atStart => exact ⟨0, _, by omega, rfl, H0.out, HP0⟩
          case round =>
            clear H0 HP0 p0 p1 f0 z0
            obtain ⟨k, D, hkg, rfl, hrow, hpart⟩ := hrel
            have hgi := HGB.out.below hrow.2.2 HGB.out.lt
            obtain ⟨p0, p1, -, -⟩ := hgi.two
            cases gk with
            | zero =>
              obtain rfl : n = k := by omega
              have HE : Hid (dist n (J1 l) x = D) := dist_eq hrow.1 hpart.out.done
              have HR := Lib.hid hrow
              have hown5 := (HOWN.out.below hrow.2.2).1
              have hsz := hrow.2.2.size
              have hszw := HB.out.size
              have hlen := distTo_len n l x
              have hll : us.length ≤ 8 := by rw [HOWN.out.len, hlen]; omega
              have HLEN := Lib.hid hlen
              rw [hlen] at hown5
              clear hrow hpart hgi hlen
              go_wp2_with (at_builtin; refine wpList_append_own _ rfl _ _ 25 rfl w.heap.size 37 i1 (.slice none 0 0) 1 24 Try.underlying25 hi1 hy0 hy1 hy2 rfl (by decide) _ _ _ rfl (hown5.alloc _) ⟨wr.heap.size, 0, none⟩ 1 1 [.slice (some ⟨gr, 0, none⟩) n c5] rfl rfl (cell_one_new _ _ _) (fun x hx => by simp at hx; subst hx; rfl) (by unfold maxLen; omega) (by omega) (by simp; omega) ?_; intro v6 w6 hown6 hgrow6 _)
              have HG6 : Hid (OwnG w6 w.heap.size v6 (us ++ [.slice (some ⟨gr, 0, none⟩) n c5]) (distTo n l (x + 1))) := by
                show OwnG _ _ _ _ _
                rw [distTo_succ, HE.out]
                have hD := HR.out.1
                exact OwnG.push HOWN.out HR.out.2.2 hszw (by rw [hD]; exact HR.out.2.1) (by rw [HLEN.out]; exact hown6) rfl hgrow6
              have HB6 := Lib.hid (((HB.out.trans (HR.out.2.2.mono hszw)).alloc (by omega) (.cells #[.slice (some ⟨gr, 0, none⟩) n c5] 37)).grown hgrow6 (by simp; omega) (fun j e => (hown5.lt j e).1))
              have HK6 : Hid (Blk w6 w.heap.size 30 #[.int .i64 (n : Int), .slice A l.length c]) := by
                have h1 := (HGB.out.below HR.out.2.2 HGB.out.lt).alloc (.cells #[.slice (some ⟨gr, 0, none⟩) n c5] 37)
                exact h1.grown hgrow6 (fun e => mids.own_ne hown5 (HGB.out.below HR.out.2.2 HGB.out.lt) (by decide) e.symm)
              clear hown6 hgrow6 hown5
              go_roundg g2
              case measure => omega
              case rel => exact ⟨x + 1, _, _, rfl, by omega, by go_num, HG6.out, HK6.out, HB6.out⟩
            | succ g5 =>
              have hk : k < n := by omega
              have hk' : (k : Int) < (n : Int) := by omega
              have HRW := Lib.hid hrow
              have HM0 : Hid (IsMid n (J1 l) x k 0 0 (fn D)) := hpart.out.mid
              clear hgi hrow hpart
              go_wp2_with fail
              go_loopg [8] n (fun g i wr => ∃ (y : Nat) (D : List Int), y + g = n ∧ i = .int .i64 (y : Int) ∧ RowH wo wr n gr c5 D ∧ Hid (IsMid n (J1 l) x k y 0 (fn D)))
              case atStart => exact ⟨0, _, by omega, rfl, HRW.out, HM0⟩
              case round =>
                clear HRW HM0 p0 p1
                obtain ⟨y, D, hyg, rfl, hrow, hmid⟩ := hrel
                have hgi := HGB.out.below hrow.2.2 HGB.out.lt
                obtain ⟨p0, p1, -, -⟩ := hgi.two
                cases gk with
                | zero =>
                  obtain rfl : n = y := by omega
                  have HRW := Lib.hid hrow
                  have HPD : Hid (IsPart n (J1 l) x (k + 1) (fn D)) := hmid.out.done
                  clear hgi hrow hmid
                  go_wp2_with fail
                  go_roundg g5
                  case measure => omega
                  case rel => exact ⟨k + 1, D, by omega, by go_num, HRW.out, HPD⟩
                | succ g6 =>
                  have hy : y < n := by omega
                  have hy' : (y : Int) < (n : Int) := by omega
                  have HRW := Lib.hid hrow
                  have HM0 : Hid (IsMid n (J1 l) x k y 0 (fn D)) := hmid
                  clear hgi hrow hmid
                  go_wp2_with fail
                  go_loopg [9] n (fun g i wr => ∃ (z : Nat) (D : List Int), z + g = n ∧ i = .int .i64 (z : Int) ∧ RowH wo wr n gr c5 D ∧ Hid (IsMid n (J1 l) x k y z (fn D)))
                  case atStart => exact ⟨0, _, by omega, rfl, HRW.out, HM0⟩
                  case round =>
                    clear HRW HM0 p0 p1
                    obtain ⟨z, D, hzg, rfl, hrow, hmid⟩ := hrel
                    have hgi := HGB.out.below hrow.2.2 HGB.out.lt
                    obtain ⟨p0, p1, -, -⟩ := hgi.two
                    cases gk with
                    | zero =>
                      obtain rfl : n = z := by omega
                      have HRW := Lib.hid hrow
                      have HPD : Hid (IsMid n (J1 l) x k (y + 1) 0 (fn D)) := hmid.out.next
                      clear hgi hrow hmid
                      go_wp2_with fail
                      go_roundg g6
                      case measure => omega
                      case rel => exact ⟨y + 1, D, by omega, by go_num, HRW.out, HPD⟩
                    | succ g7 =>
                      have hz : z < n := by omega
                      have hz' : (z : Int) < (n : Int) := by omega
                      have HRW := Lib.hid hrow
                      obtain ⟨hD, hro, hBi⟩ := hrow
                      obtain ⟨dy, hdy⟩ : ∃ dy, D[y]? = some dy := ⟨_, List.getElem?_eq_getElem (by omega)⟩
                      obtain ⟨dz, hdz⟩ : ∃ dz, D[z]? = some dz := ⟨_, List.getElem?_eq_getElem (by omega)⟩
                      have cy := hro.cellAt y (by omega)
                      have cz := hro.cellAt z (by omega)
                      rw [cellsI_at hdy] at cy
                      rw [cellsI_at hdz] at cz
                      have zz := hro.frozenAt z
                      have HFY := Lib.hid (fn_at hdy)
                      have HFZ := Lib.hid (fn_at hdz)
                      have HDL := Lib.hid hD
                      have HDZ := Lib.hid hdz
                      have HNR := Lib.hid (l2Near_any (n : Int) (y : Int) (z : Int) (.slice A l.length c) l wr (H.out.below (HB.out.trans (hBi.mono HB.out.size))) hl)
                      have HSK : Hid ((¬ (dy = k ∧ dz < 0 ∧ adj l (y : Int) (z : Int) = true)) → IsMid n (J1 l) x k y (z + 1) (fn D)) := fun hh => hmid.out.skip (fun hn => hh ⟨by rw [← HFY.out]; exact hn.1, by rw [← HFZ.out]; exact hn.2.1, hn.2.2⟩)
                      have HPU : Hid (dy = k → dz < 0 → adj l (y : Int) (z : Int) = true → IsMid n (J1 l) x k y (z + 1) (fn (D.set z ((k : Int) + 1)))) := fun h1 h2 h3 => by
                        have := hmid.out.put hy (by rw [HFY.out]; exact h1) (by rw [HFZ.out]; exact h2) h3
                        have e : fn (D.set z ((k : Int) + 1)) = fun w => if w = z then (k : Int) + 1 else fn D w := by
                          funext w; exact fn_set (by omega) _ w
                        rw [e]; exact this
                      clear hD hdy hdz hgi hmid
                      by_cases e1 : dy = (k : Int)
                      · have f1 : (dy == (k : Int)) = true := by simpa using e1
                        by_cases e2 : dz < 0
                        · have f2 : decide (dz < 0) = true := by simpa using e2
                          cases hj : adj l (y : Int) (z : Int) with
                          | true =>
                            rw [hj] at HNR
                            have HS := Lib.hid (HPU.out e1 e2 hj)
                            clear HPU HSK hj e1 e2 hBi hro
                            go_wp2_with fail
                            refine HNR.out.mono ?_
                            rintro e w3 ⟨rfl, b3⟩
                            have hro3 := own_below HRW.out.2.1 b3
                            have cz3 := hro3.cellAt z (by omega)
                            rw [cellsI_at HDZ.out] at cz3
                            have zz3 := hro3.frozenAt z
                            have hst3 := (hro3.stored z (.int .i64 ((k : Int) + 1))).1
                            rw [cells_set1] at hst3
                            have HR3 : Hid (RowH wo (w3.setCell ⟨gr, z, none⟩ (.int .i64 ((k : Int) + 1))) n gr c5 (D.set z ((k : Int) + 1))) := ⟨by rw [List.length_set]; exact HDL.out, hst3, (btrans HRW.out.2.2 b3).setCell HGR.out.1 _⟩
                            clear hro3 hst3 b3 cy cz zz p0 p1
                            go_wp2_with fail
                            go_roundg g7
                            case measure => omega
                            case rel => exact ⟨z + 1, _, by omega, by go_num, HR3.out, HS⟩
                          | false =>
                            rw [hj] at HNR
                            have HS := Lib.hid (HSK.out (fun hh => by rw [hj] at hh; exact absurd hh.2.2 (by simp)))
                            clear HPU HSK hj e1 e2 hBi hro
                            go_wp2_with fail
                            refine HNR.out.mono ?_
                            rintro e w3 ⟨rfl, b3⟩
                            have HR3 : Hid (RowH wo w3 n gr c5 D) := ⟨HDL.out, own_below HRW.out.2.1 b3, btrans HRW.out.2.2 b3⟩
                            clear b3 cy cz zz p0 p1
                            go_wp2_with fail
                            go_roundg g7
                            case measure => omega
                            case rel => exact ⟨z + 1, D, by omega, by go_num, HR3.out, HS⟩
                        · have f2 : decide (dz < 0) = false := by simpa using e2
                          have HS := Lib.hid (HSK.out (fun hh => e2 hh.2.1))
                          clear HPU HSK e1 e2 hBi hro
                          go_wp2_with fail
                          go_roundg g7
                          case measure => omega
                          case rel => exact ⟨z + 1, D, by omega, by go_num, HRW.out, HS⟩
                      · have f1 : (dy == (k : Int)) = false := by simpa using e1
                        have HS := Lib.hid (HSK.out (fun hh => e1 hh.1))
                        clear HPU HSK e1 hBi hro
                        go_wp2_with fail
                        go_roundg g7
                        case measure => omega
                        case rel => exact ⟨z + 1, D, by omega, by go_num, HRW.out, HS⟩
end Go.Proofs.Ytgfjdkjoeaghoaa.dists

/- Balls as sets of bits, and far sets: mathematics. -/
namespace Go.Proofs.Ytgfjdkjoeaghoaa.ups
open Go.RowKit P2 words edges ints good adjs fns sets rets covs bitsI bags
set_option linter.unusedVariables false

/-- the nodes that are at most r steps away -/
def bN (l : List Ed) (n x : Nat) : Nat → Nat
  | 0 => 2 ^ x
  | r + 1 => arN l n (bN l n x r)
def Wk (l : List Ed) (n : Nat) : Nat → Nat → Nat → Prop
  | 0, x, y => x = y
  | r + 1, x, y => ∃ z, z < n ∧ Wk l n r x z ∧ (z = y ∨ adj l z y = true)
theorem bN_iff {l : List Ed} {n x : Nat} (hx : x < n) : ∀ {r y : Nat}, (bN l n x r).testBit y = true ↔ y < n ∧ Wk l n r x y
  | 0, y => by
    unfold bN Wk
    rw [Nat.testBit_two_pow, decide_eq_true_iff]
    exact ⟨fun h => ⟨by omega, h⟩, fun h => h.2⟩
  | r + 1, y => by
    unfold bN Wk arN
    rw [numOf_bit, Bool.and_eq_true, decide_eq_true_iff, arB_iff]
    constructor
    · rintro ⟨h1, z, h2, h3, h4⟩
      exact ⟨h1, z, h2, ((bN_iff hx).1 h3).2, h4⟩
    · rintro ⟨h1, z, h2, h3, h4⟩
      exact ⟨h1, z, h2, (bN_iff hx).2 ⟨h2, h3⟩, h4⟩
theorem Wk.node {l : List Ed} {n : Nat} (hg : P2.Good (n : Int) l) {x : Nat} (hx : x < n) : ∀ {r y : Nat}, Wk l n r x y → y < n
  | 0, y, h => by unfold Wk at h; omega
  | r + 1, y, ⟨z, h1, h2, h3⟩ => by
    rcases h3 with rfl | h3
    · exact h1
    · have := (adj_node hg h3).2; omega
theorem Wk.front {l : List Ed} {n : Nat} (hg : P2.Good (n : Int) l) : ∀ {r x y : Nat}, x < n → (∃ z, z < n ∧ (x = z ∨ adj l x z = true) ∧ Wk l n r z y) → Wk l n (r + 1) x y
  | 0, x, y, hx, ⟨z, h1, h2, h3⟩ => by
    unfold Wk at h3
    subst h3
    exact ⟨x, hx, rfl, h2⟩
  | r + 1, x, y, hx, ⟨z, h1, h2, h3⟩ => by
    obtain ⟨u, h4, h5, h6⟩ := h3
    exact ⟨u, h4, Wk.front hg hx ⟨z, h1, h2, h5⟩, h6⟩
theorem Wk.symm {l : List Ed} {n : Nat} (hg : P2.Good (n : Int) l) : ∀ {r x y : Nat}, x < n → Wk l n r x y → Wk l n r y x
  | 0, x, y, _, h => Eq.symm (show x = y from h)
  | r + 1, x, y, hx, h => by
    have hy := Wk.node hg hx h
    obtain ⟨z, h1, h2, h3⟩ := h
    refine Wk.front hg hy ⟨z, h1, ?_, Wk.symm hg hx h2⟩
    rcases h3 with rfl | h3
    · exact .inl rfl
    · exact .inr (by rw [adj_comm]; exact h3)
/-- the balls are those of the distances -/
theorem wk_dist {l : List Ed} {n x : Nat} (hx : x < n) : ∀ {r y : Nat}, y < n → (Wk l n r x y ↔ 0 ≤ fn (dist n (J2 l) x) y ∧ fn (dist n (J2 l) x) y ≤ (r : Int))
  | 0, y, hy => by
    have hd := (dist_spec (n := n) (J2 l) hx).2
    unfold Wk
    constructor
    · rintro rfl
      rw [hd.at0]; omega
    · intro h
      exact (hd.only y hy (by omega)).symm
  | r + 1, y, hy => by
    have hd := (dist_spec (n := n) (J2 l) hx).2
    unfold Wk
    constructor
    · rintro ⟨z, h1, h2, h3⟩
      have h4 := (wk_dist hx h1).1 h2
      rcases h3 with rfl | h3
      · omega
      · have := hd.step z y h1 hy h4.1 h3; omega
    · intro h
      by_cases e : fn (dist n (J2 l) x) y ≤ (r : Int)
      · exact ⟨y, hy, (wk_dist hx hy).2 ⟨h.1, e⟩, .inl rfl⟩
      · obtain ⟨z, h1, h2, h3⟩ := hd.back y hy (by omega)
        exact ⟨z, h1, (wk_dist hx h1).2 (by omega), .inr h3⟩
theorem bN_lt (l : List Ed) {n x : Nat} (hx : x < n) (hn : n ≤ 8) (r : Nat) : bN l n x r < 256 := by
  cases r with
  | zero =>
    have h1 := Nat.pow_lt_pow_right (show 1 < 2 by decide) (show x < 8 by omega)
    have h2 : 2 ^ 8 = 256 := by decide
    unfold bN; omega
  | succ r => exact numOf_lt _ hn
def balN (l : List Ed) (n r : Nat) : List Nat := (List.range n).map fun x => bN l n x r
theorem bal_len (l : List Ed) (n r : Nat) : (balN l n r).length = n := by simp [balN]
theorem bal_at {l : List Ed} {n r k : Nat} (h : k < n) : (balN l n r)[k]? = some (bN l n k r) := by simp [balN, h]
/-- the first k balls, then what stands there, then noughts -/
def balT (l : List Ed) (n r k : Nat) : List Nat := (List.range k).map (fun x => bN l n x r) ++ List.replicate (n - k) 0
theorem balT_len {l : List Ed} {n r k : Nat} (h : k ≤ n) : (balT l n r k).length = n := by simp [balT]; omega
theorem balT_all (l : List Ed) (n r : Nat) : balT l n r n = balN l n r := by simp [balT, balN]
theorem balT_set {l : List Ed} {n r k : Nat} (h : k < n) (a : Nat) : (balT l n r k).set k (bN l n k r) = balT l n r (k + 1) := by
  unfold balT
  rw [show n - k = (n - (k + 1)) + 1 from by omega, List.replicate_succ, List.set_append_right _ _ (by simp), List.length_map, List.length_range, Nat.sub_self, List.set_cons_zero, List.range_succ, List.map_append, List.append_assoc]
  rfl

/-- no node of a set has another one of them in its ball -/
def farB (l : List Ed) (n r c : Nat) : Bool := !(ndN c).any fun x => !(bN l n x.toNat r &&& c == 2 ^ x.toNat)
def FarP (l : List Ed) (n r c : Nat) : Prop := ∀ x y, x < n → y < x → c.testBit x = true → c.testBit y = true → ¬ Wk l n r x y
theorem Wk.self {l : List Ed} {n : Nat} {x : Nat} (hx : x < n) : ∀ r, Wk l n r x x
  | 0 => rfl
  | r + 1 => ⟨x, hx, Wk.self hx r, .inl rfl⟩
theorem far_iff {l : List Ed} {n r c : Nat} (hg : P2.Good (n : Int) l) (hn : n ≤ 8) (hc : c < 2 ^ n) : farB l n r c = true ↔ FarP l n r c := by
  unfold farB
  rw [Bool.not_eq_true', List.any_eq_false, ← nd_bits hn hc]
  have hbit : ∀ x, c.testBit x = true → x < n := fun x hx => by
    by_cases e : x < n
    · exact e
    · rw [Nat.testBit_lt_two_pow (Nat.lt_of_lt_of_le hc (Nat.pow_le_pow_right (by decide) (by omega)))] at hx
      cases hx
  constructor
  · intro h x y hx hyx hcx hcy hw
    have h1 := h (x : Int) (mem_nw.2 ⟨x, hx, hcx, rfl⟩)
    rw [Int.toNat_natCast] at h1
    have h2 : bN l n x r &&& c = 2 ^ x := by simpa using h1
    have h3 : (bN l n x r &&& c).testBit y = true := by
      rw [Nat.testBit_and, hcy, (bN_iff hx).2 ⟨by omega, hw⟩]; rfl
    rw [h2, Nat.testBit_two_pow, decide_eq_true_iff] at h3
    omega
  · intro h x hx
    obtain ⟨j, hj, hcj, rfl⟩ := mem_nw.1 hx
    have hcj : c.testBit j = true := hcj
    rw [Int.toNat_natCast]
    have : bN l n j r &&& c = 2 ^ j := by
      apply Nat.eq_of_testBit_eq
      intro i
      rw [Nat.testBit_and, Nat.testBit_two_pow, Bool.eq_iff_iff, Bool.and_eq_true, decide_eq_true_iff]
      constructor
      · rintro ⟨h1, h2⟩
        have hi := hbit i h2
        have hw := ((bN_iff hj).1 h1).2
        rcases Nat.lt_trichotomy i j with e | e | e
        · exact absurd hw (h j i hj e hcj h2)
        · exact e.symm
        · exact absurd (Wk.symm hg hj hw) (h i j hi e h2 hcj)
      · rintro rfl
        exact ⟨(bN_iff hj).2 ⟨hj, Wk.self hj r⟩, hcj⟩
    simp [this]
theorem far_zero (l : List Ed) (n r : Nat) : farB l n r 0 = true := by
  unfold farB
  have : ndN 0 = [] := by decide
  rw [this]; rfl
noncomputable def lfN (l : List Ed) (n k : Nat) : Nat := bestC (farB l n (2 * k - 2)) rkMax n
end Go.Proofs.Ytgfjdkjoeaghoaa.ups

/- The contract of the program's firstSet: the best set for which a test holds. -/
namespace Go.Proofs.Ytgfjdkjoeaghoaa.ups
open Go.RowKit P2 words edges ints good adjs fns sets rets covs bitsI func
set_option linter.unusedVariables false

theorem FnU.on {w w' : World} {f : FuncId} {caps : Array Value} {xs : List Nat} {p : Nat → Bool} (h : FnU w f caps xs p) (hb : Below w.heap.size w w') : FnU w' f caps xs p :=
  { enter := h.enter, call := fun W hW x hx => h.call W (btrans hb hW) x hx }
end Go.Proofs.Ytgfjdkjoeaghoaa.ups

/- Spreads: mathematics. -/
namespace Go.Proofs.Ytgfjdkjoeaghoaa.ups
open Go.RowKit P2 words edges ints good adjs fns sets rets covs bitsI bags
set_option linter.unusedVariables false

theorem ones_mono {a b : Nat} (h : ∀ k, k < 8 → bitB a k = true → bitB b k = true) : onesN a ≤ onesN b := by
  unfold onesN nw
  rw [List.length_map, List.length_map, ← List.countP_eq_length_filter, ← List.countP_eq_length_filter]
  exact List.countP_mono_left fun k hk => h k (List.mem_range.1 hk)
theorem ones_put' : ∀ d : Fin 256, ∀ x : Fin 8, d.1.testBit x.1 = false → onesN (d.1 ||| 2 ^ x.1) = onesN d.1 + 1 := by decide +kernel
theorem ones_put {d x : Nat} (hd : d < 256) (hx : x < 8) (h : d.testBit x = false) : onesN (d ||| 2 ^ x) = onesN d + 1 := ones_put' ⟨d, hd⟩ ⟨x, hx⟩ h
theorem put_bit (d x k : Nat) : (d ||| 2 ^ x).testBit k = (d.testBit k || decide (x = k)) := by rw [Nat.testBit_or, Nat.testBit_two_pow]
theorem put_same {d x : Nat} (h : d.testBit x = true) : d ||| 2 ^ x = d := by
  apply Nat.eq_of_testBit_eq
  intro k
  rw [put_bit]
  by_cases e : x = k
  · subst e; simp [h]
  · simp [e]
/-- how many nodes of a set are in the closed neighborhood of a node -/
def insN (l : List Ed) (c x : Nat) : Nat := onesN (cloB l x &&& c)
theorem ins_mono {l : List Ed} {c d : Nat} (h : ∀ k, c.testBit k = true → d.testBit k = true) (x : Nat) : insN l c x ≤ insN l d x :=
  ones_mono fun k _ hk => by
    unfold bitB at hk ⊢
    rw [Nat.testBit_and, Bool.and_eq_true] at hk ⊢
    exact ⟨hk.1, h k hk.2⟩
def AddS (n : Nat) (l : List Ed) (r d x : Nat) : Prop := x < n ∧ d.testBit x = false ∧ r ≤ insN l d x
inductive Spr (n : Nat) (l : List Ed) (r c : Nat) : Nat → Prop
  | base : Spr n l r c c
  | step {d x : Nat} : Spr n l r c d → AddS n l r d x → Spr n l r c (d ||| 2 ^ x)
def Stops (n : Nat) (l : List Ed) (r d : Nat) : Prop := ∀ x, ¬ AddS n l r d x
theorem spr_sub {n : Nat} {l : List Ed} {r c d : Nat} (h : Spr n l r c d) : ∀ k, c.testBit k = true → d.testBit k = true := by
  induction h with
  | base => exact fun _ h => h
  | step _ _ ih => exact fun k hk => by rw [put_bit, ih k hk]; rfl
theorem spr_lt {n : Nat} {l : List Ed} {r c d : Nat} (h : Spr n l r c d) (hc : c < 2 ^ n) : d < 2 ^ n := by
  induction h with
  | base => exact hc
  | step _ ha ih => exact Nat.or_lt_two_pow ih (Nat.pow_lt_pow_right (by decide) ha.1)
theorem spr_in {n : Nat} {l : List Ed} {r c d e : Nat} (h : Spr n l r c d) (he : Stops n l r e) (hs : ∀ k, c.testBit k = true → e.testBit k = true) : ∀ k, d.testBit k = true → e.testBit k = true := by
  induction h with
  | base => exact hs
  | @step d x _ ha ih =>
    intro k hk
    rw [put_bit, Bool.or_eq_true, decide_eq_true_iff] at hk
    rcases hk with hk | rfl
    · exact ih k hk
    · cases hb : e.testBit x with
      | true => rfl
      | false => exact absurd ⟨ha.1, hb, Nat.le_trans ha.2.2 (ins_mono ih x)⟩ (he x)
theorem spr_same {n : Nat} {l : List Ed} {r c d e : Nat} (hd : Spr n l r c d) (sd : Stops n l r d) (he : Spr n l r c e) (se : Stops n l r e) : d = e := by
  apply Nat.eq_of_testBit_eq
  intro k
  rw [Bool.eq_iff_iff]
  exact ⟨spr_in hd se (spr_sub he) k, spr_in he sd (spr_sub hd) k⟩
/-- the spread -/
noncomputable def spN (n : Nat) (l : List Ed) (r c : Nat) : Nat := Classical.epsilon fun d => Spr n l r c d ∧ Stops n l r d
theorem spN_is {n : Nat} {l : List Ed} {r c d : Nat} (hd : Spr n l r c d) (sd : Stops n l r d) : spN n l r c = d := by
  have h := Classical.epsilon_spec (p := fun d => Spr n l r c d ∧ Stops n l r d) ⟨d, hd, sd⟩
  exact spr_same h.1 h.2 hd sd
/-- a set has all nodes -/
theorem ones_full : ∀ n : Fin 9, ∀ d : Fin 256, d.1 < 2 ^ n.1 → (onesN d.1 = n.1 ↔ d.1 = 2 ^ n.1 - 1) := by decide +kernel
theorem ones_top : ∀ n : Fin 9, ∀ d : Fin 256, d.1 < 2 ^ n.1 → onesN d.1 ≤ n.1 := by decide +kernel
theorem full_stops {n : Nat} {l : List Ed} {r d : Nat} (h : d = 2 ^ n - 1) : Stops n l r d := fun x hx => by
  have h2 := hx.2.1
  rw [h, Nat.testBit_two_pow_sub_one, decide_eq_false_iff_not] at h2
  exact h2 hx.1
/-- the neighbors of a node that are in a set without it -/
theorem ins_len {n : Nat} {l : List Ed} {d x : Nat} (hg : P2.Good (n : Int) l) (hn : n ≤ 8) (hd : d < 2 ^ n) (hx : d.testBit x = false) : (nw (fun y => bitB d y && adj l (y : Int) (x : Int)) n).length = insN l d x := by
  unfold insN onesN
  rw [nw_congr (q := bitB (cloB l x &&& d)) (n := n) (fun k hk => by
    unfold bitB
    rw [Nat.testBit_and, cloB_bit hg, adj_comm, Bool.and_comm]
    by_cases e : x = k
    · subst e; rw [hx]; simp
    · have : (x == k) = false := by simpa using e
      rw [this, Bool.false_or])]
  rw [nw_more hn fun k h1 _ => ?_]
  unfold bitB
  rw [Nat.testBit_and, Nat.testBit_lt_two_pow (Nat.lt_of_lt_of_le hd (Nat.pow_le_pow_right (by decide) h1)), Bool.and_false]
/-- neighbors of a node of a set that are not in it -/
theorem out_len {n : Nat} {l : List Ed} {d x : Nat} (hg : P2.Good (n : Int) l) (hn : n ≤ 8) (hx : d.testBit x = true) (q : Nat → Bool) (hq : ∀ z, z < n → q z = ((cloB l x).testBit z && !d.testBit z)) : (nw (fun y => adj l (x : Int) (y : Int)) n).length = (nw (fun y => bitB d y && adj l (y : Int) (x : Int)) n).length + onesN (numOf q n) := by
  rw [ones_num _ hn]
  rw [nw_congr (p := q) (q := fun y => !bitB d y && adj l (y : Int) (x : Int)) (fun k hk => by
    rw [hq k hk, cloB_bit hg, adj_comm, Bool.and_comm]
    unfold bitB
    by_cases e : x = k
    · subst e; rw [hx]; simp
    · have : (x == k) = false := by simpa using e
      rw [this, Bool.false_or])]
  unfold nw
  rw [List.length_map, List.length_map, List.length_map, ← List.countP_eq_length_filter, ← List.countP_eq_length_filter, ← List.countP_eq_length_filter]
  have h := List.countP_eq_countP_filter_add (List.range n) (fun y : Nat => adj l (x : Int) (y : Int)) (bitB d)
  rw [h, List.countP_filter, List.countP_filter]
  congr 1
  · congr 1; funext y; rw [adj_comm, Bool.and_comm]
  · congr 1; funext y; rw [adj_comm, Bool.and_comm]
end Go.Proofs.Ytgfjdkjoeaghoaa.ups

/- The contracts of the program's closedAround, connectedIn and bagOf. -/
namespace Go.Proofs.Ytgfjdkjoeaghoaa.bitsI
open Go.RowKit P2 words edges ints good adjs fns sets rets covs bags
set_option linter.unusedVariables false

theorem andNot_num (a : Nat) (p : Nat → Bool) (n : Nat) (ha : a < 18446744073709551616) (hn : n ≤ 8) (q : Nat → Bool) (hq : ∀ z, z < 64 → (a.testBit z && !(decide (z < n) && p z)) = (decide (z < n) && q z)) :
    bits .andNot .u64 (a : Int) (numOf p n : Int) = (numOf q n : Int) := by
  have hb := numOf_lt p hn
  rw [u64_andNot_nat a _ ha (by omega)]
  congr 1
  apply Nat.eq_of_testBit_eq
  intro i
  rw [Nat.testBit_and, show (18446744073709551615 - numOf p n) = 2 ^ 64 - (numOf p n + 1) from by omega, Nat.testBit_two_pow_sub_succ (by omega), numOf_bit, numOf_bit]
  by_cases hi : i < 64
  · rw [← hq i hi]; simp [hi]
  · have h1 : decide (i < 64) = false := decide_eq_false hi
    have h2 : decide (i < n) = false := decide_eq_false (by omega)
    rw [h1, h2]; simp
theorem num_one {n x : Nat} (hx : x < n) : numOf (fun y => decide (y = x)) n = 2 ^ x := by
  apply Nat.eq_of_testBit_eq
  intro i
  rw [numOf_bit, Nat.testBit_two_pow]
  by_cases e : i = x
  · subst e; simp [hx]
  · have h9 : ¬ x = i := fun h => e h.symm
    simp [e, h9]
theorem num_or_one (p : Nat → Bool) {n x : Nat} (hx : x < n) : numOf p n ||| 2 ^ x = numOf (reach.pput p x) n := by
  apply Nat.eq_of_testBit_eq
  intro i
  rw [Nat.testBit_or, numOf_bit, numOf_bit, Nat.testBit_two_pow]
  unfold reach.pput
  by_cases e : i = x
  · subst e; simp [hx]
  · have h9 : ¬ x = i := fun h => e h.symm
    simp [e, h9]
set_option maxHeartbeats 1000000 in
set_option maxRecDepth 100000 in
theorem closedAround_any (n c : Nat) (v : Value) (l : List Ed) (w : World) (h : Nums w v (clos l n)) (hg : P2.Good (n : Int) l) (hn : n ≤ 8) (hc : c < 256) :
    Calls Try.prog 106 #[v, .int .u64 (c : Int)] w fun e w' => e = .returned (.int .u64 (arN l n c : Int)) ∧ w = w' := by
  obtain ⟨A, cc, rfl, hcl⟩ := h.form
  have HC := Lib.hid hcl
  have HG := Lib.hid hg
  have hlen := clos_len l n
  rw [hlen]
  clear h hcl hg hlen
  go_enter Try.func106, Try.ntmps106
  go_wp2_with fail
  go_loop [5, 10] (fun s i => ∃ k : Nat, k ≤ n ∧ i = .int .i64 (k : Int) ∧ s = .int .u64 (arK l c k : Int)) (fun _ i => n - (intOf i).toNat)
  case atStart => exact ⟨0, Nat.zero_le _, rfl, rfl⟩
  case round =>
    obtain ⟨k, hk, rfl, rfl⟩ := hrel
    by_cases hlt : k < n
    · have hlt' : (k : Int) < (n : Int) := by omega
      obtain ⟨g, o, rfl, c0⟩ := HC.out k _ (clos_at hlt)
      have HH := Lib.hid (fun (W : World) => has_any c k W (by omega) (by omega))
      cases hb : c.testBit k with
      | true =>
        have HN := Lib.hid (arK_yes (l := l) hb)
        have HT : Hid (bits .or .u64 (arK l c k : Int) (cloB l k : Int) = ((arK l c k ||| cloB l k : Nat) : Int)) :=
          bits_or_u64_nat _ _ (by have := arK_lt HG.out c (k := k) (by omega); omega) (by have := cloB_lt' HG.out k (by omega); omega)
        rw [hb] at HH
        clear hb
        go_wp2_with fail
        refine (HH.out _).mono ?_
        rintro e w' ⟨rfl, rfl⟩
        go_wp2_with fail
        go_round
        case rel => exact ⟨k + 1, by omega, by go_num, by rw [HN.out, HT.out]⟩
        case measure => simp [intOf]; omega
      | false =>
        have HN := Lib.hid (arK_no (l := l) hb)
        rw [hb] at HH
        clear hb
        go_wp2_with fail
        refine (HH.out _).mono ?_
        rintro e w' ⟨rfl, rfl⟩
        go_wp2_with fail
        go_round
        case rel => exact ⟨k + 1, by omega, by go_num, by rw [HN.out]⟩
        case measure => simp [intOf]; omega
    · obtain rfl : k = n := by omega
      have HE := Lib.hid (arK_all HG.out c)
      go_wp2_with fail
      go_ret
      exact ⟨ret_int (by rw [HE.out]), rfl⟩
end Go.Proofs.Ytgfjdkjoeaghoaa.bitsI
