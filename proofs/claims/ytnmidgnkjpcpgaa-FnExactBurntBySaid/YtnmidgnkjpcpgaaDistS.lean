/- The contract of the model's l2Dist. -/
import Derived.Handy
import Derived.Test.YtnmidgnkjpcpgaaDist
import Derived.Test.YtnmidgnkjpcpgaaGrid
import Derived.Test.YtnmidgnkjpcpgaaRepeat
import Derived.Test.YtnmidgnkjpcpgaaNearV
import Derived.Test.YtnmidgnkjpcpgaaSets
namespace Go.Proofs.Ytnmidgnkjpcpgaa.dists
open Go.RowKit P2 words edges ints owns good near adjs fns rets nearv sets grid reps
set_option linter.unusedVariables false

def J1 (l : List Ed) (a b : Nat) : Bool := adj l a b
noncomputable def distTo (n : Nat) (l : List Ed) (k : Nat) : List (List Int) := (List.range k).map fun x => dist n (J1 l) x
noncomputable def distG (n : Nat) (l : List Ed) : List (List Int) := distTo n l n
theorem distTo_len (n : Nat) (l : List Ed) (k : Nat) : (distTo n l k).length = k := by simp [distTo]
theorem distTo_succ (n : Nat) (l : List Ed) (k : Nat) : distTo n l (k + 1) = distTo n l k ++ [dist n (J1 l) k] := by simp [distTo, List.range_succ]
theorem cells_set1 (D : List Int) (y : Nat) (u : Int) : (cellsI D).set y (.int .i64 u) = cellsI (D.set y u) := by simp [cellsI, List.map_set]
theorem rep_succ (y : Nat) (x : Int) : cellsI (List.replicate (y + 1) x) = cellsI (List.replicate y x) ++ [.int .i64 x] := by simp [cellsI, List.replicate_succ']

/-- the row in the making -/
def RowH (wr wi : World) (n gr c5 : Nat) (D : List Int) : Prop := D.length = n ∧ wi.ownsRow wr.heap.size 3 1 (.slice (some ⟨gr, 0, none⟩) n c5) n (cellsI D) ∧ Below wr.heap.size wr wi

set_option maxHeartbeats 4000000 in
set_option maxRecDepth 100000 in
theorem l2Dist_any (n : Nat) (v : Value) (l : List Ed) (w : World) (h : Edges w v l) (hl : l.length ≤ 1048576) (hn8 : n ≤ 8) :
    Calls Try.prog 76 #[.agg #[.int .i64 (n : Int), v]] w fun e w' => ∃ A c us, e = .returned (.slice A (distG n l).length c) ∧ OwnG w' w.heap.size (.slice A (distG n l).length c) us (distG n l) ∧ Below w.heap.size w w' := by
  obtain ⟨i0, hi, hz0, hz1, hz2⟩ := info_parts infoInt
  obtain ⟨i1, hi1, hy0, hy1, hy2⟩ := info_parts infoRow
  obtain ⟨A, c, rfl, -⟩ := h.form
  have H := Lib.hid h
  have e_w := Below.refl w.heap.size w
  have G0 := Lib.hid ((Blk.new w 29 #[.int .i64 (n : Int), .slice A l.length c]).alloc (.cells #[] 25))
  have O0 : Hid (OwnG ((w.alloc (.cells #[.int .i64 (n : Int), .slice A l.length c] 29)).alloc (.cells #[] 25)) w.heap.size (.slice (some ⟨w.heap.size + 1, 0, none⟩) 0 0) [] (distTo n l 0)) := by
    refine ⟨?_, fun i u r hu => by simp at hu, fun i j u u' k _ hu => by simp at hu⟩
    have := own_new0 (w.alloc (.cells #[.int .i64 (n : Int), .slice A l.length c] 29)) 25 1
    rw [World.size_alloc] at this
    exact own_base this (by omega)
  have b0 : Below w.heap.size w ((w.alloc (.cells #[.int .i64 (n : Int), .slice A l.length c] 29)).alloc (.cells #[] 25)) := (by have hz_ := (e_w).size; have hb_ := e_w; go_grown)
  have B0 := Lib.hid b0
  clear h e_w b0
  go_enter Try.func76, Try.ntmps76
  go_wp2_with fail
  go_loopg [3, 4] n (fun g ov i wr => ∃ (x : Nat) (us : List Value) (v : Value), v = ov ∧ x + g = n ∧ i = .int .i64 (x : Int) ∧ OwnG wr w.heap.size v us (distTo n l x) ∧ Blk wr w.heap.size 29 #[.int .i64 (n : Int), .slice A l.length c] ∧ Below w.heap.size w wr)
  case atStart => exact ⟨0, [], _, rfl, by omega, rfl, O0.out, G0.out, B0.out⟩
  case round =>
    clear O0 G0 B0
    obtain ⟨x, us, ov, rfl, hxg, rfl, hown, hgb, hB⟩ := hrel
    obtain ⟨wo, hwo⟩ : ∃ wo, wo = wr := ⟨_, rfl⟩
    subst hwo
    obtain ⟨p0, p1, -, -⟩ := hgb.two
    have hlen := distTo_len n l x
    cases gk with
    | zero =>
      obtain rfl : x = n := by omega
      obtain ⟨A3, c3, rfl⟩ := own_form hown.1
      go_wp2_with fail
      go_ret
      exact ⟨A3, c3, us, rfl, hown, hB⟩
    | succ g2 =>
      have hx : x < n := by omega
      have hx' : (x : Int) < (n : Int) := by omega
      have HOWN := Lib.hid hown
      have HGB := Lib.hid hgb
      have HB := Lib.hid hB
      have hsg := hgb.lt
      have R0 := Lib.hid (own_new0 wo 3 1)
      have BR : Hid (Below wo.heap.size wo (wo.alloc (.cells #[] 3))) := (Below.refl _ _).alloc (Nat.le_refl _) _
      clear hown hgb hB hlen
      go_wp2_with fail
      go_loopg [5, 6] n (fun g3 rv i wi => ∃ (y : Nat) (v : Value), v = rv ∧ y + g3 = n ∧ i = .int .i64 (y : Int) ∧ wi.ownsRow wo.heap.size 3 1 v y (cellsI (List.replicate y (-1))) ∧ Below wo.heap.size wo wi)
      case atStart => exact ⟨0, _, rfl, by omega, rfl, R0.out, BR.out⟩
      case round =>
        clear p0 p1 R0 BR
        obtain ⟨y, rv, rfl, hyg, rfl, hrow, hBi⟩ := hrel
        have hgi := HGB.out.below hBi HGB.out.lt
        obtain ⟨p0, p1, -, -⟩ := hgi.two
        have hsz := hBi.size
        cases gk with
        | succ g4 =>
          have hy : y < n := by omega
          have hy' : (y : Int) < (n : Int) := by omega
          have hy8 : y ≤ 8 := by omega
          clear hgi
          go_wp2_with (at_builtin; refine wpList_append_own _ rfl _ _ 25 rfl wo.heap.size 3 i0 (.int .i64 0) 1 8 Try.underlying25 hi hz0 hz1 hz2 rfl (by decide) _ _ _ rfl (hrow.alloc _) ⟨wr.heap.size, 0, none⟩ 1 1 [.int .i64 (-1)] rfl rfl (cell_one_new _ _ _) (fun x hx => by simp at hx; subst hx; rfl) (by unfold maxLen; omega) (by omega) (by simp; omega) ?_; intro v2 w2 hown2 hgrow2 _)
          have HO : Hid (w2.ownsRow wo.heap.size 3 1 v2 (y + 1) (cellsI (List.replicate (y + 1) (-1)))) := by show World.ownsRow _ _ _ _ _ _ _; rw [rep_succ]; exact hown2
          have HBB := Lib.hid ((hBi.alloc hsz _).grown hgrow2 (by simp; omega) (fun j e => (hrow.lt j e).1))
          clear hown2 hgrow2 hrow hBi
          go_roundg g4
          case measure => omega
          case rel => exact ⟨y + 1, _, rfl, by omega, by go_num, HO.out, HBB.out⟩
        | zero =>
          obtain rfl : n = y := by omega
          obtain ⟨gr, c5, hf⟩ : ∃ g cap, rv = .slice (some ⟨g, 0, none⟩) n cap := by
            rcases hrow.2 with ⟨hf, h0⟩ | ⟨g, cap, cur, hf, _⟩
            · omega
            · exact ⟨g, cap, hf⟩
          subst hf
          have hgr := hrow.lt gr rfl
          have f0 := hrow.cellAt x (by simpa using hx)
          have f1 : (cellsI (List.replicate n (-1 : Int)))[x]? = some (.int .i64 (-1)) := by simp [cellsI, hx]
          rw [f1] at f0
          have z0 := hrow.frozenAt x
          have hst := (hrow.stored x (.int .i64 0)).1
          rw [cells_set1] at hst
          have H0 : Hid (RowH wo (wr.setCell ⟨gr, x, none⟩ (.int .i64 0)) n gr c5 ((List.replicate n (-1)).set x 0)) := ⟨by simp, hst, hBi.setCell hgr.1 _⟩
          have HP0 : Hid (IsPart n (J1 l) x 0 (fn ((List.replicate n (-1)).set x 0))) := by
            refine IsPart.zero (J1 l) _ ?_ ?_
            · rw [fn_set (by simpa using hx), if_pos rfl]
            · intro z hz hne
              rw [fn_set (by simpa using hx), if_neg hne]
              simp [fn, List.getD_eq_getElem?_getD, hz]
          have HGR := Lib.hid hgr
          clear hrow hst f1 hgi hBi hgr
          go_wp2_with fail
          go_loopg [7] n (fun g i wr => ∃ (k : Nat) (D : List Int), k + g = n ∧ i = .int .i64 (k : Int) ∧ RowH wo wr n gr c5 D ∧ Hid (IsPart n (J1 l) x k (fn D)))
          case atStart => exact ⟨0, _, by omega, rfl, H0.out, HP0⟩
          case round =>
            clear H0 HP0 p0 p1 f0 z0
            obtain ⟨k, D, hkg, rfl, hrow, hpart⟩ := hrel
            have hgi := HGB.out.below hrow.2.2 HGB.out.lt
            obtain ⟨p0, p1, -, -⟩ := hgi.two
            cases gk with
            | zero =>
              obtain rfl : n = k := by omega
              have HE : Hid (dist n (J1 l) x = D) := dist_eq hrow.1 hpart.out.done
              have HR := Lib.hid hrow
              have hown5 := (HOWN.out.below hrow.2.2).1
              have hsz := hrow.2.2.size
              have hszw := HB.out.size
              have hlen := distTo_len n l x
              have hll : us.length ≤ 8 := by rw [HOWN.out.len, hlen]; omega
              have HLEN := Lib.hid hlen
              rw [hlen] at hown5
              clear hrow hpart hgi hlen
              go_wp2_with (at_builtin; refine wpList_append_own _ rfl _ _ 49 rfl w.heap.size 25 i1 (.slice none 0 0) 1 24 Try.underlying49 hi1 hy0 hy1 hy2 rfl (by decide) _ _ _ rfl (hown5.alloc _) ⟨wr.heap.size, 0, none⟩ 1 1 [.slice (some ⟨gr, 0, none⟩) n c5] rfl rfl (cell_one_new _ _ _) (fun x hx => by simp at hx; subst hx; rfl) (by unfold maxLen; omega) (by omega) (by simp; omega) ?_; intro v6 w6 hown6 hgrow6 _)
              have HG6 : Hid (OwnG w6 w.heap.size v6 (us ++ [.slice (some ⟨gr, 0, none⟩) n c5]) (distTo n l (x + 1))) := by
                show OwnG _ _ _ _ _
                rw [distTo_succ, HE.out]
                have hD := HR.out.1
                exact OwnG.push HOWN.out HR.out.2.2 hszw (by rw [hD]; exact HR.out.2.1) (by rw [HLEN.out]; exact hown6) rfl hgrow6
              have HB6 := Lib.hid (((HB.out.trans (HR.out.2.2.mono hszw)).alloc (by omega) (.cells #[.slice (some ⟨gr, 0, none⟩) n c5] 25)).grown hgrow6 (by simp; omega) (fun j e => (hown5.lt j e).1))
              have HK6 : Hid (Blk w6 w.heap.size 29 #[.int .i64 (n : Int), .slice A l.length c]) := by
                have h1 := (HGB.out.below HR.out.2.2 HGB.out.lt).alloc (.cells #[.slice (some ⟨gr, 0, none⟩) n c5] 25)
                exact h1.grown hgrow6 (fun e => mids.own_ne hown5 (HGB.out.below HR.out.2.2 HGB.out.lt) (by decide) e.symm)
              clear hown6 hgrow6 hown5
              go_roundg g2
              case measure => omega
              case rel => exact ⟨x + 1, _, _, rfl, by omega, by go_num, HG6.out, HK6.out, HB6.out⟩
            | succ g5 =>
              have hk : k < n := by omega
              have hk' : (k : Int) < (n : Int) := by omega
              have HRW := Lib.hid hrow
              have HM0 : Hid (IsMid n (J1 l) x k 0 0 (fn D)) := hpart.out.mid
              clear hgi hrow hpart
              go_wp2_with fail
              go_loopg [8] n (fun g i wr => ∃ (y : Nat) (D : List Int), y + g = n ∧ i = .int .i64 (y : Int) ∧ RowH wo wr n gr c5 D ∧ Hid (IsMid n (J1 l) x k y 0 (fn D)))
              case atStart => exact ⟨0, _, by omega, rfl, HRW.out, HM0⟩
              case round =>
                clear HRW HM0 p0 p1
                obtain ⟨y, D, hyg, rfl, hrow, hmid⟩ := hrel
                have hgi := HGB.out.below hrow.2.2 HGB.out.lt
                obtain ⟨p0, p1, -, -⟩ := hgi.two
                cases gk with
                | zero =>
                  obtain rfl : n = y := by omega
                  have HRW := Lib.hid hrow
                  have HPD : Hid (IsPart n (J1 l) x (k + 1) (fn D)) := hmid.out.done
                  clear hgi hrow hmid
                  go_wp2_with fail
                  go_roundg g5
                  case measure => omega
                  case rel => exact ⟨k + 1, D, by omega, by go_num, HRW.out, HPD⟩
                | succ g6 =>
                  have hy : y < n := by omega
                  have hy' : (y : Int) < (n : Int) := by omega
                  have HRW := Lib.hid hrow
                  have HM0 : Hid (IsMid n (J1 l) x k y 0 (fn D)) := hmid
                  clear hgi hrow hmid
                  go_wp2_with fail
                  go_loopg [9] n (fun g i wr => ∃ (z : Nat) (D : List Int), z + g = n ∧ i = .int .i64 (z : Int) ∧ RowH wo wr n gr c5 D ∧ Hid (IsMid n (J1 l) x k y z (fn D)))
                  case atStart => exact ⟨0, _, by omega, rfl, HRW.out, HM0⟩
                  case round =>
                    clear HRW HM0 p0 p1
                    obtain ⟨z, D, hzg, rfl, hrow, hmid⟩ := hrel
                    have hgi := HGB.out.below hrow.2.2 HGB.out.lt
                    obtain ⟨p0, p1, -, -⟩ := hgi.two
                    cases gk with
                    | zero =>
                      obtain rfl : n = z := by omega
                      have HRW := Lib.hid hrow
                      have HPD : Hid (IsMid n (J1 l) x k (y + 1) 0 (fn D)) := hmid.out.next
                      clear hgi hrow hmid
                      go_wp2_with fail
                      go_roundg g6
                      case measure => omega
                      case rel => exact ⟨y + 1, D, by omega, by go_num, HRW.out, HPD⟩
                    | succ g7 =>
                      have hz : z < n := by omega
                      have hz' : (z : Int) < (n : Int) := by omega
                      have HRW := Lib.hid hrow
                      obtain ⟨hD, hro, hBi⟩ := hrow
                      obtain ⟨dy, hdy⟩ : ∃ dy, D[y]? = some dy := ⟨_, List.getElem?_eq_getElem (by omega)⟩
                      obtain ⟨dz, hdz⟩ : ∃ dz, D[z]? = some dz := ⟨_, List.getElem?_eq_getElem (by omega)⟩
                      have cy := hro.cellAt y (by omega)
                      have cz := hro.cellAt z (by omega)
                      rw [cellsI_at hdy] at cy
                      rw [cellsI_at hdz] at cz
                      have zz := hro.frozenAt z
                      have HFY := Lib.hid (fn_at hdy)
                      have HFZ := Lib.hid (fn_at hdz)
                      have HDL := Lib.hid hD
                      have HDZ := Lib.hid hdz
                      have HNR := Lib.hid (l2Near_any (n : Int) (y : Int) (z : Int) (.slice A l.length c) l wr (H.out.below (HB.out.trans (hBi.mono HB.out.size))) hl)
                      have HSK : Hid ((¬ (dy = k ∧ dz < 0 ∧ adj l (y : Int) (z : Int) = true)) → IsMid n (J1 l) x k y (z + 1) (fn D)) := fun hh => hmid.out.skip (fun hn => hh ⟨by rw [← HFY.out]; exact hn.1, by rw [← HFZ.out]; exact hn.2.1, hn.2.2⟩)
                      have HPU : Hid (dy = k → dz < 0 → adj l (y : Int) (z : Int) = true → IsMid n (J1 l) x k y (z + 1) (fn (D.set z ((k : Int) + 1)))) := fun h1 h2 h3 => by
                        have := hmid.out.put hy (by rw [HFY.out]; exact h1) (by rw [HFZ.out]; exact h2) h3
                        have e : fn (D.set z ((k : Int) + 1)) = fun w => if w = z then (k : Int) + 1 else fn D w := by
                          funext w; exact fn_set (by omega) _ w
                        rw [e]; exact this
                      clear hD hdy hdz hgi hmid
                      by_cases e1 : dy = (k : Int)
                      · have f1 : (dy == (k : Int)) = true := by simpa using e1
                        by_cases e2 : dz < 0
                        · have f2 : decide (dz < 0) = true := by simpa using e2
                          cases hj : adj l (y : Int) (z : Int) with
                          | true =>
                            rw [hj] at HNR
                            have HS := Lib.hid (HPU.out e1 e2 hj)
                            clear HPU HSK hj e1 e2 hBi hro
                            go_wp2_with fail
                            refine HNR.out.mono ?_
                            rintro e w3 ⟨rfl, b3⟩
                            have hro3 := own_below HRW.out.2.1 b3
                            have cz3 := hro3.cellAt z (by omega)
                            rw [cellsI_at HDZ.out] at cz3
                            have zz3 := hro3.frozenAt z
                            have hst3 := (hro3.stored z (.int .i64 ((k : Int) + 1))).1
                            rw [cells_set1] at hst3
                            have HR3 : Hid (RowH wo (w3.setCell ⟨gr, z, none⟩ (.int .i64 ((k : Int) + 1))) n gr c5 (D.set z ((k : Int) + 1))) := ⟨by rw [List.length_set]; exact HDL.out, hst3, (btrans HRW.out.2.2 b3).setCell HGR.out.1 _⟩
                            clear hro3 hst3 b3 cy cz zz p0 p1
                            go_wp2_with fail
                            go_roundg g7
                            case measure => omega
                            case rel => exact ⟨z + 1, _, by omega, by go_num, HR3.out, HS⟩
                          | false =>
                            rw [hj] at HNR
                            have HS := Lib.hid (HSK.out (fun hh => by rw [hj] at hh; exact absurd hh.2.2 (by simp)))
                            clear HPU HSK hj e1 e2 hBi hro
                            go_wp2_with fail
                            refine HNR.out.mono ?_
                            rintro e w3 ⟨rfl, b3⟩
                            have HR3 : Hid (RowH wo w3 n gr c5 D) := ⟨HDL.out, own_below HRW.out.2.1 b3, btrans HRW.out.2.2 b3⟩
                            clear b3 cy cz zz p0 p1
                            go_wp2_with fail
                            go_roundg g7
                            case measure => omega
                            case rel => exact ⟨z + 1, D, by omega, by go_num, HR3.out, HS⟩
                        · have f2 : decide (dz < 0) = false := by simpa using e2
                          have HS := Lib.hid (HSK.out (fun hh => e2 hh.2.1))
                          clear HPU HSK e1 e2 hBi hro
                          go_wp2_with fail
                          go_roundg g7
                          case measure => omega
                          case rel => exact ⟨z + 1, D, by omega, by go_num, HRW.out, HS⟩
                      · have f1 : (dy == (k : Int)) = false := by simpa using e1
                        have HS := Lib.hid (HSK.out (fun hh => e1 hh.1))
                        clear HPU HSK e1 hBi hro
                        go_wp2_with fail
                        go_roundg g7
                        case measure => omega
                        case rel => exact ⟨z + 1, D, by omega, by go_num, HRW.out, HS⟩
end Go.Proofs.Ytnmidgnkjpcpgaa.dists
