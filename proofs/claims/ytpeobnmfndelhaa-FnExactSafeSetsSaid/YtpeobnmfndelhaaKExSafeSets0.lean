/- The contract of the program's SafeSets. -/
import Derived.Handy
import Derived.Test.YtpeobnmfndelhaaKSafM
import Derived.Test.YtpeobnmfndelhaaProg
import Derived.Test.YtpeobnmfndelhaaK01
import Derived.Deep.Slices
import Derived.Lib.SmallJoins
import Derived.OpenShut
namespace Go.Proofs.Ytpeobnmfndelhaa.lists
open Go.RowKit P2 words edges ints good adjs fns sets rets apps gridr grid trip covs bitsI times mids filled cops
set_option linter.unusedVariables false

set_option maxHeartbeats 4000000 in
set_option maxRecDepth 100000 in
theorem implSaf_any (s k : Int) (v : Value) (l : List Ed) (w : World) (h : Edges w v l) (hl : l.length ≤ 1048576) :
    Calls Try.prog 29 #[.agg #[.int .i64 s, v], .int .i64 k] w (RetGr w (FieldP s l k) (safL s k l)) := by
  obtain ⟨A, c, rfl, -⟩ := h.form
  have H := Lib.hid h
  have b0 : Below w.heap.size w (w.alloc (.cells #[.int .i64 s, .slice A l.length c] 30)) := (Below.refl _ _).alloc (Nat.le_refl _) _
  have g0 := Blk.new w 30 #[.int .i64 s, .slice A l.length c]
  obtain ⟨p0, p1, -, -⟩ := g0.two
  have hmf : ∀ (fn : Fn) (first cap : Array Value) (w : World), (Instr.makeFunc fn first cap).run Try.prog w = .ok (.func fn first cap) w := fun _ _ _ _ => rfl
  clear h
  by_cases hf : FieldP s l k
  · have HF := Lib.hid hf
    obtain ⟨n, rfl⟩ : ∃ n : Nat, s = (n : Int) := ⟨s.toNat, by have := hf.2.1; omega⟩
    obtain ⟨m, rfl⟩ : ∃ m : Nat, k = (m : Int) := ⟨k.toNat, by have := hf.2.2.1; omega⟩
    have hn : n ≤ 8 := by have := hf.1.2.1; omega
    have hP : (gameN l n m).P ≤ 200 := game_small hn (by have := hf.2.2.2; omega)
    have HH := Lib.hid (huntIn_yes n m (.slice A l.length c) l _ (H.out.below b0) hl hf)
    have HV : Hid (safL (n : Int) (m : Int) l = safK n (tms (gameN l n m)) (gameN l n m).P) := rfl
    rw [HV.out]
    obtain ⟨i1, hi1, hy0, hy1, hy2⟩ := info_parts infoRow
    have HLN := Lib.hid (safK_len n (tms (gameN l n m)) (gameN l n m).P)
    have hmk := fun (W : World) => run_make_rowN (P := Try.prog) 27 25 i1 (.slice none 0 0) Try.underlying27 hi1 hy0 .i64 .i64 (gameN l n m).P (gameN l n m).P (Nat.le_refl _) (by rw [hy2]; omega) (by omega) W
    rw [hy1] at hmk
    simp only [Nat.mul_one] at hmk
    clear hf
    go_enter Try.func29, Try.ntmps29
    go_wp2_with fail
    refine HH.out.mono ?_
    rintro e w1 ⟨cv, tv, mv, xv, lv, us, us', ul, rfl, hCR, hxf, hx, ⟨A2, c2, rfl⟩, -, b1⟩
    rw [gridG_len] at hxf
    obtain ⟨A1, c1, rfl⟩ := hxf
    obtain ⟨Ac, cc, rfl, -⟩ := hCR.closed.form
    obtain ⟨At, ct, rfl, -⟩ := hCR.taken.form
    obtain ⟨Am, cm, rfl, -⟩ := hCR.lists.1
    have hB1 := btrans b0 b1
    have g1 := g0.below b1 g0.lt
    generalize (clos l (gameN l n m).n).length = x1 at *
    generalize (codesL (gameN l n m).P (gameN l n m).n (gameN l n m).tk).length = x2 at *
    generalize (mvG l n m).length = x3 at *
    generalize (rowsN (listsN n m 0)).length = x5 at *
    have HX := Lib.hid (gridl.readsG_of_own hx)
    have HG1 := Lib.hid g1
    have HE1 := Lib.hid hB1
    have hs1 := hB1.size
    have HOM : Hid (OwnG ((w1.alloc (.cells #[.slice Ac x1 cc, .slice At x2 ct, .slice Am x3 cm, .slice A1 (gameN l n m).P c1, .slice A2 x5 c2] 82)).alloc (.cells (madeCells #[.slice none 0 0] (gameN l n m).P) 25)) w.heap.size (.slice (some ⟨w1.heap.size + 1, 0, none⟩) (gameN l n m).P (gameN l n m).P) (List.replicate (gameN l n m).P (.slice none 0 0)) (List.replicate (gameN l n m).P [])) := by
      have h_ := (OwnG.made (w1.alloc (.cells #[.slice Ac x1 cc, .slice At x2 ct, .slice Am x3 cm, .slice A1 (gameN l n m).P c1, .slice A2 x5 c2] 82)) (gameN l n m).P (by unfold maxLen; omega)).base (C := w.heap.size) (by simp; omega)
      rw [Nat.mul_one, World.size_alloc] at h_
      exact h_
    have HB0 : Hid (Below w1.heap.size w1 ((w1.alloc (.cells #[.slice Ac x1 cc, .slice At x2 ct, .slice Am x3 cm, .slice A1 (gameN l n m).P c1, .slice A2 x5 c2] 82)).alloc (.cells (madeCells #[.slice none 0 0] (gameN l n m).P) 25))) := ((Below.refl _ _).alloc (Nat.le_refl _) _).alloc (by simp) _
    have g2 := (Blk.new w1 82 #[.slice Ac x1 cc, .slice At x2 ct, .slice Am x3 cm, .slice A1 (gameN l n m).P c1, .slice A2 x5 c2])
    obtain ⟨t0, t1, t2, t3, t4⟩ := blk5 g2
    obtain ⟨v0, v1, v2, v3, v4⟩ := blk5 (g2.alloc (.cells (madeCells #[.slice none 0 0] (gameN l n m).P) 25))
    clear hx hCR hB1 b1 g1 HH p0 p1 b0 g0 g2
    go_wp2_with fail
    clear hmk t0 t1 t2 t3 t4 v0 v1 v2 v3 v4
    generalize hPP : (gameN l n m).P = P at *
    have HPP := Lib.hid hPP
    clear hPP
    go_loopg [28] P (fun g iv wr => ∃ (k : Nat) (us : List Value), k + g = P ∧ iv = .int .i64 (k : Int) ∧ OwnG wr w.heap.size (.slice (some ⟨w1.heap.size + 1, 0, none⟩) P P) us (safP P n (tms (gameN l n m)) k) ∧ Below w1.heap.size w1 wr)
    case atStart => exact ⟨0, _, by omega, rfl, by rw [safP_zero]; exact HOM.out, HB0.out⟩
    case round =>
      clear HOM HB0
      obtain ⟨k, us, hkg, rfl, hG, hB⟩ := hrel
      have hsz := hB.size
      cases gk with
      | zero =>
        obtain rfl : k = P := by omega
        rw [safP_all] at hG
        have HG := Lib.hid hG
        have HB := Lib.hid (btrans HE1.out hB)
        clear hG hB
        go_wp2_with fail
        go_ret2
        have h9 := RetGr.yes (rows := safK n (tms (gameN l n m)) k) (A := some ⟨w1.heap.size + 1, 0, none⟩) (c := k) (us := us) HF.out (by rw [HLN.out]; exact HG.out) HB.out
        rw [HLN.out] at h9
        exact h9
      | succ g2 =>
        have hlt : k < P := by omega
        have hlt' : (k : Int) < (P : Int) := by omega
        obtain ⟨u, g, o, -, rfl, c0, hru⟩ := (HX.out.below hB).row (gridG_at (T := tms (gameN l n m)) (n := n) hlt)
        obtain ⟨Ar, cr, rfl, -⟩ := hru.form
        have b5 : Below wr.heap.size wr (wr.alloc (.cells #[.slice Ar (rowG n (tms (gameN l n m) k)).length cr] 25)) := (Below.refl _ _).alloc (Nat.le_refl _) _
        have HNW := Lib.hid (nodesWhere_any n _ _ _ _ hn (safClo_fn n wr.heap.size _ _ _ ((Blk.new wr 25 #[.slice Ar (rowG n (tms (gameN l n m) k)).length cr]).cell 0) (hru.below b5)))
        have g5 := (HG1.out.below hB HG1.out.lt).alloc (.cells #[.slice Ar (rowG n (tms (gameN l n m) k)).length cr] 25)
        obtain ⟨p0, p1, -, -⟩ := g5.two
        have HG := Lib.hid hG
        have HB := Lib.hid hB
        have HB5 := Lib.hid b5
        have HSR : Hid (nw (fun y => decide (tms (gameN l n m) k y < 0)) n = safR n (tms (gameN l n m)) k) := rfl
        rw [HSR.out] at HNW
        clear hG hB b5 g5 hru
        generalize (rowG n (tms (gameN l n m) k)).length = rl at *
        go_wp2_with fail
        refine HNW.out.mono ?_
        rintro e w4 ⟨A6, c6, rfl, o5, b5⟩
        have d5 := btrans HB5.out b5
        have hG4 := HG.out.below d5
        have hrl := safP_len n (tms (gameN l n m)) (k := k) (m := P) (by omega)
        have h1 := hG4.1
        rw [hrl] at h1
        have hul := hG4.len
        rw [hrl] at hul
        obtain ⟨u0, hu0⟩ : ∃ u, us[k]? = some u := ⟨_, List.getElem?_eq_getElem (by omega)⟩
        have f0 := h1.cellAt k (by omega)
        rw [hu0] at f0
        have z0 := h1.frozenAt k
        have hbo := own_base (B' := w.heap.size) o5 (by simp; omega)
        have HS : Hid (OwnG (w4.setCell ⟨w1.heap.size + 1, k, none⟩ (.slice A6 (safR n (tms (gameN l n m)) k).length c6)) w.heap.size (.slice (some ⟨w1.heap.size + 1, 0, none⟩) P P) (us.set k (.slice A6 (safR n (tms (gameN l n m)) k).length c6)) (safP P n (tms (gameN l n m)) (k + 1))) := by
          have h9 : OwnG w4 w.heap.size (.slice (some ⟨w1.heap.size + 1, 0, none⟩) (safP P n (tms (gameN l n m)) k).length P) us (safP P n (tms (gameN l n m)) k) := by rw [hrl]; exact hG4
          have hfr := OwnG.fresh (HG.out.below HB5.out) (own_base o5 (Nat.le_refl _))
          have := OwnG.store h9 (by rw [hrl]; exact hlt) hbo (fun i x b _ hx hb => hfr i x b hx hb)
          rw [safP_succ n (tms (gameN l n m)) hlt, hrl] at this
          exact this
        have HB6 := Lib.hid ((btrans HB.out d5).setCell (p := ⟨w1.heap.size + 1, k, none⟩) (Nat.le_succ _) (.slice A6 (safR n (tms (gameN l n m)) k).length c6))
        clear hG4 h1 hrl hul b5 o5 hu0 hbo d5
        go_wp2_with fail
        go_roundg g2
        case measure => omega
        case rel => exact ⟨k + 1, _, by omega, by go_num, HS.out, HB6.out⟩
  · have HH := Lib.hid (huntIn_no s k (.slice A l.length c) l _ (H.out.below b0) hl hf)
    have HN := Lib.hid hf
    clear hf
    go_enter Try.func29, Try.ntmps29
    go_wp2_with fail
    refine HH.out.mono ?_
    rintro e w1 ⟨rfl, b1⟩
    have hB1 := btrans b0 b1
    have HB2 := Lib.hid (hB1.alloc hB1.size (.cells #[.slice none 0 0, .slice none 0 0, .slice none 0 0, .slice none 0 0, .slice none 0 0] 82))
    clear HH b1 hB1 p0 p1 g0
    go_wp2_with fail
    go_ret2
    exact RetGr.nil HN.out HB2.out
end Go.Proofs.Ytpeobnmfndelhaa.lists

/- The contracts of the model's l4Safe and SafeSets. -/
namespace Go.Proofs.Ytpeobnmfndelhaa.lists
open Go.RowKit P2 words edges ints good adjs fns sets rets apps gridr grid trip covs bitsI times mids filled cops
set_option linter.unusedVariables false

set_option maxHeartbeats 4000000 in
set_option maxRecDepth 100000 in
theorem l4Safe_any (P n : Nat) (T : Nat → Nat → Int) (v : Value) (ut : List Value) (w : World) (h : ReadsG w v ut (gridG P n T)) (hP : P ≤ 200) (hn : n ≤ 8) :
    Calls Try.prog 68 #[v] w fun e w' => ∃ A c us, e = .returned (.slice A P c) ∧ OwnG w' w.heap.size (.slice A P c) us (safK n T P) ∧ Below w.heap.size w w' := by
  obtain ⟨i0, hi, hz0, hz1, hz2⟩ := info_parts infoInt
  obtain ⟨i1, hi1, hy0, hy1, hy2⟩ := info_parts infoRow
  obtain ⟨A, c, rfl, -⟩ := h.1
  have H := Lib.hid h
  rw [gridG_len] at H ⊢
  have HB0 : Hid (Below w.heap.size w (w.alloc (.cells #[] 25))) := (Below.refl _ _).alloc (Nat.le_refl _) _
  have HO0 : Hid (OwnG (w.alloc (.cells #[] 25)) w.heap.size (.slice (some ⟨w.heap.size, 0, none⟩) 0 0) [] (safK n T 0)) := ⟨own_new0 w 25 1, fun i u r hu => by simp at hu, fun i j u u' k _ hu => by simp at hu⟩
  clear h
  go_enter Try.func68, Try.ntmps68
  go_wp2_with fail
  go_loopg [3, 4] P (fun g ov iv wr => ∃ (k : Nat) (ow : Value) (us : List Value), ow = ov ∧ k + g = P ∧ iv = .int .i64 (k : Int) ∧ OwnG wr w.heap.size ow us (safK n T k) ∧ Below w.heap.size w wr)
  case atStart => exact ⟨0, _, _, rfl, by omega, rfl, HO0.out, HB0.out⟩
  case round =>
    clear HO0 HB0
    obtain ⟨k, ow, us, rfl, hkg, rfl, hG, hB⟩ := hrel
    obtain ⟨A4, c4, rfl⟩ := own_form hG.1
    have hlk := safK_len n T k
    have hul := hG.len
    rw [hlk] at hul
    obtain ⟨wo, hwo⟩ : ∃ wo, wo = wr := ⟨_, rfl⟩
    subst hwo
    have hsz := hB.size
    cases gk with
    | zero =>
      obtain rfl : k = P := by omega
      have HG := Lib.hid hG
      have HB := Lib.hid hB
      have HLK := Lib.hid hlk
      clear hG hB hlk hul
      go_wp2_with fail
      go_ret
      have h_ := HG.out
      rw [HLK.out] at h_ ⊢
      exact ⟨A4, c4, us, rfl, h_, HB.out⟩
    | succ g2 =>
      have hlt : k < P := by omega
      have hlt' : (k : Int) < (P : Int) := by omega
      obtain ⟨u, g, o, -, rfl, c0, hru⟩ := (H.out.below hB).row (gridG_at (T := T) (n := n) hlt)
      obtain ⟨Ar, cr, rfl, hcr⟩ := hru.form
      have hrl := rowG_len n (T k)
      rw [hrl] at c0
      have HCR := Lib.hid hcr
      have HC0 := Lib.hid c0
      have HG := Lib.hid hG
      have HB := Lib.hid hB
      have hlk8 : (safK n T k).length ≤ 200 := by omega
      have hul8 : us.length ≤ 200 := by omega
      have HSS := Lib.hid (safK_succ n T k)
      have HO1 := Lib.hid (own_new0 wo 3 1)
      have HB1 : Hid (Below wo.heap.size wo (wo.alloc (.cells #[] 3))) := (Below.refl _ _).alloc (Nat.le_refl _) _
      clear hG hB hcr hru hlk hul c0 hrl
      go_wp2_with fail
      go_loopg [5, 6] n (fun g sv xv wr => ∃ (x : Nat) (sw : Value), sw = sv ∧ x + g = n ∧ xv = .int .i64 (x : Int) ∧ wr.ownsRow wo.heap.size 3 1 sw (nw (fun y => decide (T k y < 0)) x).length (cellsI (nw (fun y => decide (T k y < 0)) x)) ∧ Below wo.heap.size wo wr)
      case atStart => exact ⟨0, _, rfl, by omega, rfl, HO1.out, HB1.out⟩
      case round =>
        clear HO1 HB1
        obtain ⟨x, sw, rfl, hxg, rfl, hrow, hB1⟩ := hrel
        obtain ⟨A6, c6, rfl⟩ := own_form hrow
        have hpl := nw_len (fun y => decide (T k y < 0)) x
        have q0 := nearv.cell_keep HC0.out hB1
        cases gk with
        | zero =>
          obtain rfl : x = n := by omega
          have HR : Hid (wr.ownsRow wo.heap.size 3 1 (.slice A6 (safR x T k).length c6) (safR x T k).length (cellsI (safR x T k))) := hrow
          have hown5 := (HG.out.below hB1).1
          have HB1 := Lib.hid hB1
          have hs1 := hB1.size
          have HE : Hid (nw (fun y => decide (T k y < 0)) x = safR x T k) := rfl
          rw [HE.out]
          clear hrow hB1 hpl
          generalize safR x T k = bl at *
          go_wp2_with (at_builtin; refine wpList_append_own _ rfl _ _ 27 rfl w.heap.size 25 i1 (.slice none 0 0) 1 24 Try.underlying27 hi1 hy0 hy1 hy2 rfl (by decide) _ _ _ rfl (hown5.alloc _) ⟨wr.heap.size, 0, none⟩ 1 1 [.slice A6 bl.length c6] rfl rfl (cell_one_new _ _ _) (fun x hx => by simp at hx; subst hx; rfl) (by unfold maxLen; omega) (by omega) (by simp; omega) ?_; intro v6 w6 hown6 hgrow6 _)
          have HG6 : Hid (OwnG w6 w.heap.size v6 (us ++ [.slice A6 bl.length c6]) (safK x T (k + 1))) := by
            show OwnG _ _ _ _ _
            rw [HSS.out]
            exact OwnG.push HG.out HB1.out hsz HR.out hown6 rfl hgrow6
          have HB6 := Lib.hid (((btrans HB.out HB1.out).alloc (by omega) (.cells #[.slice A6 bl.length c6] 25)).grown hgrow6 (by simp; omega) (fun j e => (HG.out.1.lt j e).1))
          clear hown6 hgrow6 hown5
          go_roundg g2
          case measure => omega
          case rel => exact ⟨k + 1, _, _, rfl, by omega, by go_num, HG6.out, HB6.out⟩
        | succ g3 =>
          have hxl : x < n := by omega
          have hxl' : (x : Int) < (n : Int) := by omega
          obtain ⟨gr, orr, rfl, r0⟩ := HCR.out x _ (rowG_at hxl)
          have q1 := nearv.cell_keep r0 hB1
          have hs1 := hB1.size
          cases hp : decide (T k x < 0) with
          | true =>
            have HN := Lib.hid (nw_yes (p := fun y => decide (T k y < 0)) (k := x) hp)
            clear r0
            generalize nw (fun y => decide (T k y < 0)) x = m at *
            go_wp2_with (at_builtin; refine wpList_append_own _ rfl _ _ 25 rfl (wo.heap.size) 3 i0 (.int .i64 0) 1 8 Try.underlying25 hi hz0 hz1 hz2 rfl (by decide) _ _ _ rfl (hrow.alloc _) ⟨wr.heap.size, 0, none⟩ 1 1 [.int .i64 ((x : Int))] rfl rfl (cell_one_new _ _ _) (fun x hx => by simp at hx; subst hx; rfl) (by unfold maxLen; omega) (by omega) (by simp; omega) ?_; intro v2 w2 hown2 hgrow2 _)
            obtain ⟨hown3, hB2⟩ := push1 hrow hown2 hgrow2 hs1
            clear hgrow2 hrow hown2 hp
            go_roundg g3
            case measure => omega
            case rel => exact ⟨x + 1, _, rfl, by omega, by go_num, by rw [HN.out]; exact hown3, hB1.trans hB2⟩
          | false =>
            have HN := Lib.hid (nw_no (p := fun y => decide (T k y < 0)) (k := x) hp)
            clear r0
            go_wp2_with fail
            clear hp
            go_roundg g3
            case measure => omega
            case rel => exact ⟨x + 1, _, rfl, by omega, by go_num, by rw [HN.out]; exact hrow, hB1⟩
set_option maxHeartbeats 1000000 in
set_option maxRecDepth 100000 in
theorem specSaf_any (s k : Int) (v : Value) (l : List Ed) (w : World) (h : Edges w v l) (hl : l.length ≤ 1048576) (hs1 : -9223372036854775808 ≤ s) (hs2 : s ≤ 9223372036854775807) :
    Calls Try.prog 28 #[.agg #[.int .i64 s, v], .int .i64 k] w (RetGr w (FieldP s l k) (safL s k l)) := by
  obtain ⟨A, c, rfl, -⟩ := h.form
  have H := Lib.hid h
  have b0 : Below w.heap.size w (w.alloc (.cells #[.int .i64 s, .slice A l.length c] 30)) := (Below.refl _ _).alloc (Nat.le_refl _) _
  have g0 := Blk.new w 30 #[.int .i64 s, .slice A l.length c]
  have HG := Lib.hid (l4Field_any s k _ l _ (h.below b0) hl hs1 hs2)
  clear h
  by_cases hf : FieldP s l k
  · rw [okG_yes hf] at HG
    have HF := Lib.hid hf
    have hk3 := hf.2.2.2
    have hs8 := hf.1.2.1
    obtain ⟨n, rfl⟩ : ∃ n : Nat, s = (n : Int) := ⟨s.toNat, by have := hf.2.1; omega⟩
    obtain ⟨m, rfl⟩ : ∃ m : Nat, k = (m : Int) := ⟨k.toNat, by have := hf.2.2.1; omega⟩
    have HV : Hid (safL (n : Int) (m : Int) l = safK n (tms (gameN l n m)) (gameN l n m).P) := rfl
    rw [HV.out]
    have HLN := Lib.hid (safK_len n (tms (gameN l n m)) (gameN l n m).P)
    have HM := Lib.hid (fun (W : World) (hb : Below w.heap.size w W) => l4Make_any n m (.slice A l.length c) l W (H.out.below hb) hl hf.1 (by omega) (by omega))
    have HT := Lib.hid (fun fv mv bv uf um ub (W : World) (h : HS W l n m fv mv bv uf um ub) => l4Times_any n m fv mv bv uf um ub l W h (by omega) (by omega))
    have HSF := Lib.hid (fun (W : World) (v : Value) (ut : List Value) (hr : ReadsG W v ut (gridG (gameN l n m).P n (tms (gameN l n m)))) => l4Safe_any (gameN l n m).P n (tms (gameN l n m)) v ut W hr (game_small (by omega) (by omega)) (by omega))
    clear hf hk3 hs8
    go_enter Try.func28, Try.ntmps28
    go_wp2_with fail
    refine HG.out.mono ?_
    rintro e w1 ⟨rfl, b1⟩
    have e1 := btrans b0 b1
    have g1 := g0.below b1 g0.lt
    clear HG b0 b1 g0
    obtain ⟨p0, p1, -, -⟩ := g1.two
    have HM1 := Lib.hid (HM.out w1 e1)
    go_wp2_with fail
    refine HM1.out.mono ?_
    rintro e w2 ⟨fv, mv, bv, uf, um, ub, rfl, hs, b2⟩
    have HT2 := Lib.hid (HT.out fv mv bv uf um ub w2 hs)
    have e2 := btrans e1 b2
    clear hs b2 e1 g1 p0 p1
    go_wp2_with fail
    refine HT2.out.mono ?_
    rintro e w3 ⟨A3, c3, u3, rfl, o3, b3⟩
    have HS3 := Lib.hid (HSF.out w3 _ u3 (gridl.readsG_of_own o3))
    have HE3 := Lib.hid (btrans e2 b3)
    clear o3 b3 e2
    go_wp2_with fail
    refine HS3.out.mono ?_
    rintro e w4 ⟨A4, c4, u4, rfl, o4, b4⟩
    have HO4 := Lib.hid (o4.base HE3.out.size)
    have HE4 := Lib.hid (btrans HE3.out b4)
    clear o4 b4
    go_wp2_with fail
    go_ret2
    have h9 := RetGr.yes (rows := safK n (tms (gameN l n m)) (gameN l n m).P) (A := A4) (c := c4) (us := u4) HF.out (by rw [HLN.out]; exact HO4.out) HE4.out
    rw [HLN.out] at h9
    exact h9
  · rw [okG_no hf] at HG
    have HN := Lib.hid hf
    clear hf
    go_enter Try.func28, Try.ntmps28
    go_wp2_with fail
    refine HG.out.mono ?_
    rintro e w1 ⟨rfl, b1⟩
    have HE1 := Lib.hid (btrans b0 b1)
    have HO := Lib.hid (own_new0 w1 25 1)
    clear b0 b1 g0
    go_wp2_with fail
    go_ret2
    exact RetGr.no HN.out (own_base HO.out HE1.out.size) (HE1.out.alloc HE1.out.size _)
end Go.Proofs.Ytpeobnmfndelhaa.lists

/- Arguments of the laws, opened: a Graph as it came in, a slice of integers as it came in. -/
namespace Go.Proofs.Ytpeobnmfndelhaa.opens
open Go.RowKit Go.Joins Go.ChangeShapes Go.WideShapes Go.Deep P2 words

theorem addr_add (g o j : Nat) : (⟨g, o, none⟩ : Addr).add j = ⟨g, o + j, none⟩ := by unfold Addr.add; split <;> simp_all
theorem add_of_add (a : Addr) (i j : Nat) : (a.add i).add j = a.add (i + j) := by
  unfold Addr.add
  by_cases hi : i = 0 <;> by_cases hj : j = 0 <;> simp [hi, hj, Nat.add_assoc]

/-- what is told of a Graph that came in -/
def IsGr (w : World) (s : Int) (v : Value) (l : List Ed) : Prop :=
  Edges w v l ∧ l.length ≤ maxLen ∧ -9223372036854775808 ≤ s ∧ s ≤ 9223372036854775807

theorem bounds64 {n : Int} (h : (Lit.int .i64 n).wf = true) : -9223372036854775808 ≤ n ∧ n ≤ 9223372036854775807 := by
  simp [Lit.wf, IntKind.min, IntKind.max, IntKind.signed, IntKind.bits] at h
  omega

/-- what is told of a slice of integers that came in -/
def IsIn (w : World) (v : Value) (l : List Int) : Prop := Ints w v l ∧ l.length ≤ maxLen ∧ ∀ x ∈ l, -9223372036854775808 ≤ x ∧ x ≤ 9223372036854775807

section
variable {H : Type} {enc : TypeId × Value → H} {w : World} {spare : Nat → Bool} {held : Bool}
theorem open_edges {fuel : Nat} {v : Value} {x : DataW H × List MemPlace} (h : DataW.trod enc Try.prog w 0 spare held fuel 22 [v] = some x) :
    ∃ l : List Ed, Edges w v l ∧ l.length ≤ maxLen := by
  rcases open_slice Try.underlying22 h with ⟨hv, _⟩ | ⟨a, len, cap, m, n, D, Pl, hv, _, hl, hm, hmm, _, hi⟩
  · obtain rfl : v = .slice none 0 0 := by simpa using hv
    exact ⟨[], Reads.nil _ _, Nat.zero_le _⟩
  · obtain rfl : v = .slice (some a) len cap := by simpa using hv
    have hlm : len ≤ m := by rw [hmm]; split <;> omega
    have hC : Try.prog.cellsOf 115 = 2 := by kernel_rfl
    have hC1 : Try.prog.cellsOf 3 = 1 := by kernel_rfl
    rw [hC] at hi
    have key : ∀ i, i < len → ∃ e : Ed, w.cell? (a.add (i * 2)) = some (.int .i64 e.1) ∧ w.cell? (a.add (i * 2 + 1)) = some (.int .i64 e.2) := fun i hil => by
      obtain ⟨cs', hc, ht⟩ := hi i (by omega)
      obtain ⟨xs, m', _, _, _, hxl, he⟩ := DataW.trod_array Try.underlying115 ht
      obtain ⟨_, hcl, hat⟩ := World.cells?_some hc
      rw [hC1] at he
      match cs', hcl with
      | [c0, c1], _ =>
        match xs, hxl with
        | [y0, y1], _ =>
          have e0 : DataW.trod enc Try.prog w 0 spare held m' 3 [c0] = some y0 := he 0 (by decide)
          have e1 : DataW.trod enc Try.prog w 0 spare held m' 3 [c1] = some y1 := he 1 (by decide)
          obtain ⟨n0, h0, _, _⟩ := DataW.trod_int Try.underlying3 e0
          obtain ⟨n1, h1, _, _⟩ := DataW.trod_int Try.underlying3 e1
          obtain rfl : c0 = .int .i64 n0 := by simpa using h0
          obtain rfl : c1 = .int .i64 n1 := by simpa using h1
          have a0 := hat 0 (by decide)
          have a1 := hat 1 (by decide)
          rw [add_of_add] at a0 a1
          exact ⟨(n0, n1), by simpa using a0, by simpa using a1⟩
    obtain ⟨f, hf⟩ := choose_lt (α := Ed) key
    refine ⟨(List.range len).map f, ⟨some a, cap, by simp, fun hn => ?_⟩, by simp; omega⟩
    simp only [List.length_map, List.length_range] at hn ⊢
    obtain ⟨b, off, spot⟩ := a
    have hc0 := (hf 0 hn).1
    have hspot : spot = none := by simpa [Addr.add] using World.cell?_spot hc0
    subst hspot
    refine ⟨b, off, rfl, hl, fun j u hu => ?_⟩
    have hjl : j < len * 2 := by
      have := (List.getElem?_eq_some_iff.1 hu).1
      rw [cellsE_len] at this; simpa using this
    obtain ⟨k, hk⟩ : ∃ k, k = j / 2 := ⟨_, rfl⟩
    have hkl : k < len := by omega
    have hkf : ((List.range len).map f)[k]? = some (f k) := by simp [hkl]
    have hck := cellsE_at hkf
    have hcl := hf k hkl
    rw [addr_add, addr_add] at hcl
    rcases Nat.mod_two_eq_zero_or_one j with h0 | h0
    · obtain rfl : j = k * 2 := by omega
      rw [hck.1] at hu
      rw [hcl.1, ← hu]
    · obtain rfl : j = k * 2 + 1 := by omega
      rw [hck.2] at hu
      rw [hcl.2, ← hu]

set_option maxRecDepth 100000 in
theorem open_graph {r : Reach} {b0 : Nat} {v : Value} {d : DataW H} {p : List MemPlace} (hv : Value.okWide Try.prog w r b0 24 v)
    (h : DataW.Trod enc Try.prog w 0 spare held 24 v d p) : ∃ s u l, v = .agg #[.int .i64 s, u] ∧ IsGr w s u l := by
  obtain ⟨c0, c1, y0, y1, m, rfl, _, _, h0, h1⟩ := open_agg2 Try.underlying24 (by kernel_rfl) (by kernel_rfl) hv h
  obtain ⟨n0, k0, _, w0⟩ := DataW.trod_int Try.underlying3 h0
  obtain rfl : c0 = .int .i64 n0 := by simpa using k0
  obtain ⟨l, he, hl⟩ := open_edges h1
  exact ⟨n0, c1, l, rfl, he, hl, bounds64 w0⟩

set_option maxRecDepth 100000 in
theorem open_intsl {r : Reach} {b0 : Nat} {v : Value} {d : DataW H} {p : List MemPlace} (hv : Value.okWide Try.prog w r b0 25 v)
    (h : DataW.Trod enc Try.prog w 0 spare held 25 v d p) : ∃ u l, v = u ∧ IsIn w u l := by
  obtain ⟨A, len, cap, rfl⟩ := okWide_slice Try.underlying25 hv
  obtain ⟨fuel, hf⟩ := h
  simp only [Value.cells] at hf
  rcases open_slice Try.underlying25 hf with ⟨hv, _⟩ | ⟨a, len', cap', m, n, D, Pl, hv, _, hl, hm, hmm, _, hi⟩
  · have e : Value.slice A len cap = .slice none 0 0 := by simpa using hv
    rw [e]
    exact ⟨_, [], rfl, Reads.nil _ _, Nat.zero_le _, fun x hx => by cases hx⟩
  · have e : Value.slice A len cap = .slice (some a) len' cap' := by simpa using hv
    rw [e]
    have hlm : len' ≤ m := by rw [hmm]; split <;> omega
    have hC1 : Try.prog.cellsOf 3 = 1 := by kernel_rfl
    rw [hC1] at hi
    have key : ∀ i, i < len' → ∃ x : Int, w.cell? (a.add i) = some (.int .i64 x) ∧ (Lit.int .i64 x).wf = true := fun i hil => by
      obtain ⟨cs', hc, ht⟩ := hi i (by omega)
      obtain ⟨_, hcl, hat⟩ := World.cells?_some hc
      match cs', hcl with
      | [c0], _ =>
        obtain ⟨n0, h0, _, hw⟩ := DataW.trod_int Try.underlying3 ht
        obtain rfl : c0 = .int .i64 n0 := by simpa using h0
        have a0 := hat 0 (by decide)
        rw [add_of_add, Nat.mul_one] at a0
        exact ⟨n0, by simpa using a0, hw⟩
    obtain ⟨f, hf⟩ := choose_lt (α := Int) key
    refine ⟨_, (List.range len').map f, rfl, ⟨some a, cap', by simp, fun hn => ?_⟩, by simp; omega, fun x hx => ?_⟩
    · simp only [List.length_map, List.length_range] at hn ⊢
      obtain ⟨b, off, spot⟩ := a
      have hc0 := (hf 0 hn).1
      have hspot : spot = none := by simpa [Addr.add] using World.cell?_spot hc0
      subst hspot
      refine ⟨b, off, rfl, hl, fun j u hu => ?_⟩
      have hjl : j < len' := by
        have := (List.getElem?_eq_some_iff.1 hu).1
        rw [cellsI_len] at this; simpa using this
      have hcl := (hf j hjl).1
      rw [addr_add] at hcl
      have hkf : ((List.range len').map f)[j]? = some (f j) := by simp [hjl]
      rw [cellsI_at hkf] at hu
      rw [hcl, ← hu]
    · simp only [List.mem_map, List.mem_range] at hx
      obtain ⟨j, hj, rfl⟩ := hx
      exact bounds64 (hf j hj).2
end
end Go.Proofs.Ytpeobnmfndelhaa.opens
