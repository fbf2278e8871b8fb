/- The contracts of the model's l6BagsOf and BagsOfLayout. -/
import Derived.Handy
import Derived.Test.YtbjcfjgoedpgdaaLbM
import Derived.Test.YtbjcfjgoedpgdaaFsS
import Derived.Test.YtbjcfjgoedpgdaaGridW
import Derived.Test.YtbjcfjgoedpgdaaGridL
import Derived.Deep.DeepCutAuto
import Derived.StillTailTactics
namespace Go.Proofs.Ytbjcfjgoedpgdaa.fronts
open Go.RowKit P2 words edges ints good adjs fns sets rets covs reach bags balls each grid gridr mids
set_option linter.unusedVariables false

theorem nw_one {n x : Nat} (hx : x < n) : nw (fun z => decide (z = x)) n = [(x : Int)] := by
  refine (asc_ext (by unfold Asc; simp) (nw_asc _ _) fun e => ?_).symm
  rw [mem_nw]
  simp only [List.mem_singleton]
  constructor
  · rintro rfl; exact ⟨x, hx, by simp, rfl⟩
  · rintro ⟨j, hj, hp, rfl⟩
    have := of_decide_eq_true hp
    omega
set_option maxHeartbeats 8000000 in
set_option maxRecDepth 100000 in
theorem l6BagsOf_any (n : Nat) (v u : Value) (l : List Ed) (tl : List Int) (w : World) (h : Edges w v l) (hl : l.length ≤ 1048576) (hu : Ints w u tl) (hg : P2.Good (n : Int) l) (he : EachS n tl) :
    Calls Try.prog 60 #[.agg #[.int .i64 (n : Int), v], u] w fun e w' => ∃ A c us, e = .returned (.slice A n c) ∧ OwnG w' w.heap.size (.slice A n c) us (lbK n l tl n) ∧ Below w.heap.size w w' := by
  have hn8 : n ≤ 8 := by have := hg.2.1; omega
  obtain ⟨A, c, rfl, -⟩ := h.form
  obtain ⟨A2, c2, rfl, hc2⟩ := hu.form
  have H := Lib.hid h
  have HC2 := Lib.hid hc2
  have HE := Lib.hid he
  have HGD := Lib.hid hg
  obtain ⟨i1, hi1, hy0, hy1, hy2⟩ := info_parts infoRow
  have HB0 : Hid (Below w.heap.size w ((w.alloc (.cells #[.int .i64 (n : Int), .slice A l.length c] 29)).alloc (.cells #[] 25))) := ((Below.refl _ _).alloc (Nat.le_refl _) _).alloc (by simp) _
  have HG0 := Lib.hid ((Blk.new w 29 #[.int .i64 (n : Int), .slice A l.length c]).alloc (.cells #[] 25))
  have HO0 : Hid (OwnG ((w.alloc (.cells #[.int .i64 (n : Int), .slice A l.length c] 29)).alloc (.cells #[] 25)) w.heap.size (.slice (some ⟨w.heap.size + 1, 0, none⟩) 0 0) [] (lbK n l tl 0)) := by
    have h_ := own_new0 (w.alloc (.cells #[.int .i64 (n : Int), .slice A l.length c] 29)) 25 1
    rw [World.size_alloc] at h_
    exact ⟨own_base h_ (by omega), fun i u r hu => by simp at hu, fun i j u u' k _ hu => by simp at hu⟩
  have hnl := he.1
  rw [hnl]
  clear h hu hc2 he hg hnl
  go_enter Try.func60, Try.ntmps60
  go_wp2_with fail
  go_loopg [5, 6] n (fun g ov iv wr => ∃ (i : Nat) (ow : Value) (us : List Value), ow = ov ∧ i + g = n ∧ iv = .int .i64 (i : Int) ∧ OwnG wr w.heap.size ow us (lbK n l tl i) ∧ Blk wr w.heap.size 29 #[.int .i64 (n : Int), .slice A l.length c] ∧ Below w.heap.size w wr)
  case atStart => exact ⟨0, _, _, rfl, by omega, rfl, HO0.out, HG0.out, HB0.out⟩
  case round =>
    clear HB0 HG0 HO0
    obtain ⟨i, ow, us, rfl, hig, rfl, hG, hgb, hB⟩ := hrel
    obtain ⟨A4, c4, rfl⟩ := own_form hG.1
    have hlk := lbK_len n l tl i
    have hul := hG.len
    rw [hlk] at hul
    obtain ⟨wo, hwo⟩ : ∃ wo, wo = wr := ⟨_, rfl⟩
    subst hwo
    cases gk with
    | zero =>
      obtain rfl : i = n := by omega
      have HG := Lib.hid hG
      have HB := Lib.hid hB
      have HLK := Lib.hid hlk
      clear hG hgb hB hlk hul
      go_wp2_with fail
      go_ret
      have h_ := HG.out
      rw [HLK.out] at h_ ⊢
      exact ⟨A4, c4, us, rfl, h_, HB.out⟩
    | succ g2 =>
      have hlt : i < n := by omega
      have hilt : (i : Int) < (n : Int) := by omega
      obtain ⟨xv, hxv⟩ : ∃ xv, tl[i]? = some xv := ⟨_, List.getElem?_eq_getElem (by rw [HE.out.1]; omega)⟩
      have hxr := HE.out.range xv (List.mem_of_getElem? hxv)
      obtain ⟨x, rfl⟩ : ∃ x : Nat, xv = (x : Int) := ⟨xv.toNat, by omega⟩
      have hxn : x < n := by omega
      obtain ⟨g5, o5, rfl, c5⟩ := HC2.out i _ hxv
      have q5 := nearv.cell_keep c5 hB
      have HXV := Lib.hid hxv
      have HG := Lib.hid hG
      have HB := Lib.hid hB
      have HLS := Lib.hid (lbK_succ n l tl i)
      have HP1 := Lib.hid (LbI.start (n := n) (l := l) hxv)
      have HG1 := Lib.hid (hgb.alloc (.cells #[.int .i64 (x : Int)] 3))
      have hos := hB.size
      have HB1 : Hid (Below wo.heap.size wo (wo.alloc (.cells #[.int .i64 (x : Int)] 3))) := (Below.refl _ _).alloc (Nat.le_refl _) _
      have HR1 : Hid ((wo.alloc (.cells #[.int .i64 (x : Int)] 3)).ownsRow wo.heap.size 3 1 (.slice (some ⟨wo.heap.size, 0, none⟩) 1 1) (nw (fun z => decide (z = x)) n).length (cellsI (nw (fun z => decide (z = x)) n))) := by
        show World.ownsRow _ _ _ _ _ _ _
        rw [nw_one hxn]
        exact own_new1 wo 3 (x : Int)
      have hul8 : us.length ≤ 8 := by omega
      have HUL := Lib.hid hul
      have HLK := Lib.hid hlk
      clear hxv c5 hG hgb hB hul hlk
      go_wp2_with fail
      go_loopg [7, 8] i (fun g bv kv wr => ∃ (k : Nat) (p : Nat → Bool) (bw : Value), bw = bv ∧ k + g = i ∧ kv = .int .i64 (k : Int) ∧ Hid (LbI n l tl i k i p) ∧ wr.ownsRow wo.heap.size 3 1 bw (nw p n).length (cellsI (nw p n)) ∧ Blk wr w.heap.size 29 #[.int .i64 (n : Int), .slice A l.length c] ∧ Below wo.heap.size wo wr)
      case atStart => exact ⟨0, _, _, rfl, by omega, rfl, HP1, HR1.out, HG1.out, HB1.out⟩
      case round =>
        clear HP1 HR1 HG1 HB1 q5
        obtain ⟨k, p, bw, rfl, hkg, rfl, hlb, hrow, hgb, hB1⟩ := hrel
        obtain ⟨A6, c6, rfl⟩ := own_form hrow
        have hpl := nw_len p n
        cases gk with
        | zero =>
          obtain rfl : k = i := by omega
          have HALL : Hid (nw p n = lbT n l tl k) := hlb.out.all HE.out HGD.out hlt
          have hown5 := (HG.out.below hB1).1
          have hlk8 : (lbK n l tl k).length ≤ 8 := by rw [HLK.out]; omega
          have HR := Lib.hid hrow
          have HGB := Lib.hid hgb
          have HB1 := Lib.hid hB1
          have hsz := hB1.size
          clear hrow hgb hB1 hlb
          generalize nw p n = bl at *
          go_wp2_with (at_builtin; refine wpList_append_own _ rfl _ _ 39 rfl w.heap.size 25 i1 (.slice none 0 0) 1 24 Try.underlying39 hi1 hy0 hy1 hy2 rfl (by decide) _ _ _ rfl (hown5.alloc _) ⟨wr.heap.size, 0, none⟩ 1 1 [.slice A6 bl.length c6] rfl rfl (cell_one_new _ _ _) (fun x hx => by simp at hx; subst hx; rfl) (by unfold maxLen; omega) (by omega) (by simp; omega) ?_; intro v6 w6 hown6 hgrow6 _)
          have HG6 : Hid (OwnG w6 w.heap.size v6 (us ++ [.slice A6 bl.length c6]) (lbK n l tl (k + 1))) := by
            show OwnG _ _ _ _ _
            rw [HLS.out, ← HALL.out]
            exact OwnG.push HG.out HB1.out hos HR.out hown6 rfl hgrow6
          have HGB6 := Lib.hid ((HGB.out.alloc (.cells #[.slice A6 bl.length c6] 25)).grown hgrow6 (fun e => own_ne (HG.out.below HB1.out).1 HGB.out (by decide) e.symm))
          have HB6 := Lib.hid (((btrans HB.out HB1.out).alloc (by omega) (.cells #[.slice A6 bl.length c6] 25)).grown hgrow6 (by simp; omega) (fun j e => (HG.out.1.lt j e).1))
          clear hown6 hgrow6 hown5
          go_roundg g2
          case measure => omega
          case rel => exact ⟨k + 1, _, _, rfl, by omega, by go_num, HG6.out, HGB6.out, HB6.out⟩
        | succ g3 =>
          have hki : (k : Int) < (i : Int) := by omega
          obtain ⟨zv, hzv⟩ : ∃ zv, tl[k]? = some zv := ⟨_, List.getElem?_eq_getElem (by rw [HE.out.1]; omega)⟩
          have hzr := HE.out.range zv (List.mem_of_getElem? hzv)
          obtain ⟨z, rfl⟩ : ∃ z : Nat, zv = (z : Int) := ⟨zv.toNat, by omega⟩
          have hzn : z < n := by omega
          obtain ⟨_, _, hf7, c7⟩ := HC2.out k _ hzv
          cases hf7
          have HZV := Lib.hid hzv
          have HC7 := Lib.hid c7
          have HR0 := Lib.hid hrow
          have HG0 := Lib.hid hgb
          have HB0 := Lib.hid hB1
          clear hzv c7 hrow hgb hB1
          go_wp2_with fail
          go_loopg [7, 9] (n - i) (fun g bv jv wr => ∃ (j : Nat) (p : Nat → Bool) (bw : Value), bw = bv ∧ j + g = n ∧ i ≤ j ∧ jv = .int .i64 (j : Int) ∧ Hid (LbI n l tl i k j p) ∧ wr.ownsRow wo.heap.size 3 1 bw (nw p n).length (cellsI (nw p n)) ∧ Blk wr w.heap.size 29 #[.int .i64 (n : Int), .slice A l.length c] ∧ Below wo.heap.size wo wr)
          case atStart => exact ⟨i, p, _, rfl, by omega, by omega, rfl, hlb, HR0.out, HG0.out, HB0.out⟩
          case round =>
            clear hlb HR0 HG0 HB0
            obtain ⟨j, p, bw, rfl, hjg, hij, rfl, hlb, hrow, hgb, hB1⟩ := hrel
            obtain ⟨A8, c8, rfl⟩ := own_form hrow
            have hpl := nw_len p n
            cases gk with
            | zero =>
              obtain rfl : j = n := by omega
              have HN : Hid (LbI j l tl i (k + 1) i p) := by
                have h_ := hlb.out
                have h9 := HE.out.1
                exact LbI.next (by rw [h9]; exact h_)
              have HR := Lib.hid hrow
              have HGB := Lib.hid hgb
              have HB1 := Lib.hid hB1
              clear hrow hgb hB1 hlb
              go_wp2_with fail
              go_roundg g3
              case measure => omega
              case rel => exact ⟨k + 1, p, _, rfl, by omega, by go_num, HN, HR.out, HGB.out, HB1.out⟩
            | succ g4 =>
              have hjn : (j : Int) < (n : Int) := by omega
              have hkn : (k : Int) < (n : Int) := by omega
              obtain ⟨yv, hyv⟩ : ∃ yv, tl[j]? = some yv := ⟨_, List.getElem?_eq_getElem (by rw [HE.out.1]; omega)⟩
              obtain ⟨_, _, hf9, c9⟩ := HC2.out j _ hyv
              cases hf9
              obtain ⟨p0, p1, -, -⟩ := hgb.two
              have q7 := nearv.cell_keep HC7.out (btrans HB.out hB1)
              have q9 := nearv.cell_keep c9 (btrans HB.out hB1)
              have HNR := Lib.hid (l2Near_any (n : Int) (z : Int) yv (.slice A l.length c) l wr.drew (H.out.below (btrans HB.out hB1).drew) hl)
              have HPUT := Lib.hid (fun (W : World) (hb : Below wr.heap.size wr W) => l1Put_own _ (nw p n) (z : Int) W wo.heap.size (own_below hrow hb) (Nat.le_trans hB1.size hb.size) (by omega) (nw_asc _ _))
              have HR := Lib.hid hrow
              have HGB := Lib.hid hgb
              have HB1 := Lib.hid hB1
              have HYV := Lib.hid hyv
              clear hrow hgb hB1 hyv c9
              cases hadj : adj l (z : Int) yv with
              | false =>
                have HN := Lib.hid (hlb.out.skip HZV.out HYV.out hadj)
                rw [hadj] at HNR
                clear hadj HPUT
                go_wp2_with fail
                go_still_tail 9, (by kernel_rfl)
                change wpList _ _ _ _ _ wr.drew
                go_wp2_with fail
                refine HNR.out.mono ?_
                rintro e w1 ⟨rfl, b1⟩
                have d1 : Below wr.heap.size wr w1 := (Below.refl _ _).drew.trans b1
                have HR1 := Lib.hid (own_below HR.out d1)
                have HG1 := Lib.hid (HGB.out.below d1 HGB.out.lt)
                have HB2 := Lib.hid (btrans HB1.out d1)
                clear b1 d1
                go_wp2_with fail
                go_roundg g4
                case measure => omega
                case rel => exact ⟨j + 1, p, _, rfl, by omega, by omega, by go_num, HN, HR1.out, HG1.out, HB2.out⟩
              | true =>
                have HN := Lib.hid (hlb.out.put HZV.out HYV.out hij hadj)
                rw [hadj] at HNR
                clear hadj
                go_wp2_with fail
                go_still_tail 9, (by kernel_rfl)
                change wpList _ _ _ _ _ wr.drew
                go_wp2_with fail
                refine HNR.out.mono ?_
                rintro e w1 ⟨rfl, b1⟩
                have d1 : Below wr.heap.size wr w1 := (Below.refl _ _).drew.trans b1
                have HP1 := Lib.hid (HPUT.out w1 d1)
                have HG1 := Lib.hid (HGB.out.below d1 HGB.out.lt)
                have HB2 := Lib.hid (btrans HB1.out d1)
                have q8 := nearv.cell_keep HC7.out (btrans HB.out HB2.out)
                clear b1 d1 q7 q9
                go_wp2_with fail
                refine HP1.out.mono ?_
                rintro e w2 ⟨L, A7, c7, rfl, hp7, o7, b7⟩
                have HL := Lib.hid (pput_is hp7 hzn)
                have HG2 := Lib.hid (HG1.out.below b7 HG1.out.lt)
                have HB3 := Lib.hid (btrans HB2.out b7)
                have HO7 := Lib.hid o7
                clear b7 hp7 o7
                go_wp2_with fail
                go_roundg g4
                case measure => omega
                case rel => exact ⟨j + 1, pput p z, _, rfl, by omega, by omega, by go_num, HN, by rw [← HL.out]; exact HO7.out, HG2.out, HB3.out⟩
set_option maxHeartbeats 2000000 in
set_option maxRecDepth 100000 in
theorem specBagsOf_any (s : Int) (v u : Value) (l : List Ed) (tl : List Int) (w : World) (h : Edges w v l) (hl : l.length ≤ 1048576) (hu : Ints w u tl) (htl : tl.length ≤ 1048576) (hs1 : -9223372036854775808 ≤ s) (hs2 : s ≤ 9223372036854775807) :
    Calls Try.prog 27 #[.agg #[.int .i64 s, v], u] w (RetGr w (ElimOk s l tl) (lbK s.toNat l tl s.toNat)) := by
  obtain ⟨A, c, rfl, -⟩ := h.form
  obtain ⟨A2, c2, rfl, -⟩ := hu.form
  have H := Lib.hid h
  have HU := Lib.hid hu
  have b0 : Below w.heap.size w (w.alloc (.cells #[.int .i64 s, .slice A l.length c] 29)) := (Below.refl _ _).alloc (Nat.le_refl _) _
  have g0 := Blk.new w 29 #[.int .i64 s, .slice A l.length c]
  have HG := Lib.hid (l2Good_any s _ l _ (h.below b0) hl hs1 hs2)
  clear h hu
  by_cases hgd : P2.Good s l
  · rw [goodB_yes hgd] at HG
    have h0 := hgd.1
    have h8 := hgd.2.1
    obtain ⟨n, rfl⟩ : ∃ n : Nat, s = (n : Int) := ⟨s.toNat, by omega⟩
    have hn : n ≤ 8 := by omega
    rw [Int.toNat_natCast]
    have HL := Lib.hid (fun (W : World) (hW : Below w.heap.size w W) => l6Layout_any n (.slice A l.length c) (.slice A2 tl.length c2) l tl W (H.out.below hW) (HU.out.below hW) htl hn)
    rw [elim_each hgd] at HL
    by_cases hok : ElimOk (n : Int) l tl
    · rw [okG_yes hok] at HL
      have HOK := Lib.hid hok
      have HLN := Lib.hid (lbK_len n l tl n)
      clear hgd hok
      go_enter Try.func27, Try.ntmps27
      go_wp2_with fail
      refine HG.out.mono ?_
      rintro e w1 ⟨rfl, b1⟩
      have e1 := btrans b0 b1
      have g1 := g0.below b1 g0.lt
      obtain ⟨p0, p1, -, -⟩ := g1.two
      have HL1 := Lib.hid (HL.out w1 e1)
      clear HG b0 b1 g0 HL
      go_wp2_with fail
      refine HL1.out.mono ?_
      rintro e w2 ⟨rfl, b2⟩
      have e2 := btrans e1 b2
      have g2 := g1.below b2 g1.lt
      clear p0 p1
      obtain ⟨p0, p1, -, -⟩ := g2.two
      go_wp2_with fail
      refine (l6BagsOf_any n (.slice A l.length c) (.slice A2 tl.length c2) l tl w2 (H.out.below e2) hl (HU.out.below e2) HOK.out.1 (by have := HOK.out.2; rwa [Int.toNat_natCast] at this)).mono ?_
      rintro e w3 ⟨A3, c3, us, rfl, o3, b3⟩
      have HO3 := Lib.hid (o3.base e2.size)
      have HB3 := Lib.hid (btrans e2 b3)
      clear o3 b3 e2 e1 g1 g2 p0 p1 b2
      go_wp2_with fail
      go_ret2
      have h9 := RetGr.yes (rows := lbK n l tl n) (A := A3) (c := c3) (us := us) HOK.out (by rw [HLN.out]; exact HO3.out) HB3.out
      rw [HLN.out] at h9
      exact h9
    · rw [okG_no hok] at HL
      have HN := Lib.hid hok
      clear hgd hok
      go_enter Try.func27, Try.ntmps27
      go_wp2_with fail
      refine HG.out.mono ?_
      rintro e w1 ⟨rfl, b1⟩
      have e1 := btrans b0 b1
      have g1 := g0.below b1 g0.lt
      obtain ⟨p0, p1, -, -⟩ := g1.two
      have HL1 := Lib.hid (HL.out w1 e1)
      clear HG b0 b1 g0 HL
      go_wp2_with fail
      refine HL1.out.mono ?_
      rintro e w2 ⟨rfl, b2⟩
      have HE2 := Lib.hid (btrans e1 b2)
      have HO := Lib.hid (own_new0 w2 25 1)
      go_wp2_with fail
      go_ret2
      exact RetGr.no HN.out (own_base HO.out HE2.out.size) (HE2.out.alloc HE2.out.size _)
  · rw [goodB_no hgd] at HG
    have HN : Hid (¬ ElimOk s l tl) := fun hh => hgd hh.1
    clear hgd
    go_enter Try.func27, Try.ntmps27
    go_wp2_with fail
    refine HG.out.mono ?_
    rintro e w1 ⟨rfl, b1⟩
    have HE1 := Lib.hid (btrans b0 b1)
    have HO := Lib.hid (own_new0 w1 25 1)
    go_wp2_with fail
    go_ret2
    exact RetGr.no HN.out (own_base HO.out HE1.out.size) (HE1.out.alloc HE1.out.size _)
end Go.Proofs.Ytbjcfjgoedpgdaa.fronts
