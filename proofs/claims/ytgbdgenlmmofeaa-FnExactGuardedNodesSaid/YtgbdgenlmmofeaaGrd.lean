/- The contracts of GuardedNodes: of the program and of the model. -/
import Derived.Handy
import Derived.Test.YtgbdgenlmmofeaaCops
import Derived.Test.YtgbdgenlmmofeaaClosed
import Derived.Test.YtgbdgenlmmofeaaAround
import Derived.Test.YtgbdgenlmmofeaaRet
import Derived.StillTailTactics
namespace Go.Proofs.Ytgbdgenlmmofeaa.cops
open Go.RowKit P2 words edges ints good adjs fns rets sets covs balls bitsI
set_option linter.unusedVariables false

theorem arN_code {n : Nat} {l : List Ed} {tl : List Int} (hg : P2.Good (n : Int) l) (hr : ∀ x ∈ tl, 0 ≤ x ∧ x < (n : Int)) : bags.arN l n (codeL tl) = grdN l tl := by
  have hg' : P2.Good ((n : Nat) : Int) l := hg
  apply Nat.eq_of_testBit_eq
  intro i
  unfold bags.arN
  rw [numOf_bit, grd_bit, Bool.eq_iff_iff, Bool.and_eq_true, decide_eq_true_iff, bags.arB_iff, List.any_eq_true]
  constructor
  · rintro ⟨_, x, hx, hc, he⟩
    rw [code_bit (fun y hy => (hr y hy).1), decide_eq_true_iff] at hc
    refine ⟨(x : Int), hc, ?_⟩
    rw [Int.toNat_natCast, cloB_bit hg, Bool.or_eq_true, beq_iff_eq]
    exact he
  · rintro ⟨x, hx, hb⟩
    have h1 := hr x hx
    rw [cloB_bit hg, Bool.or_eq_true, beq_iff_eq] at hb
    refine ⟨?_, x.toNat, by omega, ?_, hb⟩
    · rcases hb with hb | hb
      · omega
      · have := (adj_node hg hb).2; omega
    · rw [code_bit (fun y hy => (hr y hy).1), decide_eq_true_iff, show ((x.toNat : Nat) : Int) = x from by omega]
      exact hx
set_option maxHeartbeats 2000000 in
set_option maxRecDepth 100000 in
theorem implGrd_any (s : Int) (v u : Value) (l : List Ed) (tl : List Int) (w : World) (h : Edges w v l) (hl : l.length ≤ 1048576) (hu : Ints w u tl) (htl : tl.length ≤ 1048576) :
    Calls Try.prog 31 #[.agg #[.int .i64 s, v], u] w (RetI w (CopsOk s l tl) (grdL l s.toNat tl)) := by
  obtain ⟨A, c, rfl, -⟩ := h.form
  have H := Lib.hid h
  have HU := Lib.hid hu
  have b0 : Below w.heap.size w (w.alloc (.cells #[.int .i64 s, .slice A l.length c] 29)) := (Below.refl _ _).alloc (Nat.le_refl _) _
  have g0 := Blk.new w 29 #[.int .i64 s, .slice A l.length c]
  have HS := Lib.hid (isCops_any s _ u l tl _ (h.below b0) hl (hu.below b0) htl)
  clear h hu
  by_cases hok : CopsOk s l tl
  · rw [okG_yes hok] at HS
    have h0 := hok.1.1
    have h8 := hok.1.2.1
    obtain ⟨n, rfl⟩ : ∃ n : Nat, s = (n : Int) := ⟨s.toNat, by omega⟩
    have hn : n ≤ 8 := by omega
    rw [Int.toNat_natCast]
    have HOK := Lib.hid hok
    clear hok
    go_enter Try.func31, Try.ntmps31
    go_wp2_with fail
    refine HS.out.mono ?_
    rintro e w1 ⟨rfl, b1⟩
    have e1 := btrans b0 b1
    have g1 := g0.below b1 g0.lt
    obtain ⟨p0, p1, -, -⟩ := g1.two
    clear HS b0 b1 g0 g1
    go_wp2_with fail
    refine (closedBits_any n (.slice A l.length c) l w1 (H.out.below e1) hl HOK.out.1 hn).mono ?_
    rintro e w2 ⟨A3, c3, rfl, i3, b3⟩
    have HE2 := Lib.hid (btrans e1 b3)
    have HC3 := Lib.hid i3
    have HCD := Lib.hid (bitsOf_any u tl w2 (HU.out.below HE2.out) htl (fun x hx => by have := HOK.out.2.2.1 x hx; omega))
    have hcl : codeL tl < 256 := code_lt (m := 8) fun x hx => by have := HOK.out.2.2.1 x hx; omega
    have HAR := Lib.hid (closedAround_any n (codeL tl) _ l w2 i3 HOK.out.1 hn hcl)
    have HQ := Lib.hid (arN_code HOK.out.1 HOK.out.2.2.1)
    rw [HQ.out] at HAR
    have HND := Lib.hid (nodes_any (grdN l tl) w2 (by have := grd_lt HOK.out.1 hn HOK.out.2.2.1 tl.length; rw [List.take_length] at this; omega))
    have HGN := Lib.hid (grd_nodes HOK.out.1 hn HOK.out.2.2.1)
    clear e1 b3 i3 p0 p1 hcl
    go_wp2_with fail
    refine HCD.out.mono ?_
    rintro e w' ⟨rfl, rfl⟩
    go_wp2_with fail
    refine HAR.out.mono ?_
    rintro e w' ⟨rfl, rfl⟩
    go_wp2_with fail
    refine HND.out.mono ?_
    rintro e w3 ⟨A4, c4, rfl, o4, b4⟩
    go_wp2_with fail
    go_ret2
    rw [HGN.out] at o4 ⊢
    exact RetI.yes HOK.out (own_base o4 HE2.out.size) (btrans HE2.out b4)
  · rw [okG_no hok] at HS
    have HN := Lib.hid hok
    clear hok
    go_enter Try.func31, Try.ntmps31
    go_wp2_with fail
    refine HS.out.mono ?_
    rintro e w1 ⟨rfl, b1⟩
    have e1 := btrans b0 b1
    clear HS b0 b1 g0
    go_wp2_with fail
    go_ret2
    exact RetI.nil HN.out e1
set_option maxHeartbeats 4000000 in
set_option maxRecDepth 100000 in
theorem specGrd_any (s : Int) (v u : Value) (l : List Ed) (tl : List Int) (w : World) (h : Edges w v l) (hl : l.length ≤ 1048576) (hu : Ints w u tl) (htl : tl.length ≤ 1048576) (hs1 : -9223372036854775808 ≤ s) (hs2 : s ≤ 9223372036854775807) :
    Calls Try.prog 29 #[.agg #[.int .i64 s, v], u] w (RetI w (CopsOk s l tl) (grdL l s.toNat tl)) := by
  obtain ⟨A, c, rfl, -⟩ := h.form
  obtain ⟨A2, c2, rfl, hc2⟩ := hu.form
  have H := Lib.hid h
  have HU := Lib.hid hu
  have HC2 := Lib.hid hc2
  have b0 : Below w.heap.size w ((w.alloc (.cells #[.int .i64 s, .slice A l.length c] 29)).alloc (.cells #[] 3)) := ((Below.refl _ _).alloc (Nat.le_refl _) _).alloc (by simp) _
  have g0 := (Blk.new w 29 #[.int .i64 s, .slice A l.length c]).alloc (.cells #[] 3)
  have o0 : ((w.alloc (.cells #[.int .i64 s, .slice A l.length c] 29)).alloc (.cells #[] 3)).ownsRow w.heap.size 3 1 (.slice (some ⟨w.heap.size + 1, 0, none⟩) 0 0) 0 [] := by
    have h_ := own_new0 (w.alloc (.cells #[.int .i64 s, .slice A l.length c] 29)) 3 1
    rw [World.size_alloc] at h_
    exact own_base h_ (by omega)
  have HF := Lib.hid (l4Field_any s (tl.length : Int) _ l _ (h.below b0) hl hs1 hs2)
  clear h hu hc2
  by_cases hf : FieldP s l (tl.length : Int)
  · rw [okG_yes hf] at HF
    have h0 := hf.1.1
    have h8 := hf.1.2.1
    obtain ⟨n, rfl⟩ : ∃ n : Nat, s = (n : Int) := ⟨s.toNat, by omega⟩
    have hn : n ≤ 8 := by omega
    rw [Int.toNat_natCast]
    have hl3 : tl.length ≤ 3 := by have := hf.2.2.2; omega
    have HCO := Lib.hid (fun (W : World) (hW : Below w.heap.size w W) => l4Cops_any n (.slice A l.length c) (.slice A2 tl.length c2) l tl W (H.out.below hW) hl (HU.out.below hW) htl hn)
    by_cases hcp : CopP n tl
    · rw [okG_yes hcp] at HCO
      have HOK : Hid (CopsOk (n : Int) l tl) := ⟨hf.1, ⟨by have := hf.2.2.1; omega, hl3⟩, hcp.1, hcp.2⟩
      have HZ := Lib.hid (GrdTo.zero l n tl)
      clear hf hcp
      go_enter Try.func29, Try.ntmps29
      go_wp2_with fail
      refine HF.out.mono ?_
      rintro e w1 ⟨rfl, b1⟩
      have e1 := btrans b0 b1
      have g1 := g0.below b1 g0.lt
      have o1 := own_below o0 b1
      obtain ⟨p0, p1, -, -⟩ := g1.two
      have HCO1 := Lib.hid (HCO.out w1 e1)
      clear HF b0 b1 g0 o0 HCO
      go_wp2_with fail
      refine HCO1.out.mono ?_
      rintro e w2 ⟨rfl, b2⟩
      have HE2 := Lib.hid (btrans e1 b2)
      have HG2 := Lib.hid (g1.below b2 g1.lt)
      have HO2 := Lib.hid (own_below o1 b2)
      clear HCO1 b2 g1 o1 e1 p0 p1
      go_wp2_with fail
      go_loopg [6, 7] tl.length (fun g ov iv wr => ∃ (k : Nat) (L : List Int) (ow : Value), ow = ov ∧ k + g = tl.length ∧ iv = .int .i64 (k : Int) ∧ Hid (GrdTo l n tl k [] 0 L) ∧ wr.ownsRow w.heap.size 3 1 ow L.length (cellsI L) ∧ Blk wr w.heap.size 29 #[.int .i64 (n : Int), .slice A l.length c] ∧ Below w.heap.size w wr)
      case atStart => exact ⟨0, [], _, rfl, by omega, rfl, HZ, HO2.out, HG2.out, HE2.out⟩
      case round =>
        clear HZ HO2 HG2 HE2
        obtain ⟨k, L, ow, rfl, hkg, rfl, hgr, hrow, hgb, hB⟩ := hrel
        cases gk with
        | zero =>
          obtain rfl : k = tl.length := by omega
          have HV := Lib.hid (hgr.out.all HOK.out.1)
          obtain ⟨A4, c4, rfl⟩ := own_form hrow
          have HR := Lib.hid hrow
          have HB := Lib.hid hB
          clear hrow hgb hB hgr
          go_wp2_with fail
          go_ret2
          rw [← HV.out]
          exact RetI.yes HOK.out HR.out HB.out
        | succ g2 =>
          have hlt : k < tl.length := by omega
          have hlt' : (k : Int) < (tl.length : Int) := by omega
          obtain ⟨x, hx⟩ : ∃ x, tl[k]? = some x := ⟨_, List.getElem?_eq_getElem hlt⟩
          have hxm := HOK.out.2.2.1 x (List.mem_of_getElem? hx)
          obtain ⟨ga, oa, rfl, c0⟩ := HC2.out k x hx
          have q0 := nearv.cell_keep c0 hB
          obtain ⟨p0, p1, -, -⟩ := hgb.two
          have HBL := Lib.hid (l2Ball_any n x (.slice A l.length c) l wr.drew (H.out.below hB.drew) hl hn hxm)
          have HGF := Lib.hid (hgr.out.first (nw (ballB l x.toNat) n))
          have HGX := Lib.hid (fun M (hM : GrdTo l n tl k (nw (ballB l x.toNat) n) (nw (ballB l x.toNat) n).length M) => GrdTo.next hx hn hM)
          have hbl := nw_len (ballB l x.toNat) n
          have HR := Lib.hid hrow
          have HG := Lib.hid hgb
          have HB := Lib.hid hB
          clear hx c0 hrow hgb hB hgr
          generalize nw (ballB l x.toNat) n = bl at *
          go_wp2_with fail
          go_still_tail 5, (by kernel_rfl)
          change wpList _ _ _ _ _ wr.drew
          go_wp2_with fail
          refine HBL.out.mono ?_
          rintro e w3 ⟨A5, c5, rfl, r5, b5⟩
          have d5 : Below wr.heap.size wr w3 := (Below.refl _ _).drew.trans b5
          have HR5 : Hid (Ints w3 (.slice A5 bl.length c5) bl) := r5
          have HO3 := Lib.hid (own_below HR.out d5)
          have HB3 := Lib.hid (btrans HB.out d5)
          have HG3 := Lib.hid (HG.out.below d5 HG.out.lt)
          clear r5 b5 d5 p0 p1 q0
          go_wp2_with fail
          go_loopg [6, 9] bl.length (fun g ov jv wi => ∃ (j : Nat) (L : List Int) (ow : Value), ow = ov ∧ j + g = bl.length ∧ jv = .int .i64 (j : Int) ∧ Hid (GrdTo l n tl k bl j L) ∧ wi.ownsRow w.heap.size 3 1 ow L.length (cellsI L) ∧ Below w3.heap.size w3 wi)
          case atStart => exact ⟨0, L, _, rfl, by omega, rfl, HGF, HO3.out, Below.refl _ _⟩
          case round =>
            clear HGF HO3
            obtain ⟨j, M, ow, rfl, hjg, rfl, hgr, hrow, hB4⟩ := hrel
            have hML := hgr.out.2.2
            cases gk with
            | zero =>
              obtain rfl : j = bl.length := by omega
              have HN := Lib.hid (HGX.out M hgr.out)
              have HR6 := Lib.hid hrow
              have HB6 := Lib.hid (btrans HB3.out hB4)
              have HG6 := Lib.hid (HG3.out.below hB4 HG3.out.lt)
              obtain ⟨A7, c7, rfl⟩ := own_form hrow
              clear hrow hB4 hgr hML
              go_wp2_with fail
              go_roundg g2
              case measure => omega
              case rel => exact ⟨k + 1, M, _, rfl, by omega, by go_num, HN, HR6.out, HG6.out, HB6.out⟩
            | succ g4 =>
              have hjt' : (j : Int) < (bl.length : Int) := by omega
              obtain ⟨b, hb⟩ : ∃ b, bl[j]? = some b := ⟨_, List.getElem?_eq_getElem (by omega)⟩
              obtain ⟨_, _, hf6, hcc6⟩ := (show Ints wr (.slice A5 bl.length c5) bl from HR5.out.below hB4).form
              cases hf6
              obtain ⟨g6, o6, rfl, q6⟩ := hcc6 j b hb
              have HPU := Lib.hid (l1Put_own ow M b wr w.heap.size hrow (Nat.le_trans HB3.out.size hB4.size) (by omega) hgr.out.1)
              have HNX := Lib.hid (fun L' (hp : PutI M b L') => hgr.out.put hb hp)
              have HB4 := Lib.hid hB4
              obtain ⟨A7, c7, rfl⟩ := own_form hrow
              clear hrow hB4 hgr hML hb hcc6
              go_wp2_with fail
              refine HPU.out.mono ?_
              rintro e w7 ⟨L', A8, c8, rfl, hp8, o8, b8⟩
              have HN := Lib.hid (HNX.out L' hp8)
              have HO8 := Lib.hid o8
              have HB8 := Lib.hid (btrans HB4.out b8)
              clear hp8 o8 b8
              go_wp2_with fail
              go_roundg g4
              case measure => omega
              case rel => exact ⟨j + 1, L', _, rfl, by omega, by go_num, HN, HO8.out, HB8.out⟩
    · rw [okG_no hcp] at HCO
      have HNO : Hid (¬ CopsOk (n : Int) l tl) := fun hh => hcp ⟨hh.2.2.1, hh.2.2.2⟩
      clear hf hcp
      go_enter Try.func29, Try.ntmps29
      go_wp2_with fail
      refine HF.out.mono ?_
      rintro e w1 ⟨rfl, b1⟩
      have e1 := btrans b0 b1
      have g1 := g0.below b1 g0.lt
      have o1 := own_below o0 b1
      obtain ⟨p0, p1, -, -⟩ := g1.two
      have HCO1 := Lib.hid (HCO.out w1 e1)
      clear HF b0 b1 g0 o0 HCO
      go_wp2_with fail
      refine HCO1.out.mono ?_
      rintro e w2 ⟨rfl, b2⟩
      have e2 := btrans e1 b2
      have o2 := own_below o1 b2
      go_wp2_with fail
      go_ret2
      exact RetI.no HNO.out o2 e2
  · rw [okG_no hf] at HF
    have HNO : Hid (¬ CopsOk s l tl) := fun hh => hf ⟨hh.1, by
      obtain ⟨x, hx⟩ : ∃ x, tl[0]? = some x := ⟨_, List.getElem?_eq_getElem (by have := hh.2.1.1; omega)⟩
      have := hh.2.2.1 x (List.mem_of_getElem? hx)
      omega, by have := hh.2.1.1; omega, by have := hh.2.1.2; omega⟩
    clear hf
    go_enter Try.func29, Try.ntmps29
    go_wp2_with fail
    refine HF.out.mono ?_
    rintro e w1 ⟨rfl, b1⟩
    have e1 := btrans b0 b1
    have o1 := own_below o0 b1
    clear HF b0 b1 g0 o0
    go_wp2_with fail
    go_ret2
    exact RetI.no HNO.out o1 e1
end Go.Proofs.Ytgbdgenlmmofeaa.cops
