/- All sets in their order: the contract of the model's l5Sets. -/
import Derived.Handy
import Derived.Test.YtfphpilabfpmjaaStsM
import Derived.Test.YtfphpilabfpmjaaLexS
import Derived.Test.YtfphpilabfpmjaaPutL
import Derived.Test.YtfphpilabfpmjaaTrip
import Derived.Test.YtfphpilabfpmjaaGridW
import Derived.Test.YtfphpilabfpmjaaGridR
import Derived.Test.YtfphpilabfpmjaaGridL
import Derived.Deep.DeepCutAuto
import Derived.Deep.RegionHeld3
import Derived.Deep.QuietTactic
namespace Go.Proofs.Ytfphpilabfpmjaa.forc
open Go.RowKit P2 words edges ints good adjs fns sets rets covs bags bitsI ups func apps grid gridr gridl trip lists
set_option linter.unusedVariables false

def rowS (L : List Nat) : List (List Int) := L.map ndN
theorem rowS_len (L : List Nat) : (rowS L).length = L.length := List.length_map _
theorem rowS_ins (L : List Nat) (x k : Nat) : rowS (L.take k ++ x :: L.drop k) = (rowS L).take k ++ ndN x :: (rowS L).drop k := by
  simp [rowS, List.map_take, List.map_drop]
theorem rowS_at {L : List Nat} {i c : Nat} (h : L[i]? = some c) : (rowS L)[i]? = some (ndN c) := by simp [rowS, h]
set_option maxHeartbeats 8000000 in
set_option maxRecDepth 100000 in
theorem l5Sets_any (n m : Nat) (v : Value) (l : List Ed) (w : World) (h : Edges w v l) (hn : n ≤ 8) (hm : m ≤ n + 1) :
    Calls Try.prog 76 #[.agg #[.int .i64 (n : Int), v], .int .i64 (m : Int)] w fun e w' => ∃ A c us, e = .returned (.slice A (rowS (setT n m 0)).length c) ∧ OwnG w' w.heap.size (.slice A (rowS (setT n m 0)).length c) us (rowS (setT n m 0)) ∧ Below w.heap.size w w' := by
  obtain ⟨i1, hi1, hy0, hy1, hy2⟩ := info_parts infoRow
  obtain ⟨A, c, rfl, -⟩ := h.form
  have e_w := Below.refl w.heap.size w
  have HGB := Lib.hid ((Blk.new w 29 #[.int .i64 (n : Int), .slice A l.length c]).alloc (.cells #[] 25))
  obtain ⟨p0, p1, -, -⟩ := HGB.out.two
  have HO0 : Hid (OwnG ((w.alloc (.cells #[.int .i64 (n : Int), .slice A l.length c] 29)).alloc (.cells #[] 25)) w.heap.size (.slice (some ⟨w.heap.size + 1, 0, none⟩) 0 0) [] (rowS (setT n 0 0))) := by
    show OwnG _ _ _ _ _
    rw [setT_start]
    refine ⟨?_, fun i u r hu => by simp at hu, fun i j u u' k _ hu => by simp at hu⟩
    have := own_new0 (w.alloc (.cells #[.int .i64 (n : Int), .slice A l.length c] 29)) 25 1
    rw [World.size_alloc] at this
    exact own_base this (by omega)
  have b0 : Below w.heap.size w ((w.alloc (.cells #[.int .i64 (n : Int), .slice A l.length c] 29)).alloc (.cells #[] 25)) := (by have hz_ := (e_w).size; have hb_ := e_w; go_grown)
  have HB0 := Lib.hid b0
  have hpn := pow_le hn
  obtain ⟨Z, hZ⟩ : ∃ Z, Z = 2 ^ n := ⟨_, rfl⟩
  have hw1 : IntKind.i64.wrap ((2 : Int) ^ n) = (Z : Int) := by
    rw [show ((2 : Int) ^ n) = ((2 ^ n : Nat) : Int) from by push_cast; rfl, ← hZ]
    rw [← hZ] at hpn
    exact IntWalk.i64_in _ (by omega)
  rw [← hZ] at hpn
  have HZ := Lib.hid hZ
  clear hZ
  clear h e_w b0
  go_enter Try.func76, Try.ntmps76
  go_wp2_with fail
  go_loopg [5, 6] m (fun g ov iv wr => ∃ (many : Nat) (us : List Value) (ow : Value), ow = ov ∧ many + g = m ∧ iv = .int .i64 (many : Int) ∧ OwnG wr w.heap.size ow us (rowS (setT n many 0)) ∧ Blk wr w.heap.size 29 #[.int .i64 (n : Int), .slice A l.length c] ∧ Below w.heap.size w wr)
  case atStart => exact ⟨0, [], _, rfl, by omega, rfl, HO0.out, HGB.out, HB0.out⟩
  case round =>
    clear HO0 HGB HB0 p0 p1
    obtain ⟨many, us, ow, rfl, hmg, rfl, hgr, hgb, hB⟩ := hrel
    obtain ⟨A4, c4, rfl⟩ := own_form hgr.1
    have HGR := Lib.hid hgr
    have HGB := Lib.hid hgb
    have HB := Lib.hid hB
    obtain ⟨p0, p1, -, -⟩ := hgb.two
    clear hgr hgb hB
    cases gk with
    | zero =>
      obtain rfl : many = m := by omega
      go_wp2_with fail
      go_ret
      exact ⟨_, _, us, rfl, HGR.out, HB.out⟩
    | succ g2 =>
      have hmm : (many : Int) < (m : Int) := by omega
      go_wp2_with fail
      go_loopg [5, 7] Z (fun g ov iv wr => ∃ (code : Nat) (us : List Value) (ow : Value), ow = ov ∧ code + g = Z ∧ iv = .int .i64 (code : Int) ∧ OwnG wr w.heap.size ow us (rowS (setT n many code)) ∧ Blk wr w.heap.size 29 #[.int .i64 (n : Int), .slice A l.length c] ∧ Below w.heap.size w wr)
      case atStart => exact ⟨0, us, _, rfl, by omega, rfl, HGR.out, HGB.out, HB.out⟩
      case round =>
        clear HGR HGB HB p0 p1
        obtain ⟨code, us, ow, rfl, hcg, rfl, hgr, hgb, hB⟩ := hrel
        obtain ⟨A5, c5, rfl⟩ := own_form hgr.1
        have HGR := Lib.hid hgr
        have HGB := Lib.hid hgb
        have HB := Lib.hid hB
        obtain ⟨p0, p1, -, -⟩ := hgb.two
        clear hgr hgb hB
        cases gk with
        | zero =>
          obtain rfl : code = Z := by omega
          have HW : Hid (setT n many code = setT n (many + 1) 0) := by show _ = _; rw [HZ.out]; exact setT_wrap hn
          have HG2 := HGR.out
          rw [HW.out] at HG2
          have HG3 := Lib.hid HG2
          have hlen : (rowS (setT n many code)).length = (rowS (setT n (many + 1) 0)).length := by rw [HW.out]
          rw [hlen]
          clear HG2 HGR hlen
          go_wp2_with fail
          go_roundg g2
          case measure => omega
          case rel => exact ⟨many + 1, us, _, rfl, by omega, by go_num, HG3.out, HGB.out, HB.out⟩
        | succ gq =>
          have hcl : code < Z := by omega
          have hcl' : (code : Int) < (Z : Int) := by omega
          have hcn : code < 2 ^ n := by rw [← HZ.out]; exact hcl
          have HBT := Lib.hid (l2Bits_any n code wr hn (by omega))
          rw [nd_bits hn hcn] at HBT
          have HSK := Lib.hid (setT_skip (n := n) (many := many) (code := code) hn)
          have HAT := Lib.hid (setT_at (n := n) (many := many) (code := code) hn hcn)
          have hll : (rowS (setT n many code)).length ≤ 256 := by rw [rowS_len]; exact setT_len hn _ _
          have hnl : (ndN code).length = onesN code := nd_len code
          have hX8 : (ndN code).length ≤ 8 := by rw [hnl]; exact ones_le code
          rw [← hnl] at HSK HAT
          have HIN := Lib.hid (fun k => rowS_ins (setT n many code) code k)
          have HLX := Lib.hid (fun c => nd_len c)
          clear hcn hnl
          generalize ndN code = X at *
          go_wp2_with fail
          refine HBT.out.mono ?_
          rintro e wq ⟨Ax, cx, rfl, oq, bq⟩
          have HX3 : Hid (wq.ownsRow w.heap.size 3 1 (.slice Ax X.length cx) X.length (cellsI X)) := own_base oq HB.out.size
          have HXI : Hid (Ints wq (.slice Ax X.length cx) X) := Reads.of_own oq
          have HXF := Lib.hid (OwnG.fresh HGR.out oq)
          have HG3 := Lib.hid (HGR.out.below bq)
          have HGB3 := Lib.hid (HGB.out.below bq HGB.out.lt)
          have HB3 := Lib.hid (btrans HB.out bq)
          clear HBT oq bq HGR HGB HB p0 p1
          by_cases ho : X.length = many
          · subst ho
            obtain ⟨k, hk, hS, hge, hls⟩ := HAT.out rfl (by omega)
            have HS := Lib.hid hS
            have HGE := Lib.hid hge
            have HLS := Lib.hid hls
            rw [← rowS_len] at hk
            clear HAT HSK hS hge hls
            generalize setT n X.length code = L at *
            have HRL := Lib.hid (rowS_len L)
            have HBX := Lib.hid (Below.refl wq.heap.size wq)
            obtain ⟨d, hd⟩ : ∃ d, k + d = (rowS L).length := ⟨(rowS L).length - k, by omega⟩
            have HD := Lib.hid hd
            have hdl : k + d ≤ (rowS L).length := by omega
            clear hd
            go_wp2_with fail
            go_loopg [9] d (fun g av wr => ∃ t : Nat, t = k + g ∧ av = .int .i64 (t : Int) ∧ t ≤ (rowS L).length ∧ Below wq.heap.size wq wr)
            case atStart => exact ⟨_, HD.out.symm, rfl, Nat.le_refl _, HBX.out⟩
            case round =>
              clear HBX hdl
              obtain ⟨t, htg, rfl, htl, hBx⟩ := hrel
              have HBX := Lib.hid hBx
              clear hBx
              cases gk with
              | zero =>
                obtain rfl : t = k := by omega
                clear htg
                have HIK := Lib.hid (HIN.out t)
                by_cases hz : t = 0
                · have hpos : ¬ (0 : Int) < (t : Int) := by omega
                  clear hz
                  go_wp2_with fail
                  have HBT := Lib.hid HBX.out
                  have hrd := Reads.of_own (HG3.out.below HBT.out).1
                  have HRD : Hid (Reads wr 1 (.slice A5 (rowS L).length c5) (rowS L).length us) := hrd
                  have HXL := Lib.hid HG3.out.len
                  have hkl : t ≤ (rowS L).length := htl
                  have hkc : t ≤ c5 := reads_cap hrd hkl
                  have H1 := Lib.hid (OwnG.ones HG3.out)
                  have HX1 : Hid ((Value.slice Ax X.length cx).oneCell' = true) := rfl
                  clear hrd
                  have B5 := Below.refl wr.heap.size wr
                  have RT := Lib.hid (fun (W_ : World) (hb : Below wr.heap.size wr W_) => by have h_ := apps.Reads.take (c' := c5) (HRD.out.below hb) hkl hkc; rw [Nat.mul_one] at h_; exact h_)
                  have RD := Lib.hid (fun (W_ : World) (hb : Below wr.heap.size wr W_) => by have h_ := apps.Reads.drop (HRD.out.below hb) hkl; rw [Nat.mul_one] at h_; exact h_)
                  have hXSl_ : (us).length = (rowS L).length := HXL.out
                  have LT : Hid (((us).take t).length = t * 1) := by show _ = _; rw [List.length_take, hXSl_]; omega
                  have LD : Hid (((us).drop t).length = ((rowS L).length - t) * 1) := by show _ = _; rw [List.length_drop, hXSl_]; omega
                  have N1 := Lib.hid (fun x (hx : x ∈ (us).take t) => H1.out x (List.mem_of_mem_take hx))
                  have N3 := Lib.hid (fun x (hx : x ∈ (us).drop t) => H1.out x (List.mem_of_mem_drop hx))
                  have N2 : Hid (∀ x_ ∈ ([.slice Ax X.length cx] : List Value), x_.oneCell' = true) := fun x_ hx_ => by rw [List.mem_singleton.1 hx_]; exact HX1.out
                  have F1 := Lib.hid (show ((wr.alloc (.cells #[] 25)).drew).ownsRow wr.heap.size 25 1 (.slice (some ⟨wr.heap.size, 0, none⟩) 0 0) 0 [] from own_new0 wr.drew 25 1)
                  have F2 := Lib.hid (show (((wr.alloc (.cells #[] 25)).alloc (.cells #[.slice Ax X.length cx] 25)).drew).ownsRow wr.heap.size 25 1 (.slice (some ⟨wr.heap.size, 0, none⟩) 0 0) 0 [] from (own_new0 wr.drew 25 1).alloc _)
                  have F3 := Lib.hid (show (((wr.alloc (.cells #[.slice Ax X.length cx] 25)).alloc (.cells #[] 25)).drew).ownsRow wr.heap.size 25 1 (.slice (some ⟨wr.heap.size + 1, 0, none⟩) 0 0) 0 [] from by
                    have t := own_new0 (wr.alloc (.cells #[.slice Ax X.length cx] 25)) 25 1
                    rw [World.size_alloc] at t
                    exact own_base t (by omega))
                  have B0 := Lib.hid (show Below wr.heap.size wr wr.drew from B5.drew)
                  have B1 := Lib.hid (show Below wr.heap.size wr ((wr.alloc (.cells #[] 25)).drew) from (B5.alloc (Nat.le_refl _) _).drew)
                  have B4 := Lib.hid (show Below wr.heap.size wr ((wr.alloc (.cells #[.slice Ax X.length cx] 25)).drew) from (B5.alloc (Nat.le_refl _) _).drew)
                  have B2 := Lib.hid (show Below wr.heap.size wr (((wr.alloc (.cells #[] 25)).alloc (.cells #[.slice Ax X.length cx] 25)).drew) from ((B5.alloc (Nat.le_refl _) _).alloc (by simp) _).drew)
                  have B3 := Lib.hid (show Below wr.heap.size wr (((wr.alloc (.cells #[.slice Ax X.length cx] 25)).alloc (.cells #[] 25)).drew) from ((B5.alloc (Nat.le_refl _) _).alloc (by simp) _).drew)
                  have Y2 := Lib.hid (show Blk (((wr.alloc (.cells #[] 25)).alloc (.cells #[.slice Ax X.length cx] 25)).drew) (wr.heap.size + 1) 25 #[.slice Ax X.length cx] from by
                    have t := (Blk.new (wr.alloc (.cells #[] 25)) 25 #[.slice Ax X.length cx]).drewN 1
                    rw [World.size_alloc] at t; exact t)
                  have Y3 := Lib.hid (show Blk (((wr.alloc (.cells #[.slice Ax X.length cx] 25)).alloc (.cells #[] 25)).drew) wr.heap.size 25 #[.slice Ax X.length cx] from ((Blk.new wr 25 #[.slice Ax X.length cx]).alloc (.cells #[] 25)).drewN 1)
                  clear B5 hXSl_
                  go_region_law (first
                    | ((first
                          | (refine step_append_any _ rfl (.tmp 56) (.tmp 59) 41 rfl wr.heap.size 25 i1 (.slice none 0 0) 1 24 Try.underlying41 hi1 hy0 hy1 hy2 rfl (by decide) (.slice (some ⟨wr.heap.size, 0, none⟩) 0 0) 0 [] rfl ?_ (.slice A5 t c5) t ((us).take t) rfl ?_ LT.out N1.out (by unfold maxLen; omega) (by omega) (by simp <;> omega) ?_)
                          | (refine step_append_any _ rfl (.tmp 56) (.tmp 59) 41 rfl wr.heap.size 25 i1 (.slice none 0 0) 1 24 Try.underlying41 hi1 hy0 hy1 hy2 rfl (by decide) (.slice (some ⟨wr.heap.size + 1, 0, none⟩) 0 0) 0 [] rfl ?_ (.slice A5 t c5) t ((us).take t) rfl ?_ LT.out N1.out (by unfold maxLen; omega) (by omega) (by simp <;> omega) ?_))
                       (first | with_reducible exact F1.out | with_reducible exact F2.out | with_reducible exact F3.out)
                       refine RT.out _ ?_
                       (first | with_reducible exact B1.out | with_reducible exact B2.out | with_reducible exact B3.out)
                       intro v1 w1 o1 g1
                       rw [Nat.zero_add, List.nil_append] at o1
                       (first
                         | (have e1 := B1.out.grown g1 (by simp) (fun k hk => by simp [Value.ownBlock] at hk; omega))
                         | (have e1 := B2.out.grown g1 (by simp; omega) (fun k hk => by simp [Value.ownBlock] at hk; omega); have y1 := Y2.out.grown g1 (by simp [Value.ownBlock]))
                         | (have e1 := B3.out.grown g1 (by simp; omega) (fun k hk => by simp [Value.ownBlock] at hk; omega); have y1 := Y3.out.grown g1 (by simp [Value.ownBlock])))
                       have s1 := e1.size)
                    | ((first
                          | (refine step_append_any _ rfl (.tmp 60) (.tmp 62) 41 rfl wr.heap.size 25 i1 (.slice none 0 0) 1 24 Try.underlying41 hi1 hy0 hy1 hy2 rfl (by decide) v1 t ((us).take t) rfl ?_ (.slice (some ⟨w1.heap.size, 0, none⟩) 1 1) 1 [.slice Ax X.length cx] rfl ?_ rfl N2.out (by unfold maxLen; omega) (by omega) ?_ ?_)
                          | (refine step_append_any _ rfl (.tmp 60) (.tmp 62) 41 rfl wr.heap.size 25 i1 (.slice none 0 0) 1 24 Try.underlying41 hi1 hy0 hy1 hy2 rfl (by decide) v1 t ((us).take t) rfl ?_ (.slice (some ⟨wr.heap.size + 1, 0, none⟩) 1 1) 1 [.slice Ax X.length cx] rfl ?_ rfl N2.out (by unfold maxLen; omega) (by omega) ?_ ?_)
                          | (refine step_append_any _ rfl (.tmp 60) (.tmp 62) 41 rfl wr.heap.size 25 i1 (.slice none 0 0) 1 24 Try.underlying41 hi1 hy0 hy1 hy2 rfl (by decide) v1 t ((us).take t) rfl ?_ (.slice (some ⟨wr.heap.size, 0, none⟩) 1 1) 1 [.slice Ax X.length cx] rfl ?_ rfl N2.out (by unfold maxLen; omega) (by omega) ?_ ?_))
                       (first | with_reducible exact o1 | with_reducible exact o1.alloc _)
                       (first | with_reducible exact one_readsV y1 | with_reducible exact one_readsV (Blk.new w1 _ _))
                       (first | with_reducible exact s1 | with_reducible exact Nat.le_trans s1 (by simp))
                       intro v2 w2 o2 g2
                       (first
                         | have e2 := e1.grown g2 s1 (fun q hq => (o1.lt q hq).1)
                         | have e2 := (e1.alloc s1 _).grown g2 (Nat.le_trans s1 (by simp)) (fun q hq => (o1.lt q hq).1))
                       have s2 := e2.size)
                    | ((first
                          | (refine step_append_any _ rfl (.tmp 63) (.tmp 66) 41 rfl wr.heap.size 25 i1 (.slice none 0 0) 1 24 Try.underlying41 hi1 hy0 hy1 hy2 rfl (by decide) v2 (t + 1) ((us).take t ++ [.slice Ax X.length cx]) rfl ?_ (.slice (if c5 = t then A5 else Option.map (fun x => x.add t) A5) ((rowS L).length - t) (c5 - t)) ((rowS L).length - t) ((us).drop t) rfl ?_ LD.out N3.out (by unfold maxLen; omega) (by omega) s2 ?_))
                       with_reducible exact o2
                       (first | with_reducible exact rd1_someV (RD.out _ e2) | with_reducible exact rd1_zeroV (RD.out _ e2) | exact (by simpa using RD.out _ e2))
                       intro v3 w3 o3 g3
                       have e3 := e2.grown g3 s2 (fun q hq => (o2.lt q hq).1)))
                  all_goals
                    have hw3 : w3.ownsRow w.heap.size 25 1 v3 ((rowS L).take t ++ X :: (rowS L).drop t).length (us.take t ++ .slice Ax X.length cx :: us.drop t) := by
                      have e1 : ((rowS L).take t ++ X :: (rowS L).drop t).length = t + 1 + ((rowS L).length - t) := by
                        rw [List.length_append, List.length_cons, List.length_take, List.length_drop, Nat.min_eq_left hkl]; omega
                      have e4 : us.take t ++ .slice Ax X.length cx :: us.drop t = us.take t ++ [.slice Ax X.length cx] ++ us.drop t := by simp
                      rw [e1, e4]; exact own_base o3 (btrans HB3.out HBT.out).size
                    have HG9 := Lib.hid (OwnG.ins HG3.out hkl (btrans HBT.out e3) HX3.out HXF.out hw3)
                    have HB9 := Lib.hid (btrans HB3.out (btrans HBT.out e3))
                    have HGB9 := Lib.hid (HGB3.out.below (btrans HBT.out e3) HGB3.out.lt)
                    clear o3 hw3 e3
                    go_wp2_with fail
                    all_goals (go_roundg gq; (case measure => omega); (case rel => (refine ⟨code + 1, us.take t ++ .slice Ax X.length cx :: us.drop t, _, rfl, by omega, by go_num, ?_, HGB9.out, HB9.out⟩; rw [HS.out, HIK.out]; exact HG9.out)))
                · obtain ⟨y, hy⟩ : ∃ y, t = y + 1 := ⟨t - 1, by omega⟩
                  have hyl : y < (rowS L).length := by omega
                  have hyl' : (y : Int) < ((rowS L).length : Int) := by omega
                  have hyL : y < L.length := by rw [HRL.out] at hyl; exact hyl
                  obtain ⟨b, hb⟩ : ∃ b, L[y]? = some b := ⟨_, List.getElem?_eq_getElem hyL⟩
                  obtain ⟨u, g, o, hu, hAx, c0, hru⟩ := (gridl.readsG_of_own (HG3.out.below HBX.out)).row (rowS_at hb)
                  subst hAx
                  obtain ⟨Ar, cr, rfl, -⟩ := hru.form
                  have hwa : IntKind.i64.wrap ((t : Int) - 1) = (y : Int) := by rw [show (t : Int) - 1 = (y : Int) from by omega]; exact IntWalk.i64_in _ (by omega)
                  have hpos : (0 : Int) < (t : Int) := by omega
                  have hnl : (ndN b).length = onesN b := HLX.out b
                  have hno := HLS.out y b (by omega) hb
                  clear hz hy
                  by_cases hq : (ndN b).length = X.length
                  · have HLL := Lib.hid (fun (W : World) (hW : Below wq.heap.size wq W) (hr : Ints W (.slice Ar (ndN b).length cr) (ndN b)) => l5LessI_any (.slice Ax X.length cx) (.slice Ar (ndN b).length cr) X (ndN b) W (HXI.out.below hW) hr hq.symm (by omega))
                    have HLV := Lib.hid (HLL.out _ HBX.out hru)
                    have hlf : lexI X (ndN b) = false := by
                      rw [Bool.eq_false_iff]; intro h_; exact hno ⟨by omega, h_⟩
                    rw [hlf] at HLV
                    have hq' : (((ndN b).length : Int) == (X.length : Int)) = true := by rw [beq_iff_eq]; omega
                    clear HLL hlf hno hnl hq hru hb hu
                    generalize ndN b = Y at *
                    go_wp2_with fail
                    refine HLV.out.mono ?_
                    rintro e w4 ⟨rfl, b4⟩
                    have HB4 := Lib.hid (btrans HBX.out b4)
                    clear b4 HLV c0
                    go_wp2_with fail
                    have HBT := Lib.hid HB4.out
                    have hrd := Reads.of_own (HG3.out.below HBT.out).1
                    have HRD : Hid (Reads w4 1 (.slice (some ⟨g, o, none⟩) (rowS L).length c5) (rowS L).length us) := hrd
                    have HXL := Lib.hid HG3.out.len
                    have hkl : t ≤ (rowS L).length := htl
                    have hkc : t ≤ c5 := reads_cap hrd hkl
                    have H1 := Lib.hid (OwnG.ones HG3.out)
                    have HX1 : Hid ((Value.slice Ax X.length cx).oneCell' = true) := rfl
                    clear hrd
                    have B5 := Below.refl w4.heap.size w4
                    have RT := Lib.hid (fun (W_ : World) (hb : Below w4.heap.size w4 W_) => by have h_ := apps.Reads.take (c' := c5) (HRD.out.below hb) hkl hkc; rw [Nat.mul_one] at h_; exact h_)
                    have RD := Lib.hid (fun (W_ : World) (hb : Below w4.heap.size w4 W_) => by have h_ := apps.Reads.drop (HRD.out.below hb) hkl; rw [Nat.mul_one] at h_; exact h_)
                    have hXSl_ : (us).length = (rowS L).length := HXL.out
                    have LT : Hid (((us).take t).length = t * 1) := by show _ = _; rw [List.length_take, hXSl_]; omega
                    have LD : Hid (((us).drop t).length = ((rowS L).length - t) * 1) := by show _ = _; rw [List.length_drop, hXSl_]; omega
                    have N1 := Lib.hid (fun x (hx : x ∈ (us).take t) => H1.out x (List.mem_of_mem_take hx))
                    have N3 := Lib.hid (fun x (hx : x ∈ (us).drop t) => H1.out x (List.mem_of_mem_drop hx))
                    have N2 : Hid (∀ x_ ∈ ([.slice Ax X.length cx] : List Value), x_.oneCell' = true) := fun x_ hx_ => by rw [List.mem_singleton.1 hx_]; exact HX1.out
                    have F1 := Lib.hid (show ((w4.alloc (.cells #[] 25)).drew).ownsRow w4.heap.size 25 1 (.slice (some ⟨w4.heap.size, 0, none⟩) 0 0) 0 [] from own_new0 w4.drew 25 1)
                    have F2 := Lib.hid (show (((w4.alloc (.cells #[] 25)).alloc (.cells #[.slice Ax X.length cx] 25)).drew).ownsRow w4.heap.size 25 1 (.slice (some ⟨w4.heap.size, 0, none⟩) 0 0) 0 [] from (own_new0 w4.drew 25 1).alloc _)
                    have F3 := Lib.hid (show (((w4.alloc (.cells #[.slice Ax X.length cx] 25)).alloc (.cells #[] 25)).drew).ownsRow w4.heap.size 25 1 (.slice (some ⟨w4.heap.size + 1, 0, none⟩) 0 0) 0 [] from by
                      have t := own_new0 (w4.alloc (.cells #[.slice Ax X.length cx] 25)) 25 1
                      rw [World.size_alloc] at t
                      exact own_base t (by omega))
                    have B0 := Lib.hid (show Below w4.heap.size w4 w4.drew from B5.drew)
                    have B1 := Lib.hid (show Below w4.heap.size w4 ((w4.alloc (.cells #[] 25)).drew) from (B5.alloc (Nat.le_refl _) _).drew)
                    have B4 := Lib.hid (show Below w4.heap.size w4 ((w4.alloc (.cells #[.slice Ax X.length cx] 25)).drew) from (B5.alloc (Nat.le_refl _) _).drew)
                    have B2 := Lib.hid (show Below w4.heap.size w4 (((w4.alloc (.cells #[] 25)).alloc (.cells #[.slice Ax X.length cx] 25)).drew) from ((B5.alloc (Nat.le_refl _) _).alloc (by simp) _).drew)
                    have B3 := Lib.hid (show Below w4.heap.size w4 (((w4.alloc (.cells #[.slice Ax X.length cx] 25)).alloc (.cells #[] 25)).drew) from ((B5.alloc (Nat.le_refl _) _).alloc (by simp) _).drew)
                    have Y2 := Lib.hid (show Blk (((w4.alloc (.cells #[] 25)).alloc (.cells #[.slice Ax X.length cx] 25)).drew) (w4.heap.size + 1) 25 #[.slice Ax X.length cx] from by
                      have t := (Blk.new (w4.alloc (.cells #[] 25)) 25 #[.slice Ax X.length cx]).drewN 1
                      rw [World.size_alloc] at t; exact t)
                    have Y3 := Lib.hid (show Blk (((w4.alloc (.cells #[.slice Ax X.length cx] 25)).alloc (.cells #[] 25)).drew) w4.heap.size 25 #[.slice Ax X.length cx] from ((Blk.new w4 25 #[.slice Ax X.length cx]).alloc (.cells #[] 25)).drewN 1)
                    clear B5 hXSl_
                    go_region_law (first
                      | ((first
                            | (refine step_append_any _ rfl (.tmp 56) (.tmp 59) 41 rfl w4.heap.size 25 i1 (.slice none 0 0) 1 24 Try.underlying41 hi1 hy0 hy1 hy2 rfl (by decide) (.slice (some ⟨w4.heap.size, 0, none⟩) 0 0) 0 [] rfl ?_ (.slice (some ⟨g, o, none⟩) t c5) t ((us).take t) rfl ?_ LT.out N1.out (by unfold maxLen; omega) (by omega) (by simp <;> omega) ?_)
                            | (refine step_append_any _ rfl (.tmp 56) (.tmp 59) 41 rfl w4.heap.size 25 i1 (.slice none 0 0) 1 24 Try.underlying41 hi1 hy0 hy1 hy2 rfl (by decide) (.slice (some ⟨w4.heap.size + 1, 0, none⟩) 0 0) 0 [] rfl ?_ (.slice (some ⟨g, o, none⟩) t c5) t ((us).take t) rfl ?_ LT.out N1.out (by unfold maxLen; omega) (by omega) (by simp <;> omega) ?_)
                            | (refine step_append_any _ rfl (.tmp 56) (.tmp 59) 41 rfl w4.heap.size 25 i1 (.slice none 0 0) 1 24 Try.underlying41 hi1 hy0 hy1 hy2 rfl (by decide) (.slice (some ⟨w4.heap.size, 0, none⟩) 0 0) 0 [] rfl ?_ (.slice (some ⟨g, o, none⟩) t c5) t ((us).take t) rfl ?_ LT.out N1.out (by unfold maxLen; omega) (by omega) (by simp <;> omega) ?_)
                            | (refine step_append_any _ rfl (.tmp 56) (.tmp 59) 41 rfl w4.heap.size 25 i1 (.slice none 0 0) 1 24 Try.underlying41 hi1 hy0 hy1 hy2 rfl (by decide) (.slice (some ⟨w4.heap.size + 1, 0, none⟩) 0 0) 0 [] rfl ?_ (.slice (some ⟨g, o, none⟩) t c5) t ((us).take t) rfl ?_ LT.out N1.out (by unfold maxLen; omega) (by omega) (by simp <;> omega) ?_))
                         (first | with_reducible exact F1.out | with_reducible exact F2.out | with_reducible exact F3.out)
                         refine RT.out _ ?_
                         (first | with_reducible exact B1.out | with_reducible exact B2.out | with_reducible exact B3.out)
                         intro v1 w1 o1 g1
                         rw [Nat.zero_add, List.nil_append] at o1
                         (first
                           | (have e1 := B1.out.grown g1 (by simp) (fun k hk => by simp [Value.ownBlock] at hk; omega))
                           | (have e1 := B2.out.grown g1 (by simp; omega) (fun k hk => by simp [Value.ownBlock] at hk; omega); have y1 := Y2.out.grown g1 (by simp [Value.ownBlock]))
                           | (have e1 := B3.out.grown g1 (by simp; omega) (fun k hk => by simp [Value.ownBlock] at hk; omega); have y1 := Y3.out.grown g1 (by simp [Value.ownBlock])))
                         have s1 := e1.size)
                      | ((first
                            | (refine step_append_any _ rfl (.tmp 60) (.tmp 62) 41 rfl w4.heap.size 25 i1 (.slice none 0 0) 1 24 Try.underlying41 hi1 hy0 hy1 hy2 rfl (by decide) v1 t ((us).take t) rfl ?_ (.slice (some ⟨w1.heap.size, 0, none⟩) 1 1) 1 [.slice Ax X.length cx] rfl ?_ rfl N2.out (by unfold maxLen; omega) (by omega) ?_ ?_)
                            | (refine step_append_any _ rfl (.tmp 60) (.tmp 62) 41 rfl w4.heap.size 25 i1 (.slice none 0 0) 1 24 Try.underlying41 hi1 hy0 hy1 hy2 rfl (by decide) v1 t ((us).take t) rfl ?_ (.slice (some ⟨w4.heap.size + 1, 0, none⟩) 1 1) 1 [.slice Ax X.length cx] rfl ?_ rfl N2.out (by unfold maxLen; omega) (by omega) ?_ ?_)
                            | (refine step_append_any _ rfl (.tmp 60) (.tmp 62) 41 rfl w4.heap.size 25 i1 (.slice none 0 0) 1 24 Try.underlying41 hi1 hy0 hy1 hy2 rfl (by decide) v1 t ((us).take t) rfl ?_ (.slice (some ⟨w4.heap.size, 0, none⟩) 1 1) 1 [.slice Ax X.length cx] rfl ?_ rfl N2.out (by unfold maxLen; omega) (by omega) ?_ ?_))
                         (first | with_reducible exact o1 | with_reducible exact o1.alloc _)
                         (first | with_reducible exact one_readsV y1 | with_reducible exact one_readsV (Blk.new w1 _ _))
                         (first | with_reducible exact s1 | with_reducible exact Nat.le_trans s1 (by simp))
                         intro v2 w2 o2 g2
                         (first
                           | have e2 := e1.grown g2 s1 (fun q hq => (o1.lt q hq).1)
                           | have e2 := (e1.alloc s1 _).grown g2 (Nat.le_trans s1 (by simp)) (fun q hq => (o1.lt q hq).1))
                         have s2 := e2.size)
                      | ((first
                            | (refine step_append_any _ rfl (.tmp 63) (.tmp 66) 41 rfl w4.heap.size 25 i1 (.slice none 0 0) 1 24 Try.underlying41 hi1 hy0 hy1 hy2 rfl (by decide) v2 (t + 1) ((us).take t ++ [.slice Ax X.length cx]) rfl ?_ (.slice (if c5 = t then some ⟨g, o, none⟩ else some ⟨g, o + t, none⟩) ((rowS L).length - t) (c5 - t)) ((rowS L).length - t) ((us).drop t) rfl ?_ LD.out N3.out (by unfold maxLen; omega) (by omega) s2 ?_)
                            | (refine step_append_any _ rfl (.tmp 63) (.tmp 66) 41 rfl w4.heap.size 25 i1 (.slice none 0 0) 1 24 Try.underlying41 hi1 hy0 hy1 hy2 rfl (by decide) v2 (t + 1) ((us).take t ++ [.slice Ax X.length cx]) rfl ?_ (.slice (if c5 = t then (some ⟨g, o, none⟩) else Option.map (fun x => x.add t) (some ⟨g, o, none⟩)) ((rowS L).length - t) (c5 - t)) ((rowS L).length - t) ((us).drop t) rfl ?_ LD.out N3.out (by unfold maxLen; omega) (by omega) s2 ?_))
                         with_reducible exact o2
                         (first | with_reducible exact rd1_someV (RD.out _ e2) | with_reducible exact rd1_zeroV (RD.out _ e2) | exact (by simpa using RD.out _ e2))
                         intro v3 w3 o3 g3
                         have e3 := e2.grown g3 s2 (fun q hq => (o2.lt q hq).1)))
                    all_goals
                      have hw3 : w3.ownsRow w.heap.size 25 1 v3 ((rowS L).take t ++ X :: (rowS L).drop t).length (us.take t ++ .slice Ax X.length cx :: us.drop t) := by
                        have e1 : ((rowS L).take t ++ X :: (rowS L).drop t).length = t + 1 + ((rowS L).length - t) := by
                          rw [List.length_append, List.length_cons, List.length_take, List.length_drop, Nat.min_eq_left hkl]; omega
                        have e4 : us.take t ++ .slice Ax X.length cx :: us.drop t = us.take t ++ [.slice Ax X.length cx] ++ us.drop t := by simp
                        rw [e1, e4]; exact own_base o3 (btrans HB3.out HBT.out).size
                      have HG9 := Lib.hid (OwnG.ins HG3.out hkl (btrans HBT.out e3) HX3.out HXF.out hw3)
                      have HB9 := Lib.hid (btrans HB3.out (btrans HBT.out e3))
                      have HGB9 := Lib.hid (HGB3.out.below (btrans HBT.out e3) HGB3.out.lt)
                      clear o3 hw3 e3
                      go_wp2_with fail
                      all_goals (go_roundg gq; (case measure => omega); (case rel => (refine ⟨code + 1, us.take t ++ .slice Ax X.length cx :: us.drop t, _, rfl, by omega, by go_num, ?_, HGB9.out, HB9.out⟩; rw [HS.out, HIK.out]; exact HG9.out)))
                  · have hq' : (((ndN b).length : Int) == (X.length : Int)) = false := by rw [beq_eq_false_iff_ne]; omega
                    clear hno hnl hq hru hb hu
                    generalize ndN b = Y at *
                    go_wp2_with fail
                    have HBT := Lib.hid HBX.out
                    have hrd := Reads.of_own (HG3.out.below HBT.out).1
                    have HRD : Hid (Reads wr 1 (.slice (some ⟨g, o, none⟩) (rowS L).length c5) (rowS L).length us) := hrd
                    have HXL := Lib.hid HG3.out.len
                    have hkl : t ≤ (rowS L).length := htl
                    have hkc : t ≤ c5 := reads_cap hrd hkl
                    have H1 := Lib.hid (OwnG.ones HG3.out)
                    have HX1 : Hid ((Value.slice Ax X.length cx).oneCell' = true) := rfl
                    clear hrd
                    have B5 := Below.refl wr.heap.size wr
                    have RT := Lib.hid (fun (W_ : World) (hb : Below wr.heap.size wr W_) => by have h_ := apps.Reads.take (c' := c5) (HRD.out.below hb) hkl hkc; rw [Nat.mul_one] at h_; exact h_)
                    have RD := Lib.hid (fun (W_ : World) (hb : Below wr.heap.size wr W_) => by have h_ := apps.Reads.drop (HRD.out.below hb) hkl; rw [Nat.mul_one] at h_; exact h_)
                    have hXSl_ : (us).length = (rowS L).length := HXL.out
                    have LT : Hid (((us).take t).length = t * 1) := by show _ = _; rw [List.length_take, hXSl_]; omega
                    have LD : Hid (((us).drop t).length = ((rowS L).length - t) * 1) := by show _ = _; rw [List.length_drop, hXSl_]; omega
                    have N1 := Lib.hid (fun x (hx : x ∈ (us).take t) => H1.out x (List.mem_of_mem_take hx))
                    have N3 := Lib.hid (fun x (hx : x ∈ (us).drop t) => H1.out x (List.mem_of_mem_drop hx))
                    have N2 : Hid (∀ x_ ∈ ([.slice Ax X.length cx] : List Value), x_.oneCell' = true) := fun x_ hx_ => by rw [List.mem_singleton.1 hx_]; exact HX1.out
                    have F1 := Lib.hid (show ((wr.alloc (.cells #[] 25)).drew).ownsRow wr.heap.size 25 1 (.slice (some ⟨wr.heap.size, 0, none⟩) 0 0) 0 [] from own_new0 wr.drew 25 1)
                    have F2 := Lib.hid (show (((wr.alloc (.cells #[] 25)).alloc (.cells #[.slice Ax X.length cx] 25)).drew).ownsRow wr.heap.size 25 1 (.slice (some ⟨wr.heap.size, 0, none⟩) 0 0) 0 [] from (own_new0 wr.drew 25 1).alloc _)
                    have F3 := Lib.hid (show (((wr.alloc (.cells #[.slice Ax X.length cx] 25)).alloc (.cells #[] 25)).drew).ownsRow wr.heap.size 25 1 (.slice (some ⟨wr.heap.size + 1, 0, none⟩) 0 0) 0 [] from by
                      have t := own_new0 (wr.alloc (.cells #[.slice Ax X.length cx] 25)) 25 1
                      rw [World.size_alloc] at t
                      exact own_base t (by omega))
                    have B0 := Lib.hid (show Below wr.heap.size wr wr.drew from B5.drew)
                    have B1 := Lib.hid (show Below wr.heap.size wr ((wr.alloc (.cells #[] 25)).drew) from (B5.alloc (Nat.le_refl _) _).drew)
                    have B4 := Lib.hid (show Below wr.heap.size wr ((wr.alloc (.cells #[.slice Ax X.length cx] 25)).drew) from (B5.alloc (Nat.le_refl _) _).drew)
                    have B2 := Lib.hid (show Below wr.heap.size wr (((wr.alloc (.cells #[] 25)).alloc (.cells #[.slice Ax X.length cx] 25)).drew) from ((B5.alloc (Nat.le_refl _) _).alloc (by simp) _).drew)
                    have B3 := Lib.hid (show Below wr.heap.size wr (((wr.alloc (.cells #[.slice Ax X.length cx] 25)).alloc (.cells #[] 25)).drew) from ((B5.alloc (Nat.le_refl _) _).alloc (by simp) _).drew)
                    have Y2 := Lib.hid (show Blk (((wr.alloc (.cells #[] 25)).alloc (.cells #[.slice Ax X.length cx] 25)).drew) (wr.heap.size + 1) 25 #[.slice Ax X.length cx] from by
                      have t := (Blk.new (wr.alloc (.cells #[] 25)) 25 #[.slice Ax X.length cx]).drewN 1
                      rw [World.size_alloc] at t; exact t)
                    have Y3 := Lib.hid (show Blk (((wr.alloc (.cells #[.slice Ax X.length cx] 25)).alloc (.cells #[] 25)).drew) wr.heap.size 25 #[.slice Ax X.length cx] from ((Blk.new wr 25 #[.slice Ax X.length cx]).alloc (.cells #[] 25)).drewN 1)
                    clear B5 hXSl_
                    go_region_law (first
                      | ((first
                            | (refine step_append_any _ rfl (.tmp 56) (.tmp 59) 41 rfl wr.heap.size 25 i1 (.slice none 0 0) 1 24 Try.underlying41 hi1 hy0 hy1 hy2 rfl (by decide) (.slice (some ⟨wr.heap.size, 0, none⟩) 0 0) 0 [] rfl ?_ (.slice (some ⟨g, o, none⟩) t c5) t ((us).take t) rfl ?_ LT.out N1.out (by unfold maxLen; omega) (by omega) (by simp <;> omega) ?_)
                            | (refine step_append_any _ rfl (.tmp 56) (.tmp 59) 41 rfl wr.heap.size 25 i1 (.slice none 0 0) 1 24 Try.underlying41 hi1 hy0 hy1 hy2 rfl (by decide) (.slice (some ⟨wr.heap.size + 1, 0, none⟩) 0 0) 0 [] rfl ?_ (.slice (some ⟨g, o, none⟩) t c5) t ((us).take t) rfl ?_ LT.out N1.out (by unfold maxLen; omega) (by omega) (by simp <;> omega) ?_)
                            | (refine step_append_any _ rfl (.tmp 56) (.tmp 59) 41 rfl wr.heap.size 25 i1 (.slice none 0 0) 1 24 Try.underlying41 hi1 hy0 hy1 hy2 rfl (by decide) (.slice (some ⟨wr.heap.size, 0, none⟩) 0 0) 0 [] rfl ?_ (.slice (some ⟨g, o, none⟩) t c5) t ((us).take t) rfl ?_ LT.out N1.out (by unfold maxLen; omega) (by omega) (by simp <;> omega) ?_)
                            | (refine step_append_any _ rfl (.tmp 56) (.tmp 59) 41 rfl wr.heap.size 25 i1 (.slice none 0 0) 1 24 Try.underlying41 hi1 hy0 hy1 hy2 rfl (by decide) (.slice (some ⟨wr.heap.size + 1, 0, none⟩) 0 0) 0 [] rfl ?_ (.slice (some ⟨g, o, none⟩) t c5) t ((us).take t) rfl ?_ LT.out N1.out (by unfold maxLen; omega) (by omega) (by simp <;> omega) ?_))
                         (first | with_reducible exact F1.out | with_reducible exact F2.out | with_reducible exact F3.out)
                         refine RT.out _ ?_
                         (first | with_reducible exact B1.out | with_reducible exact B2.out | with_reducible exact B3.out)
                         intro v1 w1 o1 g1
                         rw [Nat.zero_add, List.nil_append] at o1
                         (first
                           | (have e1 := B1.out.grown g1 (by simp) (fun k hk => by simp [Value.ownBlock] at hk; omega))
                           | (have e1 := B2.out.grown g1 (by simp; omega) (fun k hk => by simp [Value.ownBlock] at hk; omega); have y1 := Y2.out.grown g1 (by simp [Value.ownBlock]))
                           | (have e1 := B3.out.grown g1 (by simp; omega) (fun k hk => by simp [Value.ownBlock] at hk; omega); have y1 := Y3.out.grown g1 (by simp [Value.ownBlock])))
                         have s1 := e1.size)
                      | ((first
                            | (refine step_append_any _ rfl (.tmp 60) (.tmp 62) 41 rfl wr.heap.size 25 i1 (.slice none 0 0) 1 24 Try.underlying41 hi1 hy0 hy1 hy2 rfl (by decide) v1 t ((us).take t) rfl ?_ (.slice (some ⟨w1.heap.size, 0, none⟩) 1 1) 1 [.slice Ax X.length cx] rfl ?_ rfl N2.out (by unfold maxLen; omega) (by omega) ?_ ?_)
                            | (refine step_append_any _ rfl (.tmp 60) (.tmp 62) 41 rfl wr.heap.size 25 i1 (.slice none 0 0) 1 24 Try.underlying41 hi1 hy0 hy1 hy2 rfl (by decide) v1 t ((us).take t) rfl ?_ (.slice (some ⟨wr.heap.size + 1, 0, none⟩) 1 1) 1 [.slice Ax X.length cx] rfl ?_ rfl N2.out (by unfold maxLen; omega) (by omega) ?_ ?_)
                            | (refine step_append_any _ rfl (.tmp 60) (.tmp 62) 41 rfl wr.heap.size 25 i1 (.slice none 0 0) 1 24 Try.underlying41 hi1 hy0 hy1 hy2 rfl (by decide) v1 t ((us).take t) rfl ?_ (.slice (some ⟨wr.heap.size, 0, none⟩) 1 1) 1 [.slice Ax X.length cx] rfl ?_ rfl N2.out (by unfold maxLen; omega) (by omega) ?_ ?_))
                         (first | with_reducible exact o1 | with_reducible exact o1.alloc _)
                         (first | with_reducible exact one_readsV y1 | with_reducible exact one_readsV (Blk.new w1 _ _))
                         (first | with_reducible exact s1 | with_reducible exact Nat.le_trans s1 (by simp))
                         intro v2 w2 o2 g2
                         (first
                           | have e2 := e1.grown g2 s1 (fun q hq => (o1.lt q hq).1)
                           | have e2 := (e1.alloc s1 _).grown g2 (Nat.le_trans s1 (by simp)) (fun q hq => (o1.lt q hq).1))
                         have s2 := e2.size)
                      | ((first
                            | (refine step_append_any _ rfl (.tmp 63) (.tmp 66) 41 rfl wr.heap.size 25 i1 (.slice none 0 0) 1 24 Try.underlying41 hi1 hy0 hy1 hy2 rfl (by decide) v2 (t + 1) ((us).take t ++ [.slice Ax X.length cx]) rfl ?_ (.slice (if c5 = t then some ⟨g, o, none⟩ else some ⟨g, o + t, none⟩) ((rowS L).length - t) (c5 - t)) ((rowS L).length - t) ((us).drop t) rfl ?_ LD.out N3.out (by unfold maxLen; omega) (by omega) s2 ?_)
                            | (refine step_append_any _ rfl (.tmp 63) (.tmp 66) 41 rfl wr.heap.size 25 i1 (.slice none 0 0) 1 24 Try.underlying41 hi1 hy0 hy1 hy2 rfl (by decide) v2 (t + 1) ((us).take t ++ [.slice Ax X.length cx]) rfl ?_ (.slice (if c5 = t then (some ⟨g, o, none⟩) else Option.map (fun x => x.add t) (some ⟨g, o, none⟩)) ((rowS L).length - t) (c5 - t)) ((rowS L).length - t) ((us).drop t) rfl ?_ LD.out N3.out (by unfold maxLen; omega) (by omega) s2 ?_))
                         with_reducible exact o2
                         (first | with_reducible exact rd1_someV (RD.out _ e2) | with_reducible exact rd1_zeroV (RD.out _ e2) | exact (by simpa using RD.out _ e2))
                         intro v3 w3 o3 g3
                         have e3 := e2.grown g3 s2 (fun q hq => (o2.lt q hq).1)))
                    all_goals
                      have hw3 : w3.ownsRow w.heap.size 25 1 v3 ((rowS L).take t ++ X :: (rowS L).drop t).length (us.take t ++ .slice Ax X.length cx :: us.drop t) := by
                        have e1 : ((rowS L).take t ++ X :: (rowS L).drop t).length = t + 1 + ((rowS L).length - t) := by
                          rw [List.length_append, List.length_cons, List.length_take, List.length_drop, Nat.min_eq_left hkl]; omega
                        have e4 : us.take t ++ .slice Ax X.length cx :: us.drop t = us.take t ++ [.slice Ax X.length cx] ++ us.drop t := by simp
                        rw [e1, e4]; exact own_base o3 (btrans HB3.out HBT.out).size
                      have HG9 := Lib.hid (OwnG.ins HG3.out hkl (btrans HBT.out e3) HX3.out HXF.out hw3)
                      have HB9 := Lib.hid (btrans HB3.out (btrans HBT.out e3))
                      have HGB9 := Lib.hid (HGB3.out.below (btrans HBT.out e3) HGB3.out.lt)
                      clear o3 hw3 e3
                      go_wp2_with fail
                      all_goals (go_roundg gq; (case measure => omega); (case rel => (refine ⟨code + 1, us.take t ++ .slice Ax X.length cx :: us.drop t, _, rfl, by omega, by go_num, ?_, HGB9.out, HB9.out⟩; rw [HS.out, HIK.out]; exact HG9.out)))
              | succ g4 =>
                obtain ⟨y, hy⟩ : ∃ y, t = y + 1 := ⟨k + g4, by omega⟩
                have hyl : y < (rowS L).length := by omega
                have hyl' : (y : Int) < ((rowS L).length : Int) := by omega
                have hyL : y < L.length := by rw [HRL.out] at hyl; exact hyl
                obtain ⟨b, hb⟩ : ∃ b, L[y]? = some b := ⟨_, List.getElem?_eq_getElem hyL⟩
                obtain ⟨u, g, o, hu, hAx, c0, hru⟩ := (gridl.readsG_of_own (HG3.out.below HBX.out)).row (rowS_at hb)
                subst hAx
                obtain ⟨Ar, cr, rfl, -⟩ := hru.form
                have hwa : IntKind.i64.wrap ((t : Int) - 1) = (y : Int) := by rw [show (t : Int) - 1 = (y : Int) from by omega]; exact IntWalk.i64_in _ (by omega)
                have hpos : (0 : Int) < (t : Int) := by omega
                have hnl : (ndN b).length = onesN b := HLX.out b
                have hye := HGE.out y b (by omega) hb
                have hq : (ndN b).length = X.length := by rw [hnl]; exact hye.1
                have HLL := Lib.hid (fun (W : World) (hW : Below wq.heap.size wq W) (hr : Ints W (.slice Ar (ndN b).length cr) (ndN b)) => l5LessI_any (.slice Ax X.length cx) (.slice Ar (ndN b).length cr) X (ndN b) W (HXI.out.below hW) hr hq.symm (by omega))
                have HLV := Lib.hid (HLL.out _ HBX.out hru)
                rw [hye.2] at HLV
                have hq' : (((ndN b).length : Int) == (X.length : Int)) = true := by rw [beq_iff_eq]; omega
                have hyk : y = k + g4 := by omega
                have HYK := Lib.hid hyk
                have hyle : y ≤ (rowS L).length := by omega
                clear HLL hnl hq hye hru hb hu htg hyk hy
                generalize ndN b = Y at *
                go_wp2_with fail
                refine HLV.out.mono ?_
                rintro e w4 ⟨rfl, b4⟩
                have HB4 := Lib.hid (btrans HBX.out b4)
                clear b4 HLV c0
                go_wp2_with fail
                go_roundg g4
                case measure => omega
                case rel => exact ⟨y, HYK.out, by go_num, hyle, HB4.out⟩
          · have ho' : ((X.length : Int) == (many : Int)) = false := by rw [beq_eq_false_iff_ne]; omega
            have HSE := Lib.hid (HSK.out ho)
            clear HAT HSK ho
            go_wp2_with fail
            go_roundg gq
            case measure => omega
            case rel =>
              refine ⟨code + 1, us, _, rfl, by omega, by go_num, ?_, HGB3.out, HB3.out⟩
              rw [HSE.out]
              exact HG3.out
end Go.Proofs.Ytfphpilabfpmjaa.forc
