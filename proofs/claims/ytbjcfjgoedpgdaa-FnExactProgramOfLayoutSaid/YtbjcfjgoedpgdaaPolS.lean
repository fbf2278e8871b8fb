/- The contract of the model's ProgramOfLayout. -/
import Derived.Handy
import Derived.Test.YtbjcfjgoedpgdaaPolM
import Derived.Test.YtbjcfjgoedpgdaaFrontS
import Derived.Test.YtbjcfjgoedpgdaaLayI
import Derived.Deep.DeepCutAuto
import Derived.Maps.AppendAt
import Derived.Deep.RegionHeld3
import Derived.StillTailTactics
namespace Go.Proofs.Ytbjcfjgoedpgdaa.fronts
open Go.RowKit Go.Maps P2 words edges ints good adjs fns sets rets covs reach bags balls bitsI each grid gridr
set_option linter.unusedVariables false

set_option maxHeartbeats 4000000 in
set_option maxRecDepth 100000 in
theorem specPol_any (s : Int) (v u : Value) (l : List Ed) (tl : List Int) (w : World) (h : Edges w v l) (hl : l.length ≤ 1048576) (hu : Ints w u tl) (htl : tl.length ≤ 1048576) (hs1 : -9223372036854775808 ≤ s) (hs2 : s ≤ 9223372036854775807) :
    Calls Try.prog 42 #[.agg #[.int .i64 s, v], u] w (RetI w (ElimOk s l tl) (polL s l tl)) := by
  obtain ⟨i0, hi, hz0, hz1, hz2⟩ := info_parts infoInt
  obtain ⟨A, c, rfl, -⟩ := h.form
  obtain ⟨A2, c2, rfl, hc2⟩ := hu.form
  have hcap := ints_cap hu
  have H := Lib.hid h
  have HU := Lib.hid hu
  have HC2 := Lib.hid hc2
  have b0 : Below w.heap.size w (((w.alloc (.cells #[.int .i64 s, .slice A l.length c] 29)).alloc (.cells #[] 3)).alloc (.cells #[] 3)) := (((Below.refl _ _).alloc (Nat.le_refl _) _).alloc (by simp) _).alloc (by simp; omega) _
  have g0 := ((Blk.new w 29 #[.int .i64 s, .slice A l.length c]).alloc (.cells #[] 3)).alloc (.cells #[] 3)
  have o0 := (own_new0 (w.alloc (.cells #[.int .i64 s, .slice A l.length c] 29)) 3 1).alloc (.cells #[] 3)
  have q0 := own_new0 ((w.alloc (.cells #[.int .i64 s, .slice A l.length c] 29)).alloc (.cells #[] 3)) 3 1
  rw [World.size_alloc] at o0 q0
  rw [World.size_alloc] at q0
  have HG := Lib.hid (l2Good_any s _ l _ (h.below b0) hl hs1 hs2)
  clear h hu hc2
  by_cases hgd : P2.Good s l
  · rw [goodB_yes hgd] at HG
    have h0 := hgd.1
    have h8 := hgd.2.1
    obtain ⟨n, rfl⟩ : ∃ n : Nat, s = (n : Int) := ⟨s.toNat, by omega⟩
    have hn : n ≤ 8 := by omega
    have HV : Hid (polL (n : Int) l tl = polK n l tl n) := rfl
    have HL := Lib.hid (fun (W : World) (hW : Below w.heap.size w W) => l6Layout_any n (.slice A l.length c) (.slice A2 tl.length c2) l tl W (H.out.below hW) (HU.out.below hW) htl hn)
    rw [elim_each hgd] at HL
    by_cases hok : ElimOk (n : Int) l tl
    · rw [okG_yes hok] at HL
      rw [HV.out]
      have HOK := Lib.hid hok
      have HE : Hid (EachS n tl) := by have := hok.2; rwa [Int.toNat_natCast] at this
      have hnl := HE.out.1
      rw [hnl] at HL hcap ⊢
      clear hgd hok hnl
      go_enter Try.func42, Try.ntmps42
      go_wp2_with fail
      refine HG.out.mono ?_
      rintro e w1 ⟨rfl, b1⟩
      have e1 := btrans b0 b1
      have g1 := g0.below b1 g0.lt
      have o1 := own_below o0 b1
      have q1 := own_below q0 b1
      obtain ⟨p0, p1, -, -⟩ := g1.two
      have HL1 := Lib.hid (HL.out w1 e1)
      clear HG b0 b1 g0 HL o0 q0
      go_wp2_with fail
      refine HL1.out.mono ?_
      rintro e w2 ⟨rfl, b2⟩
      have HE2 := Lib.hid (btrans e1 b2)
      have HG2 := Lib.hid (g1.below b2 g1.lt)
      have HO2 := Lib.hid (own_base (own_below o1 b2) (Nat.le_refl (w.heap.size + 1)))
      have HQ2 := Lib.hid (own_base (own_below q1 b2) (show w.heap.size + 1 ≤ w.heap.size + 1 + 1 by omega))
      have hs2' : w.heap.size + 1 ≤ w2.heap.size := by have := HG2.out.lt; omega
      clear p0 p1 e1 g1 o1 q1 b2 HL1
      obtain ⟨wq, hwq⟩ : ∃ wq, wq = w2 := ⟨_, rfl⟩
      subst hwq
      go_wp2_with fail
      go_loopg [6, 7, 8] n (fun g ov hv iv wr => ∃ (k : Nat) (ow hw : Value), ow = ov ∧ hw = hv ∧ k + g = n ∧ iv = .int .i64 (k : Int) ∧ RowB wr (w.heap.size + 1) ow (polK n l tl k) ∧ RowB wr (w.heap.size + 1) hw (nw (frB n l tl k) n) ∧ Hid (Apart ow hw) ∧ Below (w.heap.size + 1) wq wr)
      case atStart =>
        refine ⟨0, _, _, rfl, rfl, by omega, rfl, HO2.out, ?_, ?_, Below.refl _ _⟩
        · rw [fr_zero]; exact HQ2.out
        · show Apart _ _
          intro q h1 h2
          simp [Value.ownBlock] at h1 h2
          omega
      case round =>
        clear HO2 HQ2
        obtain ⟨k, ow, hw, rfl, rfl, hkg, rfl, hrow, hher, hap, hB⟩ := hrel
        obtain ⟨A6, c6, rfl⟩ := own_form hrow
        obtain ⟨A7, c7, rfl⟩ := own_form hher
        have hpl := polK_len n l tl hn k
        have hfl := nw_len (frB n l tl k) n
        have hsz := hB.size
        cases gk with
        | zero =>
          obtain rfl : k = n := by omega
          have HR := Lib.hid (own_base hrow (by omega : w.heap.size ≤ w.heap.size + 1))
          have HB := Lib.hid (HE2.out.trans (hB.mono (by omega)))
          clear hrow hher hap hB
          go_wp2_with fail
          go_ret2
          exact RetI.yes HOK.out HR.out HB.out
        | succ g2 =>
          have hlt : k < n := by omega
          have hlt' : (k : Int) < (n : Int) := by omega
          obtain ⟨x, hx⟩ : ∃ x, tl[k]? = some x := ⟨_, List.getElem?_eq_getElem (by rw [HE.out.1]; exact hlt)⟩
          have hxr := HE.out.range x (List.mem_of_getElem? hx)
          obtain ⟨m, rfl⟩ : ∃ m : Nat, x = (m : Int) := ⟨x.toNat, by omega⟩
          have hmn : m < n := by omega
          obtain ⟨ga, oa, rfl, c0⟩ := HC2.out k _ hx
          have HC0 := Lib.hid c0
          have HBW := Lib.hid (fun (W : World) (hb : Below (w.heap.size + 1) wq W) => HE2.out.trans (hb.mono (by omega)))
          have q0 := nearv.cell_keep c0 (HBW.out _ hB)
          have hkc : k + 1 ≤ c2 := by omega
          have hkc' : (k : Int) + 1 ≤ (c2 : Int) := by omega
          have HK : Hid (polK n l tl (k + 1) = polK n l tl k ++ [(m : Int)] ++ neg1 (nw (ouB n l tl k) n)) := by
            show _ = _
            rw [polK, getD_at hx]
          have HLB : Hid (nw (pput (frB n l tl k) m) n = nw (lbB n l tl k) n) := by
            show _ = _
            unfold lbB frB
            rw [getD_at hx]
          have HSA := Lib.hid (stay_all (l := l) HE.out hlt)
          have HOA := Lib.hid (outs_all (n := n) (l := l) (tl := tl) (i := k))
          have HTK : Hid (∀ y ∈ tl.take (k + 1), 0 ≤ y ∧ y < (n : Int)) := fun y hy => HE.out.range y (List.mem_of_mem_take hy)
          have HFO := Lib.hid (fun (W : World) (hW : Below (w.heap.size + 1) wq W) => l6Front_any n (.slice A l.length c) (.slice (some ⟨ga, oa, none⟩) (k + 1) c2) l (tl.take (k + 1)) W (H.out.below (HBW.out W hW)) hl (by
            have h_ := HU.out
            exact ints_take (h_.below (HBW.out W hW)) (by rw [HE.out.1]; omega) hkc) (by rw [List.length_take]; omega) hn HTK.out)
          have HTL : Hid ((tl.take (k + 1)).length = k + 1) := by show _ = _; rw [List.length_take, HE.out.1]; omega
          have HHE := Lib.hid hher
          have HAP := Lib.hid hap.out
          have HB := Lib.hid hB
          clear hx c0 hher hap hB
          generalize polK n l tl k = P0 at *
          go_wp2_with ((at_builtin; refine wpList_append_own_at _ rfl _ _ 25 rfl (w.heap.size + 1) 3 i0 (.int .i64 0) 1 8 Try.underlying25 hi hz0 hz1 hz2 rfl (by decide) _ _ _ rfl (hrow.alloc _) ⟨wr.heap.size, 0, none⟩ 1 1 [.int .i64 ((m : Int))] rfl rfl (cell_one_new _ _ _) (fun x hx => by simp at hx; subst hx; rfl) (by unfold maxLen; omega) (by omega) (by simp; omega) ?_; intro v2 w2 hown2 hgrow2 _ hl2); obtain ⟨hown3, hB2⟩ := push1 hrow hown2 hgrow2 (by omega); have q9 := nearv.cell_keep HC0.out (HBW.out _ (HB.out.trans hB2)))
          obtain ⟨hhe2, hap2⟩ := RowB.push HHE.out HAP.out hgrow2 hl2 (by simp)
          have HQL : Hid ((P0 ++ [(m : Int)]).length ≤ 9 * k + 1) := by show _ ≤ _; rw [List.length_append]; simp; omega
          generalize P0 ++ [(m : Int)] = Q at *
          obtain ⟨A8, c8, rfl⟩ := own_form hown3
          have hB3 := HB.out.trans hB2
          have hz3 := hB3.size
          have HPU := Lib.hid (l1Put_apart _ (.slice A8 Q.length c8) (nw (frB n l tl k) n) (m : Int) _ (w.heap.size + 1) hhe2 (fun q hq => (hown3.lt q hq).2) hap2 (by omega) (by omega) (nw_asc _ _))
          have HO3 := Lib.hid hown3
          have HB3 := Lib.hid hB3
          clear hgrow2 hown2 hl2 hB2 hrow hown3 hB3 q0 hhe2 hap2 HHE HAP
          refine HPU.out.mono ?_
          rintro e w4 ⟨L, A9, cc9, rfl, hp9, o9, a9, b9⟩
          have HL9 := Lib.hid ((pput_is hp9 hmn).trans HLB.out)
          have HO4 := Lib.hid (own_below HO3.out b9)
          have HB4 := Lib.hid (HB3.out.trans (b9.mono (by omega)))
          have HG4 := Lib.hid (HG2.out.below HB4.out (by omega))
          have HH4 := Lib.hid o9
          have HA4 := Lib.hid a9
          clear hp9 o9 a9 b9 HPU HO3 HB3 q9
          rw [HL9.out] at HH4 HA4 ⊢
          obtain ⟨wo, hwo⟩ : ∃ wo, wo = w4 := ⟨_, rfl⟩
          subst hwo
          obtain ⟨y0, y1, -, -⟩ := HG4.out.two
          have HSK := Lib.hid (fun (W : World) (hb : Below wo.heap.size wo W) => (⟨nearv.cell_keep y0 hb, nearv.cell_keep y1 hb⟩ : W.cell? ⟨w.heap.size, 0, none⟩ = some (.int .i64 (n : Int)) ∧ W.cell? ⟨w.heap.size, 1, none⟩ = some (.slice A l.length c)))
          have hz4 := HB4.out.size
          have HO5 := Lib.hid (fun q (hq : (Value.slice A8 Q.length c8).ownBlock = some q) => (HO4.out.lt q hq).2)
          have HH5 := Lib.hid (fun q (hq : (Value.slice A9 (nw (lbB n l tl k) n).length cc9).ownBlock = some q) => (HH4.out.lt q hq).2)
          have HLL := Lib.hid (nw_len (lbB n l tl k) n)
          have HFL : Hid ((froL n l (tl.take (k + 1))).length ≤ 8) := by show _ ≤ _; have := nw_len (frontB l n (goneB (tl.take (k + 1)))) n; unfold froL; omega
          have hw1 : IntKind.i64.wrap ((k : Int) + 1) = (k : Int) + 1 := IntWalk.i64_in _ (by omega)
          have hp1 : (0 : Int) ≤ (k : Int) + 1 := by omega
          have hq1 : ((k : Int) + 1).toNat = k + 1 := by omega
          have HF4 := Lib.hid (fun (W : World) (hb : Below wo.heap.size wo W) => HFO.out W (HB4.out.trans (hb.mono (by omega))))
          go_wp2_with fail
          go_cut [9, 10] (fun a b wx => CutP wo wx (froL n l (tl.take (k + 1))) a b)
          case first =>
            go_region_held3 (fun w' => w'.cell? ⟨w.heap.size, 0, none⟩ = some (.int .i64 (n : Int)) ∧ w'.cell? ⟨w.heap.size, 1, none⟩ = some (.slice A l.length c)) (first | go_keep | exact HSK.out _ d3 | exact HSK.out _ (d3.alloc d3.size _)) (first
              | (go_at_call 52; have D2 : Below wo.heap.size wo wo.drew := (Below.refl _ _).drew; (with_reducible refine (HF4.out wo.drew D2).mono ?_); rintro e w3 ⟨A3, c3, rfl, r3, b3⟩; have d3 : Below wo.heap.size wo w3 := btrans D2 b3; have r4 := own_base r3 D2.size)
              | (go_at_call 52; have D2 : Below wo.heap.size wo (wo.alloc (.cells #[] 3)).drew := ((Below.refl _ _).alloc (Nat.le_refl _) _).drew; (with_reducible refine (HF4.out (wo.alloc (.cells #[] 3)).drew D2).mono ?_); rintro e w3 ⟨A3, c3, rfl, r3, b3⟩; have d3 : Below wo.heap.size wo w3 := btrans D2 b3; have r4 := own_base r3 D2.size; have n3 : w3.ownsRow wo.heap.size 3 1 (.slice (some ⟨wo.heap.size, 0, none⟩) 0 0) 0 [] := own_below (own_new0 wo.drew 3 1) b3))
            all_goals (go_wp2_with fail; go_meet)
            · exact ⟨_, _, _, _, rfl, rfl, own_below r4 ((Below.refl _ _).alloc (Nat.le_refl _) _), own_base (own_new0 w3 3 1) d3.size, (fun q hq e => by
                have h1 := (r3.lt q e).2
                simp [Value.ownBlock] at hq
                omega), d3.alloc d3.size _⟩
            · exact ⟨_, _, _, _, rfl, rfl, r4, n3, (fun q hq e => by
                have h1 := (r3.lt q e).1
                have h2 : (wo.alloc (.cells #[] 3)).drew.heap.size = wo.heap.size + 1 := by simp
                simp [Value.ownBlock] at hq
                omega), d3⟩
          case rest =>
            obtain ⟨A3, c3, A4, c4, rfl, rfl, hf0, hs0, hfs, hBc⟩ := hcut
            have HT0 : Hid (Four wc (w.heap.size + 1) (.slice A8 Q.length c8) (.slice A4 0 c4) (.slice A9 (nw (lbB n l tl k) n).length cc9) (.slice A3 (froL n l (tl.take (k + 1))).length c3) Q [] (nw (lbB n l tl k) n) (froL n l (tl.take (k + 1)))) :=
              ⟨own_below HO4.out hBc, own_base hs0 (by omega), own_below HH4.out hBc, own_base hf0 (by omega), Apart.old hs0 HO5.out (Nat.le_refl _), HA4.out, Apart.old hf0 HO5.out (Nat.le_refl _), (Apart.old hs0 HH5.out (Nat.le_refl _)).symm, hfs⟩
            have HBC := Lib.hid (HB4.out.trans (hBc.mono (by omega)))
            have HMEM : Hid (∀ y ∈ nw (lbB n l tl k) n, 0 ≤ y ∧ y < 8) := fun y hy => by obtain ⟨z, h1, _, rfl⟩ := mem_nw.1 hy; omega
            have HOA2 := Lib.hid HOA.out
            clear hf0 hs0 hfs hBc HA4 HO4 HH4 HO5 HH5 HF4 HFO HSK y0 y1 HB4 HL9 HLB
            rw [← HOA.out] at HK
            generalize nw (lbB n l tl k) n = N at *
            generalize froL n l (tl.take (k + 1)) = F at *
            go_wp2_with fail
            have hNL : N.length ≤ 8 := by have := HLL.out; omega
            have hFL := HFL.out
            go_loopg [6, 10, 11] N.length (fun g ov sv jv wr => ∃ (j : Nat) (ow sw : Value) (O S : List Int), ow = ov ∧ sw = sv ∧ j + g = N.length ∧ jv = .int .i64 (j : Int) ∧ Hid (O = Q ++ neg1 ((N.take j).filter (fun y => !decide (y ∈ F)))) ∧ Hid (S = (N.take j).filter (fun y => decide (y ∈ F))) ∧ Hid (Four wr (w.heap.size + 1) ow sw (.slice A9 N.length cc9) (.slice A3 F.length c3) O S N F) ∧ Below (w.heap.size + 1) wq wr)
            case atStart => exact ⟨0, _, _, Q, [], rfl, rfl, by omega, rfl, (by show _ = _; simp [neg1]), rfl, HT0, HBC.out⟩
            case round =>
              clear HT0 HBC
              obtain ⟨j, ow, sw, O, S, rfl, rfl, hjg, rfl, hO0, hS0, hT, hB⟩ := hrel
              obtain ⟨hrow, hst, hnd, hfr, -, ap2, -, -, -⟩ := hT.out
              have APS : Hid (Apart ow sw) := hT.out.2.2.2.2.1
              obtain ⟨B1, d1, rfl⟩ := own_form hrow
              obtain ⟨B2, d2, rfl⟩ := own_form hst
              have hsz := hB.size
              cases gk with
              | zero =>
                obtain rfl : j = N.length := by omega
                have HO1 : Hid (O = polK n l tl (k + 1)) := by have := hO0.out; rwa [List.take_length, ← HK.out] at this
                have HS1 : Hid (S = nw (frB n l tl (k + 1)) n) := by have := hS0.out; rwa [List.take_length, HSA.out] at this
                have HR := Lib.hid hrow
                have HS := Lib.hid hst
                have HB := Lib.hid hB
                clear hrow hst hnd hfr hT hB hO0 hS0 ap2
                go_wp2_with fail
                go_roundg g2
                case measure => omega
                case rel => exact ⟨k + 1, _, _, rfl, rfl, by omega, by go_num, by rw [← HO1.out]; exact HR.out, by rw [← HS1.out]; exact HS.out, APS, HB.out⟩
              | succ g4 =>
                have hjt : j < N.length := by omega
                have hjt' : (j : Int) < (N.length : Int) := by omega
                obtain ⟨yv, hyv⟩ : ∃ yv, N[j]? = some yv := ⟨_, List.getElem?_eq_getElem hjt⟩
                have hyr := HMEM.out yv (List.mem_of_getElem? hyv)
                obtain ⟨_, _, hf9, hcc9⟩ := (show Ints wr (.slice A9 N.length cc9) N from Reads.of_own hnd).form
                cases hf9
                obtain ⟨g9, o9, rfl, q9⟩ := hcc9 j _ hyv
                have hw : IntKind.i64.wrap (-1 - yv) = -1 - yv := IntWalk.i64_in _ (by omega)
                have HTK2 : Hid (N.take (j + 1) = N.take j ++ [yv]) := by show _ = _; rw [List.take_add_one, hyv]; rfl
                have hjl : ∀ q : Int → Bool, ((N.take j).filter q).length ≤ 8 := fun q => Nat.le_trans (List.length_filter_le _ _) (by rw [List.length_take]; omega)
                have hO : O.length ≤ 9 * k + 1 + 8 := by
                  rw [hO0.out, List.length_append, neg1_len]; have := HQL.out; have := hjl (fun y => !decide (y ∈ F)); omega
                have hS : S.length ≤ 8 := by rw [hS0.out]; exact hjl _
                have HHS := Lib.hid (l1Has_any _ F yv wr (Reads.of_own hfr) (by omega))
                have HT := Lib.hid hT.out
                have HB := Lib.hid hB
                clear hyv hcc9 hnd hfr hT hB hjl ap2 APS
                cases hm : decide (yv ∈ F) with
                | true =>
                  rw [hm] at HHS
                  have HS2 : Hid (S ++ [yv] = (N.take (j + 1)).filter (fun y => decide (y ∈ F))) := by
                    show _ = _
                    rw [HTK2.out, List.filter_append, ← hS0.out, List.filter_cons_of_pos (by simpa using hm)]; rfl
                  have HO2 : Hid (O = Q ++ neg1 ((N.take (j + 1)).filter (fun y => !decide (y ∈ F)))) := by
                    show _ = _
                    rw [HTK2.out, List.filter_append, List.filter_cons_of_neg (by simp [hm]), List.filter_nil, List.append_nil]; exact hO0.out
                  clear hm hO0 hS0 HTK2
                  go_wp2_with fail
                  refine HHS.out.mono ?_
                  rintro e w' ⟨rfl, rfl⟩
                  go_wp2_with (at_builtin; refine wpList_append_own_at _ rfl _ _ 25 rfl (w.heap.size + 1) 3 i0 (.int .i64 0) 1 8 Try.underlying25 hi hz0 hz1 hz2 rfl (by decide) _ _ _ rfl (hst.alloc _) ⟨wr.heap.size, 0, none⟩ 1 1 [.int .i64 (yv)] rfl rfl (cell_one_new _ _ _) (fun x hx => by simp at hx; subst hx; rfl) (by unfold maxLen; omega) (by omega) (by simp; omega) ?_; intro v2 w2 hown2 hgrow2 _ hl2)
                  obtain ⟨hown3, hB2⟩ := push1 hst hown2 hgrow2 (by omega)
                  have HT2 := Lib.hid (Four.push_s HT.out hown3 hgrow2 hl2 (by simp))
                  have HB9 := Lib.hid (HB.out.trans hB2)
                  clear hgrow2 hown2 hl2 hB2 hrow hst hown3
                  go_roundg g4
                  case measure => omega
                  case rel => exact ⟨j + 1, _, _, _, _, rfl, rfl, by omega, by go_num, HO2, HS2, HT2, HB9.out⟩
                | false =>
                  rw [hm] at HHS
                  have HS2 : Hid (S = (N.take (j + 1)).filter (fun y => decide (y ∈ F))) := by
                    show _ = _
                    rw [HTK2.out, List.filter_append, List.filter_cons_of_neg (by simp [hm]), List.filter_nil, List.append_nil]; exact hS0.out
                  have HO2 : Hid (O ++ [-1 - yv] = Q ++ neg1 ((N.take (j + 1)).filter (fun y => !decide (y ∈ F)))) := by
                    show _ = _
                    rw [HTK2.out, List.filter_append, List.filter_cons_of_pos (by simp [hm]), List.filter_nil, neg1_snoc, ← List.append_assoc, ← hO0.out]
                  clear hm hO0 hS0 HTK2
                  go_wp2_with fail
                  refine HHS.out.mono ?_
                  rintro e w' ⟨rfl, rfl⟩
                  go_wp2_with (at_builtin; refine wpList_append_own_at _ rfl _ _ 25 rfl (w.heap.size + 1) 3 i0 (.int .i64 0) 1 8 Try.underlying25 hi hz0 hz1 hz2 rfl (by decide) _ _ _ rfl (hrow.alloc _) ⟨wr.heap.size, 0, none⟩ 1 1 [.int .i64 (-1 - yv)] rfl rfl (cell_one_new _ _ _) (fun x hx => by simp at hx; subst hx; rfl) (by unfold maxLen; omega) (by omega) (by simp; omega) ?_; intro v2 w2 hown2 hgrow2 _ hl2)
                  obtain ⟨hown3, hB2⟩ := push1 hrow hown2 hgrow2 (by omega)
                  have HT2 := Lib.hid (Four.push_o HT.out hown3 hgrow2 hl2 (by simp))
                  have HB9 := Lib.hid (HB.out.trans hB2)
                  clear hgrow2 hown2 hl2 hB2 hrow hst hown3
                  go_roundg g4
                  case measure => omega
                  case rel => exact ⟨j + 1, _, _, _, _, rfl, rfl, by omega, by go_num, HO2, HS2, HT2, HB9.out⟩
    · rw [okG_no hok] at HL
      have HN := Lib.hid hok
      clear hgd hok HV
      go_enter Try.func42, Try.ntmps42
      go_wp2_with fail
      refine HG.out.mono ?_
      rintro e w1 ⟨rfl, b1⟩
      have e1 := btrans b0 b1
      have g1 := g0.below b1 g0.lt
      have o1 := own_below o0 b1
      obtain ⟨p0, p1, -, -⟩ := g1.two
      have HL1 := Lib.hid (HL.out w1 e1)
      clear HG b0 b1 g0 HL o0 q0
      go_wp2_with fail
      refine HL1.out.mono ?_
      rintro e w2 ⟨rfl, b2⟩
      have HE2 := Lib.hid (btrans e1 b2)
      have HO := Lib.hid (own_base (own_below o1 b2) (show w.heap.size ≤ w.heap.size + 1 by omega))
      go_wp2_with fail
      go_ret2
      exact RetI.no HN.out HO.out HE2.out
  · rw [goodB_no hgd] at HG
    have HN : Hid (¬ ElimOk s l tl) := fun hh => hgd hh.1
    clear hgd
    go_enter Try.func42, Try.ntmps42
    go_wp2_with fail
    refine HG.out.mono ?_
    rintro e w1 ⟨rfl, b1⟩
    have HE1 := Lib.hid (btrans b0 b1)
    have HO := Lib.hid (own_base (own_below o0 b1) (show w.heap.size ≤ w.heap.size + 1 by omega))
    go_wp2_with fail
    go_ret2
    exact RetI.no HN.out HO.out HE1.out
end Go.Proofs.Ytbjcfjgoedpgdaa.fronts
