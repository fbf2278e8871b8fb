/- The contract of the program's ProgramOfLayout. -/
import Derived.Handy
import Derived.Test.YtbjcfjgoedpgdaaPolM
import Derived.Test.YtbjcfjgoedpgdaaLbI
import Derived.Deep.DeepCutAuto
import Derived.Deep.RegionHeld3
import Derived.Maps.AppendAt
namespace Go.Proofs.Ytbjcfjgoedpgdaa.fronts
open Go.RowKit Go.Maps P2 words edges ints good adjs fns sets rets covs reach bags balls bitsI each grid gridr
set_option linter.unusedVariables false

theorem tneUI2 : (53 : TypeId) ≠ 3 := by decide
set_option maxHeartbeats 4000000 in
set_option maxRecDepth 100000 in
theorem implPol_any (s : Int) (v u : Value) (l : List Ed) (tl : List Int) (w : World) (h : Edges w v l) (hl : l.length ≤ 1048576) (hu : Ints w u tl) (htl : tl.length ≤ 1048576) :
    Calls Try.prog 43 #[.agg #[.int .i64 s, v], u] w (RetI w (ElimOk s l tl) (polL s l tl)) := by
  obtain ⟨i0, hi, hz0, hz1, hz2⟩ := info_parts infoInt
  obtain ⟨A, c, rfl, -⟩ := h.form
  obtain ⟨A2, c2, rfl, hc2⟩ := hu.form
  have hcap := ints_cap hu
  have H := Lib.hid h
  have HU := Lib.hid hu
  have HC2 := Lib.hid hc2
  have b0 : Below w.heap.size w (w.alloc (.cells #[.int .i64 s, .slice A l.length c] 29)) := (Below.refl _ _).alloc (Nat.le_refl _) _
  have g0 := Blk.new w 29 #[.int .i64 s, .slice A l.length c]
  have HO := Lib.hid (hasOrder_any s _ _ l tl _ (h.below b0) hl (hu.below b0) htl)
  clear h hu hc2
  by_cases hok : ElimOk s l tl
  · rw [okG_yes (show P2.Good s l ∧ EachS s.toNat tl from hok)] at HO
    have h0 := hok.1.1
    have h8 := hok.1.2.1
    obtain ⟨n, rfl⟩ : ∃ n : Nat, s = (n : Int) := ⟨s.toNat, by omega⟩
    have HOK := Lib.hid hok
    have hn : n ≤ 8 := by omega
    have HE : Hid (EachS n tl) := by have := hok.2; rwa [Int.toNat_natCast] at this
    have HV : Hid (polL (n : Int) l tl = polK n l tl n) := rfl
    rw [HV.out]
    have hnl := HE.out.1
    have HBG := Lib.hid (fun (W : World) (v : Value) (hv : Nums W v (clos l n)) (hW : Below w.heap.size w W) => bagsAlong_any n v (.slice A2 tl.length c2) l tl W hv (HU.out.below hW) HOK.out.1 HE.out)
    have HFR := Lib.hid (fun (W : World) (v : Value) (hv : Nums W v (clos l n)) (k : Nat) => frontIn_any n (goneB (tl.take k)) v l W hv HOK.out.1 hn)
    have HBO := Lib.hid (fun (W : World) (k ca : Nat) (x : Value) (hx : Ints W x (tl.take k)) (hW : Below w.heap.size w W) => bitsOf_any x (tl.take k) W hx (by rw [List.length_take]; omega) (fun y hy => by have := HE.out.range y (List.mem_of_mem_take hy); omega))
    rw [hnl] at HO HBG hcap ⊢
    clear hok hnl
    go_enter Try.func43, Try.ntmps43
    go_wp2_with fail
    refine HO.out.mono ?_
    rintro e w1 ⟨rfl, b1⟩
    have e1 := btrans b0 b1
    have g1 := g0.below b1 g0.lt
    obtain ⟨p0, p1, -, -⟩ := g1.two
    clear HO b0 b1 g0
    go_wp2_with fail
    refine (closedBits_any n (.slice A l.length c) l _ (H.out.below e1) hl HOK.out.1 hn).mono ?_
    rintro e w2 ⟨A3, c3, rfl, i3, b3⟩
    have e3 := btrans e1 b3
    have HCB := Lib.hid i3
    have HBG3 := Lib.hid (HBG.out w2 _ i3 e3)
    clear p0 p1 g1 b3 e1
    go_wp2_with fail
    refine HBG3.out.mono ?_
    rintro e w3 ⟨A4, c4, rfl, o4, b4⟩
    have HU5 : Hid (Nums w3 (.slice A4 n c4) (lbU n l tl n)) := by show Nums _ _ _; unfold Nums; rw [lbU_len n l tl (Nat.le_refl n)]; exact Reads.of_own o4
    have HE3 := Lib.hid (btrans e3 b4)
    have HCB3 := Lib.hid (HCB.out.below b4)
    have hs4 := b4.size
    have hs3 := e3.size
    have hs5 : w.heap.size ≤ w3.heap.size := by omega
    clear HBG3 o4 b4 i3 e3
    go_wp2_with fail
    go_loopg [7, 22] n (fun g ov iv wr => ∃ (k : Nat) (ow : Value), ow = ov ∧ k + g = n ∧ iv = .int .i64 (k : Int) ∧ RowB wr w3.heap.size ow (polK n l tl k) ∧ Below w3.heap.size w3 wr)
    case atStart => exact ⟨0, _, rfl, by omega, rfl, World.ownsRow_nil _ _ _ _, Below.refl _ _⟩
    case round =>
      obtain ⟨k, ow, rfl, hkg, rfl, hrow, hB⟩ := hrel
      obtain ⟨A6, c6, rfl⟩ := own_form hrow
      have hpl := polK_len n l tl hn k
      have hsz := hB.size
      cases gk with
      | zero =>
        obtain rfl : k = n := by omega
        have HR := Lib.hid (own_base hrow (by omega : w.heap.size ≤ w3.heap.size))
        have HB := Lib.hid (btrans HE3.out hB)
        clear hrow hB
        go_wp2_with fail
        go_ret2
        exact RetI.yes HOK.out HR.out HB.out
      | succ g2 =>
        have hlt : k < n := by omega
        have hlt' : (k : Int) < (n : Int) := by omega
        obtain ⟨x, hx⟩ : ∃ x, tl[k]? = some x := ⟨_, List.getElem?_eq_getElem (by rw [HE.out.1]; exact hlt)⟩
        have hxr := HE.out.range x (List.mem_of_getElem? hx)
        obtain ⟨m, rfl⟩ : ∃ m : Nat, x = (m : Int) := ⟨x.toNat, by omega⟩
        have hmn : m < n := by omega
        obtain ⟨ga, oa, rfl, c0⟩ := HC2.out k _ hx
        have q0 := nearv.cell_keep c0 (btrans HE3.out hB)
        obtain ⟨_, _, hf4, hcc4⟩ := Nums.form (HU5.out.below hB)
        rw [lbU_len n l tl (Nat.le_refl n)] at hf4
        cases hf4
        obtain ⟨g6, o6, rfl, q6⟩ := hcc4 k _ (lbU_at hlt)
        have hkc : k + 1 ≤ c2 := by omega
        have hkc' : (k : Int) + 1 ≤ (c2 : Int) := by omega
        have HK : Hid (polK n l tl (k + 1) = polK n l tl k ++ [(m : Int)] ++ neg1 (nw (ouB n l tl k) n)) := by
          show _ = _
          rw [polK, getD_at hx]
        have HTK : Hid (∀ y ∈ tl.take (k + 1), 0 ≤ y ∧ y < (n : Int)) := fun y hy => HE.out.range y (List.mem_of_mem_take hy)
        have HIT : Hid (∀ W, Below w.heap.size w W → Ints W (.slice (some ⟨ga, oa, none⟩) (k + 1) c2) (tl.take (k + 1))) := fun W hW => by
          have h_ := HU.out
          exact ints_take (h_.below hW) (by rw [HE.out.1]; omega) hkc
        have HB1 := Lib.hid (fun (W : World) (hW : Below w.heap.size w W) => HBO.out W (k + 1) c2 _ (HIT.out W hW) hW)
        rw [code_gone HTK.out] at HB1
        have HF1 := Lib.hid (fun (W : World) (hW : Below w3.heap.size w3 W) => HFR.out W _ (HCB3.out.below hW) (k + 1))
        have hand := out_walk (n := n) (l := l) (tl := tl) (i := k) hn
        unfold frB at hand
        have HND := Lib.hid (fun (W : World) => nodes_any (numOf (ouB n l tl k) n) W (by have := numOf_lt (ouB n l tl k) hn; omega))
        have HNN : Hid (nw (bitB (numOf (ouB n l tl k) n)) 8 = nw (ouB n l tl k) n) := nodes_num hn
        rw [HNN.out] at HND
        have htl8 := nw_len (ouB n l tl k) n
        have HB := Lib.hid hB
        clear hx c0 hB hcc4 HNN HIT
        generalize numOf (frontB l n (goneB (tl.take (k + 1)))) n = fv at *
        generalize numOf (goneB (tl.take (k + 1))) n = gv at *
        generalize lbN n l tl k = lv at *
        generalize numOf (ouB n l tl k) n = zv at *
        generalize polK n l tl k = P0 at *
        go_wp2_with (at_builtin; refine wpList_append_own_at _ rfl _ _ 25 rfl (w3.heap.size) 3 i0 (.int .i64 0) 1 8 Try.underlying25 hi hz0 hz1 hz2 rfl (by decide) _ _ _ rfl (hrow.alloc _) ⟨wr.heap.size, 0, none⟩ 1 1 [.int .i64 ((m : Int))] rfl rfl (cell_one_new _ _ _) (fun x hx => by simp at hx; subst hx; rfl) (by unfold maxLen; omega) (by omega) (by simp; omega) ?_; intro v2 w2 hown2 hgrow2 _ hl2)
        obtain ⟨hown3, hB2⟩ := push1 hrow hown2 hgrow2 hsz
        have HQL : Hid ((P0 ++ [(m : Int)]).length ≤ 9 * k + 1) := by show _ ≤ _; rw [List.length_append]; simp; omega
        generalize P0 ++ [(m : Int)] = Q at *
        obtain ⟨A7, c7, rfl⟩ := own_form hown3
        have HR2 := Lib.hid hown3
        have HB3 := Lib.hid (HB.out.trans hB2)
        have HBW := Lib.hid (btrans HE3.out HB3.out)
        have HB1 := Lib.hid (HB1.out w2 HBW.out)
        have HF1 := Lib.hid (HF1.out w2 HB3.out)
        have HN2 := Lib.hid (HND.out w2)
        clear hgrow2 hown2 hl2 hB2 hrow hown3 HB q0 q6 HND
        go_wp2_with fail
        refine HB1.out.mono ?_
        rintro e w' ⟨rfl, rfl⟩
        go_wp2_with fail
        refine HF1.out.mono ?_
        rintro e w' ⟨rfl, rfl⟩
        go_wp2_with fail
        refine HN2.out.mono ?_
        rintro e w4 ⟨A5, c5, rfl, o5, b5⟩
        have HR4 := Lib.hid (own_below HR2.out b5)
        have HB4 := Lib.hid (btrans HB3.out b5)
        have HAP : Hid (Apart (.slice A7 Q.length c7) (.slice A5 (nw (ouB n l tl k) n).length c5)) := Apart.old o5 (fun q hq => (HR2.out.lt q hq).2) (Nat.le_refl _)
        have HN4 := Lib.hid (own_base o5 HB3.out.size)
        have HAP4 := Lib.hid (fun q (hq : (Value.slice A7 Q.length c7).ownBlock = some q) => (HR2.out.lt q hq).2)
        have HOUT : Hid (∀ j, j ≤ (nw (ouB n l tl k) n).length → (neg1 ((nw (ouB n l tl k) n).take j)).length = j) := fun j hj => by rw [neg1_len, List.length_take]; omega
        have HNEG : Hid (∀ y ∈ nw (ouB n l tl k) n, 0 ≤ y ∧ y < 8) := fun y hy => by obtain ⟨z, h1, _, rfl⟩ := mem_nw.1 hy; omega
        clear b5 o5 HN2 HB1 HF1 hand
        generalize nw (ouB n l tl k) n = N at *
        go_wp2_with fail
        go_loopg [7, 45] N.length (fun g ov jv wi => ∃ (j : Nat) (ow : Value) (O : List Int), ow = ov ∧ j + g = N.length ∧ jv = .int .i64 (j : Int) ∧ Hid (O = Q ++ neg1 (N.take j)) ∧ RowB wi w3.heap.size ow O ∧ RowB wi w3.heap.size (.slice A5 N.length c5) N ∧ Hid (Apart ow (.slice A5 N.length c5)) ∧ Below w3.heap.size w3 wi)
        case atStart => exact ⟨0, _, Q, rfl, by omega, rfl, (by show _ = _; simp [neg1]), HR4.out, HN4.out, HAP, HB4.out⟩
        case round =>
          clear HR4 HN4 HAP HB4 HAP4
          obtain ⟨j, ow, O, rfl, hjg, rfl, hO0, hrow, hnd, hap, hB⟩ := hrel
          obtain ⟨A8, c8, rfl⟩ := own_form hrow
          have hsz := hB.size
          cases gk with
          | zero =>
            obtain rfl : j = N.length := by omega
            have HO1 : Hid (O = polK n l tl (k + 1)) := by have := hO0.out; rwa [List.take_length, ← HK.out] at this
            have HR := Lib.hid hrow
            have HB := Lib.hid hB
            clear hrow hnd hap hB hO0
            go_wp2_with fail
            go_roundg g2
            case measure => omega
            case rel => exact ⟨k + 1, _, rfl, by omega, by go_num, by rw [← HO1.out]; exact HR.out, HB.out⟩
          | succ g4 =>
            have hjt : j < N.length := by omega
            have hjt' : (j : Int) < (N.length : Int) := by omega
            obtain ⟨yv, hyv⟩ : ∃ yv, N[j]? = some yv := ⟨_, List.getElem?_eq_getElem hjt⟩
            have hyr := HNEG.out yv (List.mem_of_getElem? hyv)
            obtain ⟨_, _, hf9, hcc9⟩ := (show Ints wr (.slice A5 N.length c5) N from Reads.of_own hnd).form
            cases hf9
            obtain ⟨g9, o9, rfl, q9⟩ := hcc9 j _ hyv
            have hw : IntKind.i64.wrap (-1 - yv) = -1 - yv := IntWalk.i64_in _ (by omega)
            have HTK2 : Hid (N.take (j + 1) = N.take j ++ [yv]) := by show _ = _; rw [List.take_add_one, hyv]; rfl
            have hO : O.length ≤ 9 * k + 1 + 8 := by
              rw [hO0.out, List.length_append, HOUT.out j (by omega)]; have := HQL.out; omega
            have HNR := Lib.hid hnd
            have HAP := Lib.hid hap.out
            have HB := Lib.hid hB
            have HAS : Hid (O ++ [-1 - yv] = Q ++ neg1 (N.take (j + 1))) := by
              show _ = _
              rw [HTK2.out, neg1_snoc, hO0.out, List.append_assoc Q]
            clear hyv hcc9 hnd hap hB HTK2 hO0
            go_wp2_with (at_builtin; refine wpList_append_own_at _ rfl _ _ 25 rfl (w3.heap.size) 3 i0 (.int .i64 0) 1 8 Try.underlying25 hi hz0 hz1 hz2 rfl (by decide) _ _ _ rfl (hrow.alloc _) ⟨wr.heap.size, 0, none⟩ 1 1 [.int .i64 (-1 - yv)] rfl rfl (cell_one_new _ _ _) (fun x hx => by simp at hx; subst hx; rfl) (by unfold maxLen; omega) (by omega) (by simp; omega) ?_; intro v2 w2 hown2 hgrow2 _ hl2)
            obtain ⟨hown3, hB2⟩ := push1 hrow hown2 hgrow2 hsz
            obtain ⟨hnd2, hap2⟩ := RowB.push HNR.out HAP.out hgrow2 hl2 (by simp)
            have HR9 := Lib.hid hown3
            have HN9 := Lib.hid hnd2
            have HA9 := Lib.hid hap2
            have HB9 := Lib.hid (HB.out.trans hB2)
            clear hgrow2 hown2 hl2 hB2 hrow hown3 hnd2 hap2
            go_roundg g4
            case measure => omega
            case rel => exact ⟨j + 1, _, _, rfl, by omega, by go_num, HAS, HR9.out, HN9.out, HA9, HB9.out⟩
  · rw [okG_no (show ¬ (P2.Good s l ∧ EachS s.toNat tl) from hok)] at HO
    have HN := Lib.hid hok
    clear hok
    go_enter Try.func43, Try.ntmps43
    go_wp2_with fail
    refine HO.out.mono ?_
    rintro e w1 ⟨rfl, b1⟩
    go_wp2_with fail
    go_ret2
    exact RetI.nil HN.out (btrans b0 b1)
end Go.Proofs.Ytbjcfjgoedpgdaa.fronts
