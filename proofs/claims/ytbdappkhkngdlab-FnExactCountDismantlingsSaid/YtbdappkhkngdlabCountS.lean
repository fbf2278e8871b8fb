/- The contract of the model's CountDismantlings. -/
import Derived.Handy
import Derived.Test.YtbdappkhkngdlabCount
namespace Go.Proofs.Ytbdappkhkngdlab.count
open Go.RowKit P2 words edges ints good near adjs fns sets rets covs balls cors dism
set_option linter.unusedVariables false

theorem retIB {a c : Int} {b d : Bool} (h : a = c) (h2 : b = d) : Ending.returned (.tuple #[.int .i64 a, .bool b]) = .returned (.tuple #[.int .i64 c, .bool d]) := by rw [h, h2]
theorem wrap_powI {m : Nat} (hm : m ≤ 8) : IntKind.i64.wrap ((2 : Int) ^ m) = ((2 ^ m : Nat) : Int) := by
  have h : 2 ^ m ≤ 256 := by have := Nat.pow_le_pow_right (show 0 < 2 by decide) hm; simpa using this
  have h2 : ((2 : Int) ^ m) = ((2 ^ m : Nat) : Int) := by simp
  rw [h2]
  generalize 2 ^ m = p at *
  exact IntWalk.i64_in _ (by omega)
theorem bits_of_pow {n c k : Nat} (h : c < 2 ^ n) (hk : c.testBit k = true) : k < n := by
  rcases Nat.lt_or_ge k n with h1 | h1
  · exact h1
  · rw [Nat.testBit_lt_two_pow (Nat.lt_of_lt_of_le h (Nat.pow_le_pow_right (by decide) h1))] at hk; cases hk
theorem cl_at {l : List Ed} {n k c : Nat} (h : c < k) : (cl l n k)[c]? = some ((cl l n k).getD c 0) := by
  rw [List.getD_eq_getElem?_getD, List.getElem?_eq_getElem (by rw [cl_len]; exact h)]; rfl

set_option maxHeartbeats 4000000 in
set_option maxRecDepth 100000 in
theorem specCount_any (s : Int) (v : Value) (l : List Ed) (w : World) (h : Edges w v l) (hl : l.length ≤ 1048576) (hs1 : -9223372036854775808 ≤ s) (hs2 : s ≤ 9223372036854775807) :
    Calls Try.prog 53 #[.agg #[.int .i64 s, v]] w fun e w' => e = .returned (.tuple #[.int .i64 (cntV s l), .bool (okG (SomeP s l))]) ∧ Below w.heap.size w w' := by
  obtain ⟨i0, hi, hz0, hz1, hz2⟩ := info_parts infoInt
  obtain ⟨A, c, rfl, -⟩ := h.form
  have H := Lib.hid h
  have b0 : Below w.heap.size w (w.alloc (.cells #[.int .i64 s, .slice A l.length c] 29)) := (Below.refl _ _).alloc (Nat.le_refl _) _
  have g0 := Blk.new w 29 #[.int .i64 s, .slice A l.length c]
  have HF := Lib.hid (l3Some_any s _ l _ (h.below b0) hl hs1 hs2)
  clear h
  by_cases hsm : SomeP s l
  · rw [okG_yes hsm] at HF
    obtain ⟨n, rfl⟩ : ∃ n : Nat, s = (n : Int) := ⟨s.toNat, by have := hsm.2; omega⟩
    have hn : n ≤ 8 := by have := hsm.1.2.1; omega
    have HOK := Lib.hid (okG_yes hsm)
    have HGD := Lib.hid hsm.1
    obtain ⟨N, hN⟩ : ∃ N : Nat, 2 ^ n = N := ⟨_, rfl⟩
    have hN8 : N ≤ 256 := by have := Nat.pow_le_pow_right (show 0 < 2 by decide) hn; rw [hN] at this; simpa using this
    have hN1 : 1 ≤ N := by have := Nat.one_le_two_pow (n := n); omega
    have HV : Hid (cntV (n : Int) l = (cl l n N).getD (N - 1) 0) := by show _ = _; unfold cntV; rw [szG_yes hsm, Int.toNat_natCast, hN]
    have hwN : IntKind.i64.wrap ((2 : Int) ^ n) = (N : Int) := by rw [wrap_powI hn, hN]
    have HNP := Lib.hid hN
    have HC1 := Lib.hid (cl_one l n)
    clear hsm hN
    go_enter Try.func53, Try.ntmps53
    go_wp2_with fail
    refine HF.out.mono ?_
    rintro e w1 ⟨rfl, b1⟩
    have e1 := btrans b0 b1
    have g1 := g0.below b1 g0.lt
    have hs1' := g1.lt
    have o1 := own_new1 w1 3 0
    have g2 := g1.alloc (.cells #[.int .i64 0] 3)
    have e2 : Below w.heap.size w (w1.alloc (.cells #[.int .i64 0] 3)) := e1.alloc e1.size _
    have HO := Lib.hid (own_base o1 (show w.heap.size + 1 ≤ w1.heap.size by omega))
    rw [← HC1.out] at HO
    clear HF b0 b1 g0 g1 o1
    go_wp2_with fail
    go_loopg [4, 5] (N - 1) (fun g sv i wr => ∃ k : Nat, k + g = N ∧ 1 ≤ k ∧ i = .int .i64 (k : Int) ∧ wr.ownsRow (w.heap.size + 1) 3 1 sv (cl l n k).length (cellsI (cl l n k)) ∧ Blk wr w.heap.size 29 #[.int .i64 (n : Int), .slice A l.length c] ∧ Below w.heap.size w wr)
    case atStart => exact ⟨1, by omega, by omega, rfl, HO.out, g2, e2⟩
    case round =>
      clear HO g2 e2
      obtain ⟨k, hkg, hk1, rfl, hrow, hgb, hB⟩ := hrel
      obtain ⟨p0, p1, -, -⟩ := hgb.two
      have hcl := cl_len l n k
      cases gk with
      | zero =>
        obtain rfl : k = N := by omega
        rw [hcl] at hrow
        obtain ⟨A3, c3, hfm, hcell⟩ := Reads.of_own hrow
        subst hfm
        obtain ⟨g, o, hA, _, hcell2⟩ := hcell (by omega)
        subst hA
        have hval := hcell2 (k - 1) _ (cellsI_at (cl_at (l := l) (n := n) (show k - 1 < k by omega)))
        obtain ⟨j, hj⟩ : ∃ j : Nat, j = k - 1 := ⟨_, rfl⟩
        rw [← hj] at hval HV
        have hkj : (k : Int) = (j : Int) + 1 := by omega
        have HVV := Lib.hid HV.out
        have hlen' : (cl l n k).length = j + 1 := by omega
        clear hcl hrow hcell hcell2
        obtain rfl : k = j + 1 := by omega
        clear hj hkj hlen'
        generalize (cl l n (j + 1)).getD j 0 = zz at *
        go_wp2_with fail
        go_ret2
        exact ⟨retIB HVV.out.symm HOK.out.symm, hB⟩
      | succ g2 =>
        have hclk : (cl l n k).length ≤ 256 := by omega
        clear hcl
        have hlt : k < N := by omega
        have hlt' : (k : Int) < (N : Int) := by omega
        have hkn : k < 2 ^ n := by rw [HNP.out]; exact hlt
        have HCD : Hid (codeL (nw (bitB k) n) = k) := code_nw fun i hi => bits_of_pow hkn hi
        have HBT := Lib.hid (l2Bits_any n k wr hn (by omega))
        have hnl := nw_len (bitB k) n
        have HIN : Hid (∀ y ∈ nw (bitB k) n, 0 ≤ y ∧ y < (n : Int)) := fun y hy => by obtain ⟨i, hi', _, rfl⟩ := mem_nw.1 hy; omega
        have HCE : Hid (cornersS n l (nw (bitB k) n) = cors l n k) := by
          have := cornersS_eq HGD.out (nw_asc (bitB k) n) HIN.out
          rw [HCD.out] at this
          exact this
        have HINI : Hid (ini n k = if (nw (bitB k) n).length = 1 then 1 else 0) := rfl
        have hk256 : k < 256 := by omega
        have HCO := Lib.hid (fun (W : World) (u : Value) (hb : Below w.heap.size w W) (hu : Ints W u (nw (bitB k) n)) => l3Corners_any n (.slice A l.length c) u l (nw (bitB k) n) W (H.out.below hb) hl hu (by omega) hn HIN.out)
        rw [HCE.out] at HCO
        have hwN' := hwN
        go_wp2_with fail
        refine HBT.out.mono ?_
        rintro e w3 ⟨A3, c3, rfl, o3, b3⟩
        have e3 := btrans hB b3
        have g3 := hgb.below b3 hgb.lt
        have r3 := own_below hrow b3
        clear p0 p1 hgb hrow b3 hB
        obtain ⟨p0, p1, -, -⟩ := g3.two
        have RS := Reads.of_own o3
        have HCO3 := Lib.hid (HCO.out w3 _ e3 RS)
        clear HCO RS o3
        have hrest : ∀ (a : Int), a = ini n k → True := fun _ _ => trivial
        by_cases hone : (nw (bitB k) n).length = 1
        all_goals
          (first
            | (have HI1 : Hid (ini n k = 1) := by show _ = _; rw [HINI.out, if_pos hone]
               have d1 : (((nw (bitB k) n).length : Int) == 1) = true := by simp [hone])
            | (have HI1 : Hid (ini n k = 0) := by show _ = _; rw [HINI.out, if_neg hone]
               have d1 : (((nw (bitB k) n).length : Int) == 1) = false := by simp; omega))
          clear hone hnl hrest
          generalize (nw (bitB k) n).length = nl at *
          go_wp2_with fail
          refine HCO3.out.mono ?_
          rintro e w4 ⟨A4, c4, rfl, o4, b4⟩
          have e4 := btrans e3 b4
          have g4 := g3.below b4 g3.lt
          have r4 := own_below r3 b4
          obtain ⟨_, _, hf4, hc4⟩ := Ints.form (Reads.of_own o4)
          cases hf4
          have HC4 := Lib.hid hc4
          have HR4 := Lib.hid r4
          have HG4 := Lib.hid g4
          have hcll := cors_len l n k
          have HPZ := Lib.hid (pf_zero l n (cl l n k) k)
          obtain ⟨A5, c5, hf5⟩ := own_form r4
          obtain ⟨_, _, hfr, hc5⟩ := Ints.form (Reads.of_own r4)
          rw [hf5] at hfr
          have HC5 : Hid (∀ (j : Nat) (x : Int), (cl l n k)[j]? = some x → ∃ g o, A5 = some ⟨g, o, none⟩ ∧ w4.cell? ⟨g, o + j, none⟩ = some (.int .i64 x)) := by
            cases hfr; exact hc5
          clear p0 p1 d1 r3 g3 e3 b4 o4 hc4 r4 g4 hc5 hfr
          subst hf5
          go_wp2_with fail
          go_loopg [7, 9] (cors l n k).length (fun g a i wr => ∃ j : Nat, j + g = (cors l n k).length ∧ i = .int .i64 (j : Int) ∧ a = .int .i64 (pf l n (cl l n k) k j) ∧ w4 = wr)
          case atStart => exact ⟨0, by omega, rfl, by rw [HPZ.out, HI1.out], rfl⟩
          case round =>
            obtain ⟨j, hjg, rfl, rfl, rfl⟩ := hrel
            have hpf := pf_small (l := l) (n := n) (c := k) (j := j) hn hk256
            cases gk with
            | succ g3 =>
              have hj : j < (cors l n k).length := by omega
              have hj' : (j : Int) < ((cors l n k).length : Int) := by omega
              obtain ⟨x, hx⟩ : ∃ x, (cors l n k)[j]? = some x := ⟨_, List.getElem?_eq_getElem hj⟩
              obtain ⟨z, rfl, hz, hbz⟩ := cors_mem (List.mem_of_getElem? hx)
              obtain ⟨ga, oa, rfl, q0⟩ := HC4.out j _ hx
              have HPS := Lib.hid (pf_succ (L := cl l n k) hx)
              have hcz := clr_sub (c := k) (z := z) hk256 (by omega) hbz
              have hclt := clr_lt' (c := k) (z := z) hk256 hbz
              have hsm := cl_small (l := l) hn (show k ≤ 256 by omega) hclt
              obtain ⟨gb, ob, rfl, q1⟩ := HC5.out (clr k z) _ (cl_at hclt)
              have hw1 : IntKind.i64.wrap ((2 : Int) ^ z) = ((2 ^ z : Nat) : Int) := wrap_powI (by omega)
              have hps : pf l n (cl l n k) k (j + 1) = pf l n (cl l n k) k j + (cl l n k).getD (clr k z) 0 := by have := HPS.out; rwa [Int.toNat_natCast] at this
              have HPS2 := Lib.hid hps
              have hqk : ((clr k z : Nat) : Int) < ((cl l n k).length : Int) := by rw [cl_len]; omega
              have hsub : (k : Int) - ((2 ^ z : Nat) : Int) = ((clr k z : Nat) : Int) := by rw [hcz.1]; omega
              have hsubw : IntKind.i64.wrap ((k : Int) - ((2 ^ z : Nat) : Int)) = ((clr k z : Nat) : Int) := by rw [hsub]; exact IntWalk.i64_in _ (by omega)
              have hp2 : 2 ^ z ≤ 256 := by omega
              clear hx hbz hps HPS hcz hclt
              generalize 2 ^ z = pz at *
              generalize clr k z = q at *
              generalize (cl l n k).getD q 0 = vv at *
              generalize hpj : pf l n (cl l n k) k j = aa at *
              have HPJ := Lib.hid hpj
              clear hpj
              go_wp2_with fail
              clear hw1 hsub hsubw q0 q1
              go_roundg g3
              case measure => omega
              case rel => exact ⟨j + 1, by omega, by go_num, by rw [HPS2.out], rfl⟩
            | zero =>
              obtain rfl : j = (cors l n k).length := by omega
              have HN : Hid (cl l n (k + 1) = cl l n k ++ [pf l n (cl l n k) k (cors l n k).length]) := rfl
              have hrow4 := HR4.out
              have hsz4 := HG4.out.lt
              generalize pf l n (cl l n k) k (cors l n k).length = aa at *
              generalize cl l n k = L at *
              go_wp2_with (at_builtin; refine wpList_append_own _ rfl _ _ 26 rfl (w.heap.size + 1) 3 i0 (.int .i64 0) 1 8 Try.underlying26 hi hz0 hz1 hz2 rfl (by decide) _ _ _ rfl (hrow4.alloc _) ⟨w4.heap.size, 0, none⟩ 1 1 [.int .i64 (aa)] rfl rfl (cell_one_new _ _ _) (fun x hx => by simp at hx; subst hx; rfl) (by unfold maxLen; omega) (by omega) (by simp; omega) ?_; intro v2 w2 hown2 hgrow2 _)
              obtain ⟨hown3, hB2⟩ := push1 hrow4 hown2 hgrow2 (by omega)
              have HG6 := Lib.hid (HG4.out.below hB2 (by omega))
              have HB6 := Lib.hid (e4.trans (hB2.mono (by omega)))
              clear hgrow2 hrow4 hown2 hwN'
              go_roundg g2
              case measure => omega
              case rel => exact ⟨k + 1, by omega, by omega, by go_num, by rw [HN.out]; exact hown3, HG6.out, HB6.out⟩
  · rw [okG_no hsm] at HF
    have HN : Hid (cntV s l = 0) := szG_no hsm _
    have HOK := Lib.hid (okG_no hsm)
    clear hsm
    go_enter Try.func53, Try.ntmps53
    go_wp2_with fail
    refine HF.out.mono ?_
    rintro e w1 ⟨rfl, b1⟩
    go_wp2_with fail
    go_ret2
    exact ⟨retIB HN.out.symm HOK.out.symm, btrans b0 b1⟩
end Go.Proofs.Ytbdappkhkngdlab.count
