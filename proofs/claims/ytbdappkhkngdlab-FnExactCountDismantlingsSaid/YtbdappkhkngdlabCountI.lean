/- The contract of the program's CountDismantlings. -/
import Derived.Test.YtbdappkhkngdlabCountS
import Derived.StillTailTactics
namespace Go.Proofs.Ytbdappkhkngdlab.count
open Go.RowKit P2 words edges ints good near adjs fns sets rets covs balls cors dism
set_option linter.unusedVariables false

/-- the starts: 1 for the sets of one of the nodes less than x -/
def one1 (x c : Nat) : Int := if (List.range x).any (fun y => c == 2 ^ y) = true then 1 else 0
def oneL (N x : Nat) : List Int := (List.range N).map (one1 x)
theorem oneL_len (N x : Nat) : (oneL N x).length = N := by simp [oneL]
theorem oneL_at {N x c : Nat} (h : c < N) : (oneL N x)[c]? = some (one1 x c) := by simp [oneL, h]
theorem oneL_zero (N : Nat) : oneL N 0 = List.replicate N 0 := by
  apply List.ext_getElem?
  intro j
  by_cases h : j < N
  · rw [oneL_at h]; simp [one1, h]
  · rw [List.getElem?_eq_none (by rw [oneL_len]; omega), List.getElem?_eq_none (by simp; omega)]
theorem one1_succ (x c : Nat) : one1 (x + 1) c = if c = 2 ^ x then 1 else one1 x c := by
  unfold one1
  rw [List.range_succ, List.any_append]
  by_cases h : c = 2 ^ x
  · simp [h]
  · simp [h]
theorem oneL_succ {N x : Nat} (h : 2 ^ x < N) : (oneL N x).set (2 ^ x) 1 = oneL N (x + 1) := by
  apply List.ext_getElem?
  intro j
  by_cases hj : j < N
  · rw [oneL_at hj, one1_succ, List.getElem?_set]
    by_cases e : 2 ^ x = j
    · rw [if_pos e, if_pos (by rw [oneL_len]; exact h), if_pos e.symm]
    · rw [if_neg e, if_neg (fun hh => e hh.symm), oneL_at hj]
  · rw [List.getElem?_eq_none (by rw [List.length_set, oneL_len]; omega), List.getElem?_eq_none (by rw [oneL_len]; omega)]
theorem one_fin : ∀ n : Fin 9, ∀ c : Fin 256, c.val < 2 ^ n.val → one1 n.val c.val = ini n.val c.val := by decide +kernel
theorem oneL_all {n N : Nat} (hn : n ≤ 8) (hN : 2 ^ n = N) : oneL N n = (List.range N).map (ini n) := by
  have hN8 : N ≤ 256 := by have := Nat.pow_le_pow_right (show 0 < 2 by decide) hn; rw [hN] at this; simpa using this
  unfold oneL
  refine List.map_congr_left fun c hc => ?_
  have hc' := List.mem_range.1 hc
  exact one_fin ⟨n, by omega⟩ ⟨c, by omega⟩ (by rw [hN]; exact hc')
/-- the counts in the making -/
def arr (l : List Ed) (n N k : Nat) (a : Int) : List Int := cl l n k ++ a :: ((List.range N).map (ini n)).drop (k + 1)
theorem arr_len {l : List Ed} {n N k : Nat} {a : Int} (h : k < N) : (arr l n N k a).length = N := by
  unfold arr; rw [List.length_append, List.length_cons, List.length_drop, List.length_map, List.length_range, cl_len]; omega
theorem arr_here (l : List Ed) (n N k : Nat) (a : Int) : (arr l n N k a)[k]? = some a := by
  unfold arr; rw [List.getElem?_append_right (by rw [cl_len]; exact Nat.le_refl _), cl_len, Nat.sub_self]; rfl
theorem arr_less {l : List Ed} {n N k c : Nat} {a : Int} (h : c < k) : (arr l n N k a)[c]? = some ((cl l n k).getD c 0) := by
  unfold arr; rw [List.getElem?_append_left (by rw [cl_len]; exact h), cl_at h]
theorem arr_set (l : List Ed) (n N k : Nat) (a b : Int) : (arr l n N k a).set k b = arr l n N k b := by
  unfold arr; rw [List.set_append_right _ _ (by rw [cl_len]; exact Nat.le_refl _), cl_len, Nat.sub_self, List.set_cons_zero]
def arrS (l : List Ed) (n N k : Nat) : List Int := cl l n k ++ ((List.range N).map (ini n)).drop k
theorem arrS_start {l : List Ed} {n N k : Nat} (h : k < N) : arrS l n N k = arr l n N k (pf l n (cl l n k) k 0) := by
  unfold arrS arr
  rw [pf_zero, List.drop_eq_getElem_cons (by simpa using h)]
  simp
theorem arrS_next {l : List Ed} {n N k : Nat} : arr l n N k (pf l n (cl l n k) k (cors l n k).length) = arrS l n N (k + 1) := by
  unfold arrS arr
  rw [cl, List.append_assoc]; rfl
theorem arrS_zero (l : List Ed) (n N : Nat) : (List.range N).map (ini n) = arrS l n N 0 := rfl
theorem arrS_all (l : List Ed) (n N : Nat) : arrS l n N N = cl l n N := by
  unfold arrS; rw [List.drop_eq_nil_of_le (by simp)]; simp
theorem cellsI_set (l : List Int) (k : Nat) (x : Int) : (cellsI l).set k (.int .i64 x) = cellsI (l.set k x) := by simp [cellsI, List.map_set]
theorem andNotI (a m : Nat) (ha : a < 256) (hm : m ≤ 8) : bits .andNot .i64 (a : Int) (IntKind.i64.wrap ((2 : Int) ^ m)) = ((clr a m : Nat) : Int) := by
  have hp : 2 ^ m ≤ 256 := by have := Nat.pow_le_pow_right (show 0 < 2 by decide) hm; simpa using this
  have h1 : (BitVec.ofInt 64 (a : Int)).toNat = a := by
    rw [BitVec.ofInt_natCast, BitVec.toNat_ofNat]; exact Nat.mod_eq_of_lt (by omega)
  have h2 : (BitVec.ofInt 64 ((2 ^ m : Nat) : Int)).toNat = 2 ^ m := by
    rw [BitVec.ofInt_natCast, BitVec.toNat_ofNat]; exact Nat.mod_eq_of_lt (by omega)
  rw [wrap_powI hm]
  have hle : a &&& (2 ^ 64 - (2 ^ m + 1)) ≤ a := Nat.and_le_left
  have e : a &&& (2 ^ 64 - (2 ^ m + 1)) = clr a m := by
    have := andNot_walk a m ha hm
    rw [bitsI.wrap_pow hm] at this
    have key : bits .andNot .u64 (a : Int) ((2 ^ m : Nat) : Int) = ((a &&& (2 ^ 64 - (2 ^ m + 1)) : Nat) : Int) := by
      show IntKind.u64.wrap ((BitVec.ofInt 64 (a : Int) &&& ~~~ BitVec.ofInt 64 ((2 ^ m : Nat) : Int)).toNat : Int) = _
      rw [BitVec.toNat_and, BitVec.toNat_not, h1, h2, IntKind.wrap_u64]
      rw [show (2 ^ 64 - 1 - 2 ^ m : Nat) = 2 ^ 64 - (2 ^ m + 1) from by omega]
      generalize (a &&& (2 ^ 64 - (2 ^ m + 1)) : Nat) = z at *
      omega
    rw [key] at this
    exact Int.ofNat_inj.1 this
  show IntKind.i64.wrap ((BitVec.ofInt 64 (a : Int) &&& ~~~ BitVec.ofInt 64 ((2 ^ m : Nat) : Int)).toNat : Int) = _
  rw [BitVec.toNat_and, BitVec.toNat_not, h1, h2, show (2 ^ 64 - 1 - 2 ^ m : Nat) = 2 ^ 64 - (2 ^ m + 1) from by omega, e]
  rw [e] at hle
  exact IntWalk.i64_in _ (by omega)

set_option maxHeartbeats 4000000 in
set_option maxRecDepth 100000 in
theorem implCount_any (s : Int) (v : Value) (l : List Ed) (w : World) (h : Edges w v l) (hl : l.length ≤ 1048576) :
    Calls Try.prog 54 #[.agg #[.int .i64 s, v]] w fun e w' => e = .returned (.tuple #[.int .i64 (cntV s l), .bool (okG (SomeP s l))]) ∧ Below w.heap.size w w' := by
  obtain ⟨i0, hi, hz0, hz1, hz2⟩ := info_parts infoInt
  obtain ⟨A, c, rfl, -⟩ := h.form
  have H := Lib.hid h
  have b0 : Below w.heap.size w (w.alloc (.cells #[.int .i64 s, .slice A l.length c] 29)) := (Below.refl _ _).alloc (Nat.le_refl _) _
  have g0 := Blk.new w 29 #[.int .i64 s, .slice A l.length c]
  have HF := Lib.hid (isFilled_any s _ l _ (h.below b0) hl)
  clear h
  by_cases hsm : SomeP s l
  · rw [okG_yes hsm] at HF
    obtain ⟨n, rfl⟩ : ∃ n : Nat, s = (n : Int) := ⟨s.toNat, by have := hsm.2; omega⟩
    have hn : n ≤ 8 := by have := hsm.1.2.1; omega
    have HOK := Lib.hid (okG_yes hsm)
    have HGD := Lib.hid hsm.1
    obtain ⟨N, hN⟩ : ∃ N : Nat, 2 ^ n = N := ⟨_, rfl⟩
    have hN8 : N ≤ 256 := by have := Nat.pow_le_pow_right (show 0 < 2 by decide) hn; rw [hN] at this; simpa using this
    have hN1 : 1 ≤ N := by have := Nat.one_le_two_pow (n := n); omega
    have HV : Hid (cntV (n : Int) l = (cl l n N).getD (N - 1) 0) := by show _ = _; unfold cntV; rw [szG_yes hsm, Int.toNat_natCast, hN]
    have hwN : IntKind.i64.wrap ((2 : Int) ^ n) = (N : Int) := by rw [wrap_powI hn, hN]
    have HNP := Lib.hid hN
    have HONE := Lib.hid (oneL_all hn hN)
    have hmk := fun (W : World) => run_make_rowN (P := Try.prog) 26 3 i0 (.int .i64 0) Try.underlying26 hi hz0 .i64 .i64 N N (Nat.le_refl _) (by rw [hz2]; omega) (by omega) W
    clear hsm hN
    go_enter Try.func54, Try.ntmps54
    go_wp2_with fail
    refine HF.out.mono ?_
    rintro e w1 ⟨rfl, b1⟩
    have e1 := btrans b0 b1
    have g1 := g0.below b1 g0.lt
    clear HF b0 b1 g0
    obtain ⟨p0, p1, -, -⟩ := g1.two
    go_wp2_with fail
    refine (bitsI.closedBits_any n _ l w1 (H.out.below e1) hl HGD.out hn).mono ?_
    rintro e w2 ⟨A2, c2, rfl, r2, b2⟩
    have e2 := btrans e1 b2
    have g2 := g1.below b2 g1.lt
    clear p0 p1 b2 g1
    obtain ⟨p0, p1, -, -⟩ := g2.two
    have hown := World.ownsRow_lit (base := w2.heap.size) (e := 3) (size := 1) w2 (madeCells #[Value.int .i64 0] (N * 1)) N (Nat.le_refl _) (by unfold maxLen; omega) (size_madeCells _ _)
    rw [toList_madeCells_one, Nat.mul_one, show List.replicate N (Value.int .i64 0) = cellsI (oneL N 0) from by rw [oneL_zero]; simp [cellsI]] at hown
    have HO := Lib.hid hown
    have HB3 : Hid (Below w2.heap.size w2 (w2.alloc (.cells (madeCells #[.int .i64 0] N) 3))) := (Below.refl _ _).alloc (Nat.le_refl _) _
    obtain ⟨p2, p3, -, -⟩ := (g2.alloc (.cells (madeCells #[.int .i64 0] N) 3)).two
    have HCI := Lib.hid (fun (W : World) (B : Nat) (hb : Below w2.heap.size w2 W) (hB : B < 256) => cornersIn_any n B _ l W (r2.below hb) HGD.out hn hB)
    clear hown r2 g2
    go_wp2_with fail
    clear p0 p1 p2 p3
    go_loopg [21] n (fun g i wr => ∃ k : Nat, k + g = n ∧ i = .int .i64 (k : Int) ∧ wr.ownsRow w2.heap.size 3 1 (.slice (some ⟨w2.heap.size, 0, none⟩) N N) N (cellsI (oneL N k)) ∧ Below w2.heap.size w2 wr)
    case atStart => exact ⟨0, by omega, rfl, HO.out, HB3.out⟩
    case round =>
      clear HO HB3
      obtain ⟨k, hkg, rfl, hrow, hB⟩ := hrel
      cases gk with
      | succ g3 =>
        have hlt : k < n := by omega
        have hlt' : (k : Int) < (n : Int) := by omega
        have hpl : 2 ^ k < N := by rw [← HNP.out]; exact Nat.pow_lt_pow_right (by decide) hlt
        have HS := Lib.hid (oneL_succ hpl)
        have hw := wrap_powI (m := k) (by omega)
        have ca := hrow.cellAt (2 ^ k) (by omega)
        rw [cellsI_at (oneL_at hpl)] at ca
        have za := hrow.frozenAt (2 ^ k)
        have hst := (hrow.stored (2 ^ k) (.int .i64 1)).1
        rw [cellsI_set, HS.out] at hst
        generalize 2 ^ k = z at *
        have hzN : (z : Int) < (N : Int) := by omega
        have HST := Lib.hid hst
        have HBS := Lib.hid (hB.setCell (p := ⟨w2.heap.size, z, none⟩) (Nat.le_refl _) (.int .i64 1))
        clear hst hrow hB
        go_wp2_with fail
        go_roundg g3
        case measure => omega
        case rel => exact ⟨k + 1, by omega, by go_num, HST.out, HBS.out⟩
      | zero =>
        obtain rfl : k = n := by omega
        rw [HONE.out, arrS_zero l k N] at hrow
        have HR := Lib.hid hrow
        have HBB := Lib.hid hB
        clear hrow hB
        go_wp2_with fail
        go_loopg [31] N (fun g i wr => ∃ j : Nat, j + g = N ∧ i = .int .i64 (j : Int) ∧ wr.ownsRow w2.heap.size 3 1 (.slice (some ⟨w2.heap.size, 0, none⟩) N N) N (cellsI (arrS l k N j)) ∧ Below w2.heap.size w2 wr)
        case atStart => exact ⟨0, by omega, rfl, HR.out, HBB.out⟩
        case round =>
          clear HR HBB
          obtain ⟨j, hjg, rfl, hrow, hB⟩ := hrel
          cases gk with
          | zero =>
            obtain rfl : j = N := by omega
            rw [arrS_all] at hrow
            have hval := hrow.cellAt (j - 1) (by omega)
            rw [cellsI_at (cl_at (l := l) (n := k) (show j - 1 < j by omega))] at hval
            obtain ⟨i, hij⟩ : ∃ i : Nat, i = j - 1 := ⟨_, rfl⟩
            rw [← hij] at hval HV
            have HVV := Lib.hid HV.out
            obtain rfl : j = i + 1 := by omega
            clear hij hrow
            generalize (cl l k (i + 1)).getD i 0 = zz at *
            go_wp2_with fail
            go_ret2
            exact ⟨retIB HVV.out.symm HOK.out.symm, btrans e2 hB⟩
          | succ g3 =>
            have hlt : j < N := by omega
            have hlt' : (j : Int) < (N : Int) := by omega
            have hj256 : j < 256 := by omega
            have hconv : IntKind.u64.wrap (j : Int) = (j : Int) := by rw [IntKind.wrap_u64]; omega
            rw [arrS_start hlt] at hrow
            have HRW := Lib.hid hrow
            have HCIj := Lib.hid (HCI.out wr j hB hj256)
            have HND := Lib.hid (fun (W : World) => bitsI.nodes_any (cornersN l k j) W (by have : cornersN l k j < 256 := numOf_lt _ hn; omega))
            rw [show nw (bitB (cornersN l k j)) 8 = cors l k j from nodes_num hn] at HND
            have HBB := Lib.hid hB
            clear hrow hB
            go_wp2_with fail
            refine HCIj.out.mono ?_
            rintro e w4 ⟨rfl, b4⟩
            go_wp2_with fail
            refine (HND.out w4).mono ?_
            rintro e w5 ⟨A5, c5, rfl, o5, b5⟩
            have e5 := btrans HBB.out (btrans b4 b5)
            have r5 := own_below HRW.out (btrans b4 b5)
            obtain ⟨_, _, hf5, hc5⟩ := Ints.form (Reads.of_own o5)
            cases hf5
            have HC5 := Lib.hid hc5
            have hcll := cors_len l k j
            have HR5 := Lib.hid r5
            have hs5 := (r5.lt w2.heap.size rfl).2
            have hs4 := (own_below HRW.out b4).lt w2.heap.size rfl
            have HA5 : Hid (∀ g o, A5 = some ⟨g, o, none⟩ → g ≠ w2.heap.size) := fun g o e => by
              subst e
              rcases o5.2 with ⟨hf, _⟩ | ⟨g', cap, cur, hf, hb', _⟩
              · simp at hf
              · simp at hf; omega
            clear b4 b5 o5 hc5 r5
            go_wp2_with fail
            clear hconv
            go_loopg [40] (cors l k j).length (fun g i w6 => ∃ q : Nat, q + g = (cors l k j).length ∧ i = .int .i64 (q : Int) ∧ w6.ownsRow w2.heap.size 3 1 (.slice (some ⟨w2.heap.size, 0, none⟩) N N) N (cellsI (arr l k N j (pf l k (cl l k j) j q))) ∧ Below w2.heap.size w2 w6 ∧ Hid (∀ (i : Nat) (x : Int), (cors l k j)[i]? = some x → ∃ g o, A5 = some ⟨g, o, none⟩ ∧ w6.cell? ⟨g, o + i, none⟩ = some (.int .i64 x)))
            case atStart => exact ⟨0, by omega, rfl, HR5.out, e5, HC5⟩
            case round =>
              clear HR5
              obtain ⟨q, hqg, rfl, hrowr, hB6, HC6⟩ := hrel
              cases gk with
              | zero =>
                obtain rfl : q = (cors l k j).length := by omega
                rw [arrS_next] at hrowr
                have HR6 := Lib.hid hrowr
                have HB6 := Lib.hid hB6
                clear hrowr hB6
                go_wp2_with fail
                go_roundg g3
                case measure => omega
                case rel => exact ⟨j + 1, by omega, by go_num, HR6.out, HB6.out⟩
              | succ g4 =>
                have hq : q < (cors l k j).length := by omega
                have hq' : (q : Int) < ((cors l k j).length : Int) := by omega
                obtain ⟨x, hx⟩ : ∃ x, (cors l k j)[q]? = some x := ⟨_, List.getElem?_eq_getElem hq⟩
                obtain ⟨z, rfl, hz, hbz⟩ := cors_mem (List.mem_of_getElem? hx)
                obtain ⟨ga, oa, hA5, q0⟩ := HC6.out q _ hx
                have HPS := Lib.hid (pf_succ (L := cl l k j) hx)
                have hps : pf l k (cl l k j) j (q + 1) = pf l k (cl l k j) j q + (cl l k j).getD (clr j z) 0 := by have := HPS.out; rwa [Int.toNat_natCast] at this
                have HPS2 := Lib.hid hps
                have hpf := pf_small (l := l) (n := k) (c := j) (j := q) hn hj256
                have hclt := clr_lt' (c := j) (z := z) hj256 hbz
                have hsmv := cl_small (l := l) (n := k) hn (show j ≤ 256 by omega) hclt
                have hnot := andNotI j z hj256 (by omega)
                have ca := hrowr.cellAt j (by omega)
                rw [cellsI_at (arr_here l k N j _)] at ca
                have cb := hrowr.cellAt (clr j z) (by omega)
                rw [cellsI_at (arr_less hclt)] at cb
                have hqN : ((clr j z : Nat) : Int) < (N : Int) := by omega
                have HRW6 := Lib.hid hrowr
                have HBW6 := Lib.hid hB6
                clear hx hbz hps HPS hclt hrowr hB6
                generalize hqq : clr j z = cq at *
                have HQQ := Lib.hid hqq
                clear hqq
                generalize (cl l k j).getD cq 0 = vv at *
                generalize hpj : pf l k (cl l k j) j q = aa at *
                have HPJ := Lib.hid hpj
                clear hpj
                have hsum : IntKind.i64.wrap (aa + vv) = aa + vv := IntWalk.i64_in _ (by omega)
                have HC7 : Hid (∀ (v : Value) (i : Nat) (x : Int), (cors l k j)[i]? = some x → ∃ g o, A5 = some ⟨g, o, none⟩ ∧ (wr.drew.setCell ⟨w2.heap.size, j, none⟩ v).cell? ⟨g, o + i, none⟩ = some (.int .i64 x)) := fun v i x hi => by
                  obtain ⟨g, o, he, hc⟩ := HC6.out i x hi
                  refine ⟨g, o, he, ?_⟩
                  rw [World.cell?_setCell_far _ _ _ _ (fun e => HA5.out g o he e.symm)]
                  exact hc
                have hrd := own_below HRW6.out (Below.refl _ _).drew
                have hst := (hrd.stored j (.int .i64 (aa + vv))).1
                rw [cellsI_set, arr_set] at hst
                have HST := Lib.hid hst
                have HBS : Hid (Below w2.heap.size w2 (wr.drew.setCell ⟨w2.heap.size, j, none⟩ (.int .i64 (aa + vv)))) := HBW6.out.drew.setCell (Nat.le_refl _) _
                have za := hrd.frozenAt j
                have cz := hrd.cellAt j (by omega)
                rw [cellsI_at (arr_here l k N j _)] at cz
                clear hst hrd
                subst hA5
                go_wp2_with fail
                go_still_tail 13, (by kernel_rfl)
                change wpList _ _ _ _ _ wr.drew
                go_wp2_with fail
                go_roundg g4
                case measure => omega
                case rel => exact ⟨q + 1, by omega, by go_num, by rw [HPS2.out]; exact HST.out, HBS.out, HC7.out _⟩
  · rw [okG_no hsm] at HF
    have HN : Hid (cntV s l = 0) := szG_no hsm _
    have HOK := Lib.hid (okG_no hsm)
    clear hsm
    go_enter Try.func54, Try.ntmps54
    go_wp2_with fail
    refine HF.out.mono ?_
    rintro e w1 ⟨rfl, b1⟩
    go_wp2_with fail
    go_ret2
    exact ⟨retIB HN.out.symm HOK.out.symm, btrans b0 b1⟩
end Go.Proofs.Ytbdappkhkngdlab.count
