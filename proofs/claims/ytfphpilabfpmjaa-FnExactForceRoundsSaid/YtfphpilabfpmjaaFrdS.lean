/- Forcing: the contracts of the model's l9Rounds and ForceRounds. -/
import Derived.Handy
import Derived.Test.YtfphpilabfpmjaaFrdI
import Derived.Test.YtfphpilabfpmjaaForcS
import Derived.Deep.DeepCutAuto
import Derived.Deep.RegionHeld3
import Derived.Deep.QuietTactic
namespace Go.Proofs.Ytfphpilabfpmjaa.forc
open Go.RowKit P2 words edges ints good adjs fns sets rets covs bags balls bitsI ups func costs
set_option linter.unusedVariables false

theorem mem_codeR {n c : Nat} {x : Nat} (hx : x < n) : decide ((x : Int) ∈ nw (bitB c) n) = c.testBit x := by
  rw [Bool.eq_iff_iff, decide_eq_true_iff, mem_nw]
  constructor
  · rintro ⟨j, hj, hp, e⟩
    have : x = j := by omega
    subst this; exact hp
  · intro h; exact ⟨x, hx, h, rfl⟩
/-- within a round: the first i of the nodes that are coloured behind it have their numbers -/
def fixT (n : Nat) (l : List Ed) (c r : Nat) (M : List Int) (i : Nat) : List Int := (List.range n).map fun x : Nat => if (x : Int) ∈ M.take i then fstR n l c x (r + 1) else fstR n l c x r
theorem fixT_len (n : Nat) (l : List Ed) (c r : Nat) (M : List Int) (i : Nat) : (fixT n l c r M i).length = n := by simp [fixT]
theorem fixT_zero (n : Nat) (l : List Ed) (c r : Nat) (M : List Int) : fixT n l c r M 0 = fstL n l c r := by simp [fixT, fstL]
theorem fixT_at {n : Nat} {l : List Ed} {c r : Nat} {M : List Int} {i y : Nat} (hy : y < n) (hm : (y : Int) ∉ M.take i) : (fixT n l c r M i)[y]? = some (fstR n l c y r) := by
  unfold fixT
  rw [List.getElem?_map, List.getElem?_range hy]
  simp [hm]
theorem asc_fresh {M : List Int} (h : Asc M) {i : Nat} {y : Int} (hy : M[i]? = some y) : y ∉ M.take i := fun hm => by
  obtain ⟨j, hj⟩ := List.getElem?_of_mem hm
  rw [List.getElem?_take] at hj
  split at hj
  · rename_i hji
    obtain ⟨h1, h2⟩ := List.getElem?_eq_some_iff.1 hj
    obtain ⟨h3, h4⟩ := List.getElem?_eq_some_iff.1 hy
    have := List.pairwise_iff_getElem.1 h j i h1 h3 hji
    omega
  · cases hj
theorem fixT_set {n : Nat} {l : List Ed} {c r : Nat} {M : List Int} {i y : Nat} (hy : y < n) (hM : M[i]? = some (y : Int)) : (fixT n l c r M i).set y (fstR n l c y (r + 1)) = fixT n l c r M (i + 1) := by
  apply List.ext_getElem?
  intro j
  rw [List.getElem?_set]
  by_cases hj : j < n
  · by_cases e : y = j
    · subst e
      unfold fixT
      rw [if_pos rfl, List.getElem?_map, List.getElem?_range hy, List.take_add_one, hM]
      simp [hy]
    · rw [if_neg e]
      unfold fixT
      rw [List.getElem?_map, List.getElem?_map, List.getElem?_range hj, List.take_add_one, hM]
      have h9 : ¬ (j : Int) = (y : Int) := by omega
      simp [h9]
  · rw [if_neg (by omega)]
    unfold fixT
    rw [List.getElem?_map, List.getElem?_map, List.getElem?_eq_none (by simp; omega)]
    rfl
theorem fixT_keep {n : Nat} {l : List Ed} {c r : Nat} {M : List Int} {i y : Nat} (hM : M[i]? = some (y : Int)) (hk : fstR n l c y (r + 1) = fstR n l c y r) : fixT n l c r M i = fixT n l c r M (i + 1) := by
  unfold fixT
  refine List.map_congr_left fun x _ => ?_
  rw [List.take_add_one, hM]
  simp only [Option.toList, List.mem_append, List.mem_singleton]
  by_cases e : (x : Int) = (y : Int)
  · have : x = y := by omega
    subst this
    rw [hk]; simp
  · simp [e]
theorem fixT_all {n : Nat} {l : List Ed} {c r : Nat} : fixT n l c r (nw (bitB (orb n l false c (r + 1))) n) (nw (bitB (orb n l false c (r + 1))) n).length = fstL n l c (r + 1) := by
  unfold fixT fstL
  refine List.map_congr_left fun x hx => ?_
  have hxn := List.mem_range.1 hx
  rw [List.take_length]
  by_cases hm : (x : Int) ∈ nw (bitB (orb n l false c (r + 1))) n
  · rw [if_pos hm]
  · rw [if_neg hm]
    have h := mem_codeR (c := orb n l false c (r + 1)) hxn
    rw [decide_eq_false hm] at h
    exact (fst_same h.symm).symm
set_option maxHeartbeats 8000000 in
set_option maxRecDepth 100000 in
theorem l9Rounds_any (n c : Nat) (v u : Value) (l : List Ed) (w : World) (h : Edges w v l) (hl : l.length ≤ 1048576) (hu : Ints w u (nw (bitB c) n)) (hn : n ≤ 8) (hc : c < 2 ^ n) :
    Calls Try.prog 64 #[.agg #[.int .i64 (n : Int), v], u] w (RowI w (fstL n l c n)) := by
  obtain ⟨i0, hi, hz0, hz1, hz2⟩ := info_parts infoInt
  obtain ⟨A, cc, rfl, -⟩ := h.form
  have H := Lib.hid h
  have HU := Lib.hid hu
  have hmk := fun (W : World) => run_make_rowN (P := Try.prog) 25 3 i0 (.int .i64 0) Try.underlying25 hi hz0 .i64 .i64 n n (Nat.le_refl _) (by rw [hz2]; omega) (by omega) W
  rw [hz1] at hmk
  simp only [Nat.mul_one] at hmk
  have b0 : Below w.heap.size w (w.alloc (.cells #[.int .i64 (n : Int), .slice A l.length cc] 29)) := (Below.refl _ _).alloc (Nat.le_refl _) _
  have g0 := Blk.new w 29 #[.int .i64 (n : Int), .slice A l.length cc]
  obtain ⟨p0, p1, -, -⟩ := g0.two
  have hown := World.ownsRow_lit (base := w.heap.size + 1) (e := 3) (size := 1) (w.alloc (.cells #[.int .i64 (n : Int), .slice A l.length cc] 29)) (madeCells #[Value.int .i64 0] (n * 1)) n (by simp) (by unfold maxLen; omega) (size_madeCells _ _)
  rw [World.size_alloc] at hown
  rw [toList_madeCells_one, Nat.mul_one, show List.replicate n (Value.int .i64 0) = cellsI (upT (fun x => fstR n l c x 0) n 0) from by rw [upT_zero]; simp [cellsI]] at hown
  have HOWN := Lib.hid hown
  have HG0 := Lib.hid (g0.alloc (.cells (madeCells #[.int .i64 0] n) 3))
  have HB0 := Lib.hid (b0.alloc (by simp) (.cells (madeCells #[.int .i64 0] n) 3))
  have hL := nw_len (bitB c) n
  clear h hu b0 g0 hown
  go_enter Try.func64, Try.ntmps64
  go_wp2_with fail
  clear hmk p0 p1
  go_loopg [7] n (fun g xv wr => ∃ k : Nat, k + g = n ∧ xv = .int .i64 (k : Int) ∧ wr.ownsRow (w.heap.size + 1) 3 1 (.slice (some ⟨w.heap.size + 1, 0, none⟩) n n) n (cellsI (upT (fun x => fstR n l c x 0) n k)) ∧ Blk wr w.heap.size 29 #[.int .i64 (n : Int), .slice A l.length cc] ∧ Below w.heap.size w wr)
  case atStart => exact ⟨0, by omega, rfl, HOWN.out, HG0.out, HB0.out⟩
  case round =>
    clear HOWN HG0 HB0
    obtain ⟨k, hkg, rfl, hrow, hgb, hB⟩ := hrel
    obtain ⟨p0, p1, -, -⟩ := hgb.two
    have HG := Lib.hid hgb
    have HB := Lib.hid hB
    cases gk with
    | succ g2 =>
      have hlt : k < n := by omega
      have hlt' : (k : Int) < (n : Int) := by omega
      have HH := Lib.hid (l1Has_any u (nw (bitB c) n) (k : Int) wr (HU.out.below hB) (by omega))
      rw [mem_codeR hlt] at HH
      have HSG := Lib.hid (times.l3Sign_any (c.testBit k) wr)
      rw [show (if c.testBit k = true then (0 : Int) else -1) = fstR n l c k 0 from rfl] at HSG
      have hll := upT_len (fun x => fstR n l c x 0) (n := n) (k := k) (by omega)
      obtain ⟨u0, hu0⟩ : ∃ u, (upT (fun x => fstR n l c x 0) n k)[k]? = some u := ⟨_, List.getElem?_eq_getElem (by omega)⟩
      have f0 := hrow.cellAt k (by omega)
      rw [cellsI_at hu0] at f0
      have z0 := hrow.frozenAt k
      have HST := Lib.hid (hrow.stored k (.int .i64 (fstR n l c k 0))).1
      have HSS : Hid ((upT (fun x => fstR n l c x 0) n k).set k (fstR n l c k 0) = upT (fun x => fstR n l c x 0) n (k + 1)) := upT_set (fun x => fstR n l c x 0) hlt
      clear hu0 hrow hgb hB hll
      generalize fstR n l c k 0 = fv at *
      generalize c.testBit k = bb at *
      go_wp2_with fail
      refine HH.out.mono ?_
      rintro e w' ⟨rfl, rfl⟩
      go_wp2_with fail
      refine HSG.out.mono ?_
      rintro e w' ⟨rfl, rfl⟩
      go_wp2_with fail
      go_roundg g2
      case measure => omega
      case rel =>
        have h_ := HST.out
        rw [cellsI_set9, HSS.out] at h_
        exact ⟨k + 1, by omega, by go_num, h_, HG.out.far (p := ⟨w.heap.size + 1, k, none⟩) (by simp) _, HB.out.setCell (by simp) _⟩
    | zero =>
      obtain rfl : k = n := by omega
      rw [upT_all] at hrow
      have HR0 : Hid (wr.ownsRow (w.heap.size + 1) 3 1 (.slice (some ⟨w.heap.size + 1, 0, none⟩) k k) k (cellsI (fstL k l c 0))) := hrow
      have HN0 : Hid (Ints wr u (nw (bitB (orb k l false c 0)) k)) := HU.out.below hB
      clear hrow hgb hB
      go_wp2_with fail
      obtain ⟨wo, hwo⟩ : ∃ wo, wo = wr := ⟨_, rfl⟩
      clear hwo
      clear p0 p1
      go_loopg [6, 8] k (fun g nv rv wr => ∃ (r : Nat) (ow : Value), ow = nv ∧ r + g = k ∧ rv = .int .i64 ((r : Int) + 1) ∧ Ints wr ow (nw (bitB (orb k l false c r)) k) ∧ wr.ownsRow (w.heap.size + 1) 3 1 (.slice (some ⟨w.heap.size + 1, 0, none⟩) k k) k (cellsI (fstL k l c r)) ∧ Blk wr w.heap.size 29 #[.int .i64 (k : Int), .slice A l.length cc] ∧ Below w.heap.size w wr)
      case atStart => exact ⟨0, _, rfl, by omega, rfl, HN0.out, HR0.out, HG.out, HB.out⟩
      case round =>
        clear HN0 HR0 HG HB
        obtain ⟨r, ow, rfl, hrg, rfl, hni, hrow, hgb, hB⟩ := hrel
        obtain ⟨p0, p1, -, -⟩ := hgb.two
        have HR := Lib.hid hrow
        have HG := Lib.hid hgb
        have HB := Lib.hid hB
        cases gk with
        | zero =>
          obtain rfl : r = k := by omega
          have hnle : ¬ ((r : Int) + 1 ≤ (r : Int)) := by omega
          have HLN := Lib.hid (fstL_len r l c r)
          clear hrow hgb hB hni
          go_wp2_with fail
          go_ret
          refine ⟨some ⟨w.heap.size + 1, 0, none⟩, r, by rw [HLN.out]; rfl, ?_, HB.out⟩
          rw [HLN.out]
          exact own_base HR.out (by omega)
        | succ g2 =>
          have hle : ((r : Int) + 1 ≤ (k : Int)) := by omega
          have HON := Lib.hid (l9Once_any k (orb k l false c r) false (.slice A l.length cc) ow l wr (H.out.below hB) hl hni hn)
          have HO1 : Hid (onN k l false (orb k l false c r) = orb k l false c (r + 1)) := rfl
          rw [HO1.out] at HON
          have HFA := Lib.hid (fixT_all (n := k) (l := l) (c := c) (r := r))
          have HAS := Lib.hid (nw_asc (bitB (orb k l false c (r + 1))) k)
          have HBM : Hid (∀ y ∈ nw (bitB (orb k l false c (r + 1))) k, ∃ yn : Nat, yn < k ∧ y = (yn : Int) ∧ (orb k l false c (r + 1)).testBit yn = true) := fun y hy => by
            obtain ⟨j, hj, hb, rfl⟩ := mem_nw.1 hy
            exact ⟨j, hj, rfl, hb⟩
          have HF0 : Hid (wr.ownsRow (w.heap.size + 1) 3 1 (.slice (some ⟨w.heap.size + 1, 0, none⟩) k k) k (cellsI (fixT k l c r (nw (bitB (orb k l false c (r + 1))) k) 0))) := by
            show World.ownsRow _ _ _ _ _ _ _
            rw [fixT_zero]; exact HR.out
          have hml := nw_len (bitB (orb k l false c (r + 1))) k
          have hszr : w.heap.size + 1 < wr.heap.size := by
            have := (HR.out.lt (w.heap.size + 1) rfl).2
            omega
          clear hni hrow hgb hB HO1
          generalize hMM : nw (bitB (orb k l false c (r + 1))) k = M at *
          have HMM := Lib.hid hMM
          clear hMM
          go_wp2_with fail
          refine HON.out.mono ?_
          rintro e w3 ⟨A5, c5, rfl, o5, b5⟩
          have HG3 := Lib.hid (HG.out.below b5 HG.out.lt)
          have HB3 := Lib.hid (btrans HB.out b5)
          have HF3 := Lib.hid (own_below HF0.out b5)
          have HM3 := Lib.hid (own_base (B' := w.heap.size + 2) o5 (by omega))
          clear b5 o5 p0 p1 HG HB HF0 HR HON
          go_wp2_with fail
          obtain ⟨wo2, hwo2⟩ : ∃ wo, wo = wr := ⟨_, rfl⟩
          clear hwo2
          go_loopg [10] M.length (fun g iv wr => ∃ i : Nat, i + g = M.length ∧ iv = .int .i64 (i : Int) ∧ wr.ownsRow (w.heap.size + 2) 3 1 (.slice A5 M.length c5) M.length (cellsI M) ∧ wr.ownsRow (w.heap.size + 1) 3 1 (.slice (some ⟨w.heap.size + 1, 0, none⟩) k k) k (cellsI (fixT k l c r M i)) ∧ Blk wr w.heap.size 29 #[.int .i64 (k : Int), .slice A l.length cc] ∧ Below w.heap.size w wr)
          case atStart => exact ⟨0, by omega, rfl, HM3.out, HF3.out, HG3.out, HB3.out⟩
          case round =>
            clear HM3 HF3 HG3 HB3
            obtain ⟨i, hig, rfl, hmr, hfr, hgb, hB⟩ := hrel
            have HM := Lib.hid hmr
            have HF := Lib.hid hfr
            have HG := Lib.hid hgb
            have HB := Lib.hid hB
            cases gk with
            | zero =>
              obtain rfl : i = M.length := by omega
              have HNI : Hid (Ints wr (.slice A5 M.length c5) (nw (bitB (orb k l false c (r + 1))) k)) := by rw [HMM.out]; exact Reads.of_own hmr
              have HFE : Hid (wr.ownsRow (w.heap.size + 1) 3 1 (.slice (some ⟨w.heap.size + 1, 0, none⟩) k k) k (cellsI (fstL k l c (r + 1)))) := by
                show World.ownsRow _ _ _ _ _ _ _
                rw [← HFA.out]; exact hfr
              clear hmr hfr hgb hB
              go_wp2_with fail
              go_roundg g2
              case measure => omega
              case rel => exact ⟨r + 1, _, rfl, by omega, by go_num, HNI.out, HFE.out, HG.out, HB.out⟩
            | succ g3 =>
              have hlt2 : i < M.length := by omega
              have hlt2' : (i : Int) < (M.length : Int) := by omega
              obtain ⟨y, hy⟩ : ∃ y, M[i]? = some y := ⟨_, List.getElem?_eq_getElem hlt2⟩
              obtain ⟨yn, hyk, rfl, hbit⟩ := HBM.out y (List.mem_of_getElem? hy)
              have hyk' : (yn : Int) < (k : Int) := by omega
              have hy0 : (0 : Int) ≤ (yn : Int) := by omega
              obtain ⟨_, _, hf5, hcc⟩ := (show Ints wr (.slice A5 M.length c5) M from Reads.of_own hmr).form
              cases hf5
              obtain ⟨g9, o9, rfl, q9⟩ := hcc i _ hy
              have hfa := fixT_at (l := l) (c := c) (r := r) hyk (asc_fresh HAS.out hy)
              have f0 := hfr.cellAt yn (by omega)
              rw [cellsI_at hfa] at f0
              have z0 := hfr.frozenAt yn
              have hfx := fixT_len k l c r M i
              by_cases hneg : fstR k l c yn r < 0
              · have HNV := Lib.hid (fst_new hneg hbit)
                have HST := Lib.hid (hfr.stored yn (.int .i64 ((r : Int) + 1))).1
                have HSS : Hid ((fixT k l c r M i).set yn ((r : Int) + 1) = fixT k l c r M (i + 1)) := by
                  show _ = _
                  rw [← fixT_set (l := l) (c := c) (r := r) hyk hy, HNV.out, show ((r + 1 : Nat) : Int) = (r : Int) + 1 from by omega]
                have HMS := Lib.hid (hmr.kept (gset (World.grownBy.refl wr (some (w.heap.size + 1))) yn (.int .i64 ((r : Int) + 1))) (.inr fun e => by have := (hmr.lt _ e).1; omega))
                clear hy hcc hfa hmr hfr hgb hB hbit hfx
                generalize fstR k l c yn r = fv at *
                go_wp2_with fail
                go_roundg g3
                case measure => omega
                case rel =>
                  have h_ := HST.out
                  rw [cellsI_set9, HSS.out] at h_
                  exact ⟨i + 1, by omega, by go_num, HMS.out, h_, HG.out.far (p := ⟨w.heap.size + 1, yn, none⟩) (by simp) _, HB.out.setCell (by simp) _⟩
              · have HKP := Lib.hid (fixT_keep (l := l) (c := c) (r := r) hy (fst_keep hneg))
                clear hy hcc hfa hmr hfr hgb hB hbit hfx
                generalize fstR k l c yn r = fv at *
                go_wp2_with fail
                go_roundg g3
                case measure => omega
                case rel => exact ⟨i + 1, by omega, by go_num, HM.out, by rw [← HKP.out]; exact HF.out, HG.out, HB.out⟩
set_option maxHeartbeats 2000000 in
set_option maxRecDepth 100000 in
theorem specForceRounds_any (s : Int) (v u : Value) (l : List Ed) (xs : List Int) (w : World) (h : Edges w v l) (hl : l.length ≤ 1048576) (hu : Ints w u xs) (hxl : xs.length ≤ 1048576) (hs1 : -9223372036854775808 ≤ s) (hs2 : s ≤ 9223372036854775807) :
    Calls Try.prog 27 #[.agg #[.int .i64 s, v], u] w (RetI w (SetOk s l xs) (frdL s l xs)) := by
  obtain ⟨A, c, rfl, -⟩ := h.form
  have H := Lib.hid h
  have HU := Lib.hid hu
  have b0 : Below w.heap.size w (w.alloc (.cells #[.int .i64 s, .slice A l.length c] 29)) := (Below.refl _ _).alloc (Nat.le_refl _) _
  have HG0 := Lib.hid (Blk.new w 29 #[.int .i64 s, .slice A l.length c])
  obtain ⟨p0, p1, -, -⟩ := HG0.out.two
  have HBT := Lib.hid (l9Both_any s (.slice A l.length c) u l xs _ (h.below b0) hl (hu.below b0) hxl hs1 hs2)
  have HB0 := Lib.hid b0
  clear h hu b0
  by_cases hso : SetOk s l xs
  · rw [okG_yes hso] at HBT
    have h0 := hso.1.1
    have h8 := hso.1.2.1
    obtain ⟨n, rfl⟩ : ∃ n : Nat, s = (n : Int) := ⟨s.toNat, by omega⟩
    have hn : n ≤ 8 := by omega
    have HOK := Lib.hid hso
    have HXS := Lib.hid (setOk_code hso)
    have HC := Lib.hid (code_set hso)
    have HON := Lib.hid (fun (W : World) (hW : Below w.heap.size w W) => l9Rounds_any n (codeL xs) (.slice A l.length c) u l W (H.out.below hW) hl (by have h_ := HU.out.below hW; rw [HXS.out] at h_; exact h_) hn HC.out)
    have HV : Hid (frdL (n : Int) l xs = fstL n l (codeL xs) n) := by show _ = _; unfold frdL; rw [Int.toNat_natCast] <;> rfl
    clear hso
    go_enter Try.func27, Try.ntmps27
    go_wp2_with fail
    refine HBT.out.mono ?_
    rintro e w1 ⟨rfl, b1⟩
    have HE1 := Lib.hid (btrans HB0.out b1)
    have HG1 := Lib.hid (HG0.out.below b1 HG0.out.lt)
    have HO1 := Lib.hid (HON.out w1 HE1.out)
    clear p0 p1 b1 HBT HB0 HG0 HON
    obtain ⟨p0, p1, -, -⟩ := HG1.out.two
    go_wp2_with fail
    refine HO1.out.mono ?_
    rintro e w2 ⟨A2, c2, rfl, o2, b2⟩
    go_wp2_with fail
    go_ret2
    rw [HV.out]
    exact RetI.yes HOK.out (own_base o2 HE1.out.size) (btrans HE1.out b2)
  · rw [okG_no hso] at HBT
    have HNO := Lib.hid hso
    clear hso
    go_enter Try.func27, Try.ntmps27
    go_wp2_with fail
    refine HBT.out.mono ?_
    rintro e w1 ⟨rfl, b1⟩
    have HE1 := Lib.hid (btrans HB0.out b1)
    clear p0 p1 b1
    go_wp2_with fail
    go_ret2
    exact RetI.no HNO.out (own_base (own_new0 w1 3 1) HE1.out.size) (HE1.out.alloc HE1.out.size _)
theorem frd_len (s : Int) (l : List Ed) (xs : List Int) : (inG (SetOk s l xs) (frdL s l xs)).length ≤ 1048576 := inG_len fun h => by
  unfold frdL
  rw [fstL_len]
  have := h.1.1
  have := h.1.2.1
  omega
end Go.Proofs.Ytfphpilabfpmjaa.forc
