/- The contracts of the program's bagsAlong and BagsOfLayout. -/
import Derived.Handy
import Derived.Test.YtbjcfjgoedpgdaaLbM
import Derived.Test.YtbjcfjgoedpgdaaFsI
import Derived.Test.YtbjcfjgoedpgdaaGridW
import Derived.Test.YtbjcfjgoedpgdaaGridL
import Derived.Deep.RegionHeld3
import Derived.Deep.DeepCutAuto
namespace Go.Proofs.Ytbjcfjgoedpgdaa.fronts
open Go.RowKit P2 words edges ints good adjs fns sets rets covs reach bags balls bitsI each grid gridr
set_option linter.unusedVariables false

set_option maxHeartbeats 2000000 in
set_option maxRecDepth 100000 in
theorem bagsAlong_any (n : Nat) (v u : Value) (l : List Ed) (tl : List Int) (w : World) (h : Nums w v (clos l n)) (hu : Ints w u tl) (hg : P2.Good (n : Int) l) (he : EachS n tl) :
    Calls Try.prog 61 #[v, u] w fun e w' => ∃ A c, e = .returned (.slice A n c) ∧ w'.ownsRow w.heap.size 53 1 (.slice A n c) n (cellsU (lbU n l tl n)) ∧ Below w.heap.size w w' := by
  have hn : n ≤ 8 := by have := hg.2.1; omega
  obtain ⟨A2, c2, rfl, hc2⟩ := hu.form
  have hcap := ints_cap hu
  have H := Lib.hid h
  have HU := Lib.hid hu
  have HC2 := Lib.hid hc2
  have HGD := Lib.hid hg
  have HE := Lib.hid he
  have hnl := he.1
  obtain ⟨i0, hi, hz0, hz1, hz2⟩ := info_parts infoU
  have hmk := fun (W : World) => run_make_rowN (P := Try.prog) 55 53 i0 (.int .u64 0) Try.underlying55 hi hz0 .i64 .i64 n n (Nat.le_refl _) (by rw [hz2]; omega) (by omega) W
  rw [hz1] at hmk
  simp only [Nat.mul_one] at hmk
  have hown := World.ownsRow_lit (base := w.heap.size) (e := 53) (size := 1) w (madeCells #[Value.int .u64 0] (n * 1)) n (Nat.le_refl _) (by unfold maxLen; omega) (size_madeCells _ _)
  rw [toList_madeCells_one, Nat.mul_one, show List.replicate n (Value.int .u64 0) = cellsU (lbU n l tl 0) from by rw [lbU_zero]; simp [cellsU]] at hown
  have HOWN := Lib.hid hown
  have HB2 := Lib.hid ((Below.refl w.heap.size w).alloc (Nat.le_refl _) (.cells (madeCells #[.int .u64 0] n) 53))
  rw [hnl] at HU hcap ⊢
  clear h hu hc2 hg he hnl hown
  go_enter Try.func61, Try.ntmps61
  go_wp2_with fail
  clear hmk
  go_loopg [13] n (fun g iv wr => ∃ k : Nat, k + g = n ∧ iv = .int .i64 (k : Int) ∧ wr.ownsRow w.heap.size 53 1 (.slice (some ⟨w.heap.size, 0, none⟩) n n) n (cellsU (lbU n l tl k)) ∧ Below w.heap.size w wr)
  case atStart => exact ⟨0, by omega, rfl, HOWN.out, HB2.out⟩
  case round =>
    clear HOWN HB2
    obtain ⟨k, hkg, rfl, hrow, hB⟩ := hrel
    cases gk with
    | zero =>
      obtain rfl : k = n := by omega
      have HR := Lib.hid hrow
      have HB := Lib.hid hB
      clear hrow hB
      go_wp2_with fail
      go_ret
      exact ⟨_, _, rfl, HR.out, HB.out⟩
    | succ g2 =>
      have hlt : k < n := by omega
      have hlt' : (k : Int) < (n : Int) := by omega
      obtain ⟨x, hx⟩ : ∃ x, tl[k]? = some x := ⟨_, List.getElem?_eq_getElem (by rw [HE.out.1]; exact hlt)⟩
      have hxr := HE.out.range x (List.mem_of_getElem? hx)
      obtain ⟨m, rfl⟩ : ∃ m : Nat, x = (m : Int) := ⟨x.toNat, by omega⟩
      have hmn : m < n := by omega
      have hm0 : (0 : Int) ≤ (m : Int) := by omega
      obtain ⟨ga, oa, rfl, c0⟩ := HC2.out k _ hx
      have q0 := nearv.cell_keep c0 hB
      have hkc : k ≤ c2 := by omega
      have hkc' : (k : Int) ≤ (c2 : Int) := by omega
      have hLL : (tl.take k).length ≤ 1048576 := by rw [List.length_take]; omega
      have hTK : ∀ y ∈ tl.take k, 0 ≤ y ∧ y < (n : Int) := fun y hy => HE.out.range y (List.mem_of_mem_take hy)
      have HIT : Hid (Ints wr.drew (.slice (some ⟨ga, oa, none⟩) k c2) (tl.take k)) := by
        have h_ := HU.out
        rw [← HE.out.1] at h_
        exact ints_take (h_.below hB.drew) (by rw [HE.out.1]; omega) hkc
      have HBO := Lib.hid (bitsOf_any _ (tl.take k) wr.drew HIT.out hLL (fun y hy => by have := hTK y hy; omega))
      rw [code_gone hTK] at HBO
      have HFR := Lib.hid (frontIn_any n (goneB (tl.take k)) v l wr.drew (H.out.below hB.drew) HGD.out hn)
      have hor := or_walk (numOf (frontB l n (goneB (tl.take k))) n) m (numOf_lt _ hn) (by omega)
      rw [num_or_one _ hmn] at hor
      have HLB : Hid (numOf (pput (frontB l n (goneB (tl.take k))) m) n = lbN n l tl k) := by show _ = _; unfold lbN lbB; rw [getD_at hx]
      have hll := lbU_len n l tl (k := k) (by omega)
      obtain ⟨u0, hu0⟩ : ∃ u, (lbU n l tl k)[k]? = some u := ⟨_, List.getElem?_eq_getElem (by omega)⟩
      have f0 := hrow.cellAt k (by omega)
      rw [cellsU_at hu0] at f0
      have z0 := hrow.frozenAt k
      have HST := Lib.hid ((own_below hrow ((Below.refl wr.heap.size wr).drew)).stored k (.int .u64 (lbN n l tl k : Int)))
      have HBB := Lib.hid hB
      have HSS := Lib.hid (lbU_succ n l tl hlt)
      clear hx c0 hTK hLL HIT hu0 hrow hB hll
      rw [HLB.out] at hor
      generalize numOf (frontB l n (goneB (tl.take k))) n = fv at *
      generalize numOf (goneB (tl.take k)) n = gv at *
      generalize lbN n l tl k = lv at *
      go_wp2_with fail
      refine wp_region_held_drew (S := (fun w' : World => w'.heap.size = 0 ∨ True)) (by kernel_rfl) (by (try dsimp only); simp [*]) (fun hHeld => ?_)
      change wpAnyH _ _ _ _ _ _ #[false, false, false, false, false, false, false, false, false, false, false, false, false] _ _
      refine wpAnyH_take (i := 0) (oi := ⟨some 18, _, _, _, _, _⟩) (v := ?_) rfl (by kernel_rfl) (by kernel_rfl) (by kernel_rfl) (fun _ _ _ h => h) (Or.inl ⟨by rfl, ?_⟩) (by assumption) ?_
      rotate_left
      · (intro w hSw; (try dsimp only at hSw); go_simp; (try (with_reducible rfl)))
      try simp only [Act.put, List.setIfInBounds_toArray, List.set_cons_zero, List.set_cons_succ]
      refine wpAnyH_take (i := 1) (oi := ⟨some 19, _, _, _, _, _⟩) (v := ?_) rfl (by kernel_rfl) (by kernel_rfl) (by kernel_rfl) (fun _ _ _ h => h) (Or.inl ⟨by rfl, ?_⟩) (by assumption) ?_
      rotate_left
      · (intro w hSw; (try dsimp only at hSw); go_simp; (try (with_reducible rfl)))
      try simp only [Act.put, List.setIfInBounds_toArray, List.set_cons_zero, List.set_cons_succ]
      refine wpAnyH_take (i := 2) (oi := ⟨some 20, _, _, _, _, _⟩) (v := ?_) rfl (by kernel_rfl) (by kernel_rfl) (by kernel_rfl) (fun _ _ _ h => h) (Or.inl ⟨by rfl, ?_⟩) (by assumption) ?_
      rotate_left
      · (intro w hSw; (try dsimp only at hSw); go_simp; (try (with_reducible rfl)))
      try simp only [Act.put, List.setIfInBounds_toArray, List.set_cons_zero, List.set_cons_succ]
      refine wpAnyH_take (i := 3) (oi := ⟨some 21, _, _, _, _, _⟩) (v := ?_) rfl (by kernel_rfl) (by kernel_rfl) (by kernel_rfl) (fun _ _ _ h => h) (Or.inl ⟨by rfl, ?_⟩) (by assumption) ?_
      rotate_left
      · (intro w hSw; (try dsimp only at hSw); go_simp; (try (with_reducible rfl)))
      try simp only [Act.put, List.setIfInBounds_toArray, List.set_cons_zero, List.set_cons_succ]
      refine wpAnyH_take (i := 4) (oi := ⟨some 22, _, _, _, _, _⟩) (v := ?_) rfl (by kernel_rfl) (by kernel_rfl) (by kernel_rfl) (fun _ _ _ h => h) (Or.inl ⟨by rfl, ?_⟩) (by assumption) ?_
      rotate_left
      · (intro w hSw; (try dsimp only at hSw); go_simp; (try (with_reducible rfl)))
      try simp only [Act.put, List.setIfInBounds_toArray, List.set_cons_zero, List.set_cons_succ]
      refine wpAnyH_take (i := 5) (oi := ⟨some 23, _, _, _, _, _⟩) (v := ?_) rfl (by kernel_rfl) (by kernel_rfl) (by kernel_rfl) (fun _ _ _ h => h) (Or.inl ⟨by rfl, ?_⟩) (by assumption) ?_
      rotate_left
      · (intro w hSw; (try dsimp only at hSw); go_simp; (try (with_reducible rfl)))
      try simp only [Act.put, List.setIfInBounds_toArray, List.set_cons_zero, List.set_cons_succ]
      refine wpAnyH_take (i := 8) (oi := ⟨some 26, _, _, _, _, _⟩) (v := ?_) rfl (by kernel_rfl) (by kernel_rfl) (by kernel_rfl) (fun _ _ _ h => h) (Or.inl ⟨by rfl, ?_⟩) (by assumption) ?_
      rotate_left
      · (intro w hSw; (try dsimp only at hSw); go_simp; (try (with_reducible rfl)))
      try simp only [Act.put, List.setIfInBounds_toArray, List.set_cons_zero, List.set_cons_succ]
      refine wpAnyH_take (i := 9) (oi := ⟨some 27, _, _, _, _, _⟩) (v := ?_) rfl (by kernel_rfl) (by kernel_rfl) (by kernel_rfl) (fun _ _ _ h => h) (Or.inl ⟨by rfl, ?_⟩) (by assumption) ?_
      rotate_left
      · (intro w hSw; (try dsimp only at hSw); go_simp; (try (with_reducible rfl)))
      try simp only [Act.put, List.setIfInBounds_toArray, List.set_cons_zero, List.set_cons_succ]
      refine wpAnyH_ready (rs := [6]) (by kernel_rfl) (by simp) ?_
      refine AllReadyH.cons (o := ⟨some 24, _, _, _, _, _⟩) rfl (fun K hK => ?_) AllReadyH.nil
      go_simp
      refine HBO.out.mono ?_; rintro e w' ⟨rfl, rfl⟩
      go_wp2_with fail
      refine hK.out _ _ (by (try dsimp only); simp [*]) (fun hHeld => ?_)
      clear hK K
      try simp only [List.setIfInBounds_toArray, List.set_cons_zero, List.set_cons_succ]
      refine wpAnyH_ready (rs := [7]) (by kernel_rfl) (by simp) ?_
      refine AllReadyH.cons (o := ⟨some 25, _, _, _, _, _⟩) rfl (fun K hK => ?_) AllReadyH.nil
      go_simp
      refine HFR.out.mono ?_; rintro e w' ⟨rfl, rfl⟩
      go_wp2_with fail
      refine hK.out _ _ (by (try dsimp only); simp [*]) (fun hHeld => ?_)
      clear hK K
      try simp only [List.setIfInBounds_toArray, List.set_cons_zero, List.set_cons_succ]
      refine wpAnyH_take (i := 10) (oi := ⟨some 28, _, _, _, _, _⟩) (v := ?_) rfl (by kernel_rfl) (by kernel_rfl) (by kernel_rfl) (fun _ _ _ h => h) (Or.inl ⟨by rfl, ?_⟩) (by assumption) ?_
      rotate_left
      · (intro w hSw; (try dsimp only at hSw); go_simp; (try (with_reducible rfl)))
      try simp only [Act.put, List.setIfInBounds_toArray, List.set_cons_zero, List.set_cons_succ]
      refine wpAnyH_take (i := 11) (oi := ⟨some 29, _, _, _, _, _⟩) (v := ?_) rfl (by kernel_rfl) (by kernel_rfl) (by kernel_rfl) (fun _ _ _ h => h) (Or.inl ⟨by rfl, ?_⟩) (by assumption) ?_
      rotate_left
      · (intro w hSw; (try dsimp only at hSw); go_simp; (try (with_reducible rfl)))
      try simp only [Act.put, List.setIfInBounds_toArray, List.set_cons_zero, List.set_cons_succ]
      refine wpAnyH_ready (rs := [12]) (by kernel_rfl) (by simp) ?_
      refine AllReadyH.cons rfl (fun K hK => ?_) AllReadyH.nil
      go_simp
      refine hK.out _ _ (Or.inr trivial) (fun hHeld => ?_)
      clear hK K
      refine wpAnyH_done (by kernel_rfl) ?_ _
      go_wp2_with fail
      go_roundg g2
      case measure => omega
      case rel =>
        have h_ := HST.out.1
        rw [cellsU_set, HSS.out] at h_
        exact ⟨k + 1, by omega, by go_num, h_, HBB.out.drew.setCell (Nat.le_refl _) _⟩
theorem lb_len (s : Int) (l : List Ed) (tl : List Int) : gridl.tot (gdG (ElimOk s l tl) (lbK s.toNat l tl s.toNat)) ≤ 1048576 ∧ (gdG (ElimOk s l tl) (lbK s.toNat l tl s.toNat)).length ≤ 1048576 := by
  by_cases h : ElimOk s l tl
  · rw [gdG_yes h]
    have h0 := h.1.1
    have h8 := h.1.2.1
    have hs : s.toNat ≤ 8 := by omega
    have := lbK_sum l tl s.toNat hs hs
    rw [lbK_len]
    unfold gridl.tot
    omega
  · rw [gdG_no h]; simp [gridl.tot]
theorem tneUI : (53 : TypeId) ≠ 25 := by decide
set_option maxHeartbeats 4000000 in
set_option maxRecDepth 100000 in
theorem implBagsOf_any (s : Int) (v u : Value) (l : List Ed) (tl : List Int) (w : World) (h : Edges w v l) (hl : l.length ≤ 1048576) (hu : Ints w u tl) (htl : tl.length ≤ 1048576) :
    Calls Try.prog 28 #[.agg #[.int .i64 s, v], u] w (RetGr w (ElimOk s l tl) (lbK s.toNat l tl s.toNat)) := by
  obtain ⟨A, c, rfl, -⟩ := h.form
  obtain ⟨A2, c2, rfl, -⟩ := hu.form
  have H := Lib.hid h
  have HU := Lib.hid hu
  have b0 : Below w.heap.size w (w.alloc (.cells #[.int .i64 s, .slice A l.length c] 29)) := (Below.refl _ _).alloc (Nat.le_refl _) _
  have g0 := Blk.new w 29 #[.int .i64 s, .slice A l.length c]
  have HO := Lib.hid (hasOrder_any s _ _ l tl _ (h.below b0) hl (hu.below b0) htl)
  clear h hu
  by_cases hok : ElimOk s l tl
  · rw [okG_yes (show P2.Good s l ∧ EachS s.toNat tl from hok)] at HO
    have h0 := hok.1.1
    have h8 := hok.1.2.1
    obtain ⟨n, rfl⟩ : ∃ n : Nat, s = (n : Int) := ⟨s.toNat, by omega⟩
    rw [Int.toNat_natCast]
    have HOK := Lib.hid hok
    have hn : n ≤ 8 := by omega
    have HE : Hid (EachS n tl) := by have := hok.2; rwa [Int.toNat_natCast] at this
    have hnl := HE.out.1
    have HBG := Lib.hid (fun (W : World) (v : Value) (hv : Nums W v (clos l n)) (hW : Below w.heap.size w W) => bagsAlong_any n v (.slice A2 tl.length c2) l tl W hv (HU.out.below hW) HOK.out.1 HE.out)
    rw [hnl] at HO HBG ⊢
    obtain ⟨i1, hi1, hy0, hy1, hy2⟩ := info_parts infoRow
    have hmk := fun (W : World) => run_make_rowN (P := Try.prog) 39 25 i1 (.slice none 0 0) Try.underlying39 hi1 hy0 .i64 .i64 n n (Nat.le_refl _) (by rw [hy2]; omega) (by omega) W
    rw [hy1] at hmk
    simp only [Nat.mul_one] at hmk
    clear hok hnl
    go_enter Try.func28, Try.ntmps28
    go_wp2_with fail
    refine HO.out.mono ?_
    rintro e w1 ⟨rfl, b1⟩
    have e1 := btrans b0 b1
    have g1 := g0.below b1 g0.lt
    have hs1 := e1.size
    have HM := Lib.hid ((OwnG.made w1 n (by unfold maxLen; omega)).base hs1)
    rw [Nat.mul_one] at HM
    have g2 := g1.alloc (.cells (madeCells #[.slice none 0 0] n) 25)
    have e2 : Below w.heap.size w (w1.alloc (.cells (madeCells #[.slice none 0 0] n) 25)) := e1.alloc hs1 _
    obtain ⟨p0, p1, -, -⟩ := g2.two
    clear HO b0 b1 g0
    go_wp2_with fail
    refine (closedBits_any n (.slice A l.length c) l _ (H.out.below e2) hl HOK.out.1 hn).mono ?_
    rintro e w2 ⟨A3, c3, rfl, i3, b3⟩
    have e3 := btrans e2 b3
    have HM3 := Lib.hid (HM.out.below b3)
    have HBG3 := Lib.hid (HBG.out w2 _ i3 e3)
    clear p0 p1 g1 g2 b3 e2 HM
    go_wp2_with fail
    refine HBG3.out.mono ?_
    rintro e w3 ⟨A4, c4, rfl, o4, b4⟩
    have HM4 := Lib.hid (HM3.out.below b4)
    have HE3 := Lib.hid (btrans e3 b4)
    have HU4 := Lib.hid o4
    have hs4 := b4.size
    have hs3 := e3.size
    have hwl : w1.heap.size < w3.heap.size := (HM4.out.1.lt w1.heap.size rfl).2
    clear HBG3 HM3 o4 b4 i3 e3 hmk
    go_wp2_with fail
    go_loopg [21] n (fun g iv wr => ∃ (k : Nat) (us : List Value), k + g = n ∧ iv = .int .i64 (k : Int) ∧ OwnG wr w.heap.size (.slice (some ⟨w1.heap.size, 0, none⟩) n n) us (lbR n l tl k) ∧ wr.ownsRow w2.heap.size 53 1 (.slice A4 n c4) n (cellsU (lbU n l tl n)) ∧ Below w.heap.size w wr)
    case atStart => exact ⟨0, _, by omega, rfl, by rw [lbR_zero]; exact HM4.out, HU4.out, HE3.out⟩
    case round =>
      clear HM4 HU4 HE3
      obtain ⟨k, us, hkg, rfl, hG, hU, hB⟩ := hrel
      have hsz := hB.size
      cases gk with
      | zero =>
        obtain rfl : k = n := by omega
        rw [lbR_all] at hG
        have HLN := Lib.hid (lbK_len k l tl k)
        have HG := Lib.hid hG
        have HB := Lib.hid hB
        clear hG hU hB
        go_wp2_with fail
        go_ret2
        have h_ := HG.out
        have h9 := RetGr.yes (rows := lbK k l tl k) (A := some ⟨w1.heap.size, 0, none⟩) (c := k) HOK.out (by rw [HLN.out]; exact h_) HB.out
        rw [HLN.out] at h9
        exact h9
      | succ g2 =>
        have hlt : k < n := by omega
        have hlt' : (k : Int) < (n : Int) := by omega
        obtain ⟨_, _, hf4, hcc4⟩ := Nums.form (show Nums wr (.slice A4 n c4) (lbU n l tl n) from by unfold Nums; rw [lbU_len n l tl (Nat.le_refl n)]; exact Reads.of_own hU)
        rw [lbU_len n l tl (Nat.le_refl n)] at hf4
        cases hf4
        obtain ⟨g6, o6, rfl, q6⟩ := hcc4 k _ (lbU_at hlt)
        have HND := Lib.hid (nodes_any (lbN n l tl k) wr (by have := lbN_lt n l tl k hn; omega))
        have HNN : Hid (nw (bitB (lbN n l tl k)) 8 = lbT n l tl k) := nodes_num hn
        rw [HNN.out] at HND
        have HG := Lib.hid hG
        have HU := Lib.hid hU
        have HB := Lib.hid hB
        clear hG hU hB hcc4 HNN
        generalize lbN n l tl k = lv at *
        go_wp2_with fail
        refine HND.out.mono ?_
        rintro e w4 ⟨A5, c5, rfl, o5, b5⟩
        have hG4 := HG.out.below b5
        have hrl := lbR_len n l tl (k := k) (by omega)
        have h1 := hG4.1
        rw [hrl] at h1
        have hul := hG4.len
        rw [hrl] at hul
        obtain ⟨u0, hu0⟩ : ∃ u, us[k]? = some u := ⟨_, List.getElem?_eq_getElem (by omega)⟩
        have f0 := h1.cellAt k (by omega)
        rw [hu0] at f0
        have z0 := h1.frozenAt k
        have hgr := h1.lt w1.heap.size rfl
        have HS : Hid (OwnG (w4.setCell ⟨w1.heap.size, k, none⟩ (.slice A5 (lbT n l tl k).length c5)) w.heap.size (.slice (some ⟨w1.heap.size, 0, none⟩) n n) (us.set k (.slice A5 (lbT n l tl k).length c5)) (lbR n l tl (k + 1))) := by
          have h9 : OwnG w4 w.heap.size (.slice (some ⟨w1.heap.size, 0, none⟩) (lbR n l tl k).length n) us (lbR n l tl k) := by rw [hrl]; exact hG4
          have hfr := OwnG.fresh HG.out (own_base o5 (Nat.le_refl _))
          have := OwnG.store h9 (by rw [hrl]; exact hlt) (own_base o5 (by omega)) (fun i x b _ hx hb => hfr i x b hx hb)
          rw [lbR_succ n l tl hlt, hrl] at this
          exact this
        have HU5 : Hid ((w4.setCell ⟨w1.heap.size, k, none⟩ (.slice A5 (lbT n l tl k).length c5)).ownsRow w2.heap.size 53 1 (.slice (some ⟨g6, o6, none⟩) n c4) n (cellsU (lbU n l tl n))) := by
          have hu_ := own_below HU.out b5
          refine hu_.kept (gset (World.grownBy.refl w4 (some w1.heap.size)) k _) ?_
          refine .inr fun e => ?_
          exact own_apart hu_ h1 tneUI w1.heap.size e (by simp [Value.ownBlock])
        have HB5 := Lib.hid ((btrans HB.out b5).setCell (p := ⟨w1.heap.size, k, none⟩) hgr.1 (.slice A5 (lbT n l tl k).length c5))
        clear hG4 h1 hrl hul b5 o5 hu0
        go_wp2_with fail
        go_roundg g2
        case measure => omega
        case rel => exact ⟨k + 1, _, by omega, by go_num, HS.out, HU5.out, HB5.out⟩
  · rw [okG_no (show ¬ (P2.Good s l ∧ EachS s.toNat tl) from hok)] at HO
    have HN := Lib.hid hok
    clear hok
    go_enter Try.func28, Try.ntmps28
    go_wp2_with fail
    refine HO.out.mono ?_
    rintro e w1 ⟨rfl, b1⟩
    go_wp2_with fail
    go_ret2
    exact RetGr.nil HN.out (btrans b0 b1)
end Go.Proofs.Ytbjcfjgoedpgdaa.fronts
