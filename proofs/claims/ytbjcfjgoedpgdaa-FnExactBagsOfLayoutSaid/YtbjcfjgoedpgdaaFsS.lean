/- The contract of the model's FrontSizes. -/
import Derived.Handy
import Derived.Test.YtbjcfjgoedpgdaaFsI
import Derived.Test.YtbjcfjgoedpgdaaLayI
import Derived.Deep.AppendLies
import Derived.Deep.RegionHeld3
import Derived.Deep.DeepCutAuto
namespace Go.Proofs.Ytbjcfjgoedpgdaa.fronts
open Go.RowKit P2 words edges ints good adjs fns sets rets covs reach bags balls each mids
set_option linter.unusedVariables false

theorem keep_al {w : World} {p : Addr} {v : Value} {o : Obj} (h : w.cell? p = some v) : (w.alloc o).cell? p = some v :=
  ((Below.refl w.heap.size w).alloc (Nat.le_refl _) o |>.cell (p := p) (World.block_lt_of_cell? w p h)).trans h
set_option maxHeartbeats 2000000 in
set_option maxRecDepth 100000 in
theorem specFrontSizes_any (s : Int) (v u : Value) (l : List Ed) (tl : List Int) (w : World) (h : Edges w v l) (hl : l.length ≤ 1048576) (hu : Ints w u tl) (htl : tl.length ≤ 1048576) (hs1 : -9223372036854775808 ≤ s) (hs2 : s ≤ 9223372036854775807) :
    Calls Try.prog 25 #[.agg #[.int .i64 s, v], u] w (RetI w (ElimOk s l tl) (fszK s.toNat l tl s.toNat)) := by
  obtain ⟨i0, hi, hz0, hz1, hz2⟩ := info_parts infoInt
  obtain ⟨A, c, rfl, -⟩ := h.form
  obtain ⟨A2, c2, rfl, hc2⟩ := hu.form
  have H := Lib.hid h
  have HU := Lib.hid hu
  have HC2 := Lib.hid hc2
  have hcap := ints_cap hu
  have b0 : Below w.heap.size w ((w.alloc (.cells #[.int .i64 s, .slice A l.length c] 29)).alloc (.cells #[] 3)) := ((Below.refl _ _).alloc (Nat.le_refl _) _).alloc (by simp) _
  have g0 := (Blk.new w 29 #[.int .i64 s, .slice A l.length c]).alloc (.cells #[] 3)
  have o0 := own_new0 (w.alloc (.cells #[.int .i64 s, .slice A l.length c] 29)) 3 1
  rw [World.size_alloc] at o0
  have HG := Lib.hid (l2Good_any s _ l _ (h.below b0) hl hs1 hs2)
  clear h hu hc2
  by_cases hgd : P2.Good s l
  · rw [goodB_yes hgd] at HG
    have h0 := hgd.1
    have h8 := hgd.2.1
    obtain ⟨n, rfl⟩ : ∃ n : Nat, s = (n : Int) := ⟨s.toNat, by omega⟩
    have hn : n ≤ 8 := by omega
    rw [Int.toNat_natCast]
    have HL := Lib.hid (fun (W : World) (hW : Below w.heap.size w W) => l6Layout_any n (.slice A l.length c) _ l tl W (H.out.below hW) (HU.out.below hW) htl hn)
    rw [elim_each hgd] at HL
    by_cases hok : ElimOk (n : Int) l tl
    · rw [okG_yes hok] at HL
      have HOK := Lib.hid hok
      have HE : Hid (EachS n tl) := by have := hok.2; rwa [Int.toNat_natCast] at this
      have hnl := HE.out.1
      have HZ : Hid (cellsI (fszK n l tl 0) = []) := rfl
      rw [hnl] at HU hcap HL ⊢
      clear hgd hok hnl
      go_enter Try.func25, Try.ntmps25
      go_wp2_with fail
      refine HG.out.mono ?_
      rintro e w1 ⟨rfl, b1⟩
      have e1 := btrans b0 b1
      have g1 := g0.below b1 g0.lt
      have o1 := own_below o0 b1
      obtain ⟨p0, p1, -, -⟩ := g1.two
      have HL1 := Lib.hid (HL.out w1 e1)
      clear HG b0 b1 g0 o0 HL
      go_wp2_with fail
      refine HL1.out.mono ?_
      rintro e w2 ⟨rfl, b2⟩
      have HE2 := Lib.hid (btrans e1 b2)
      have HG2 := Lib.hid (g1.below b2 g1.lt)
      have HO2 := Lib.hid (own_below o1 b2)
      clear HL1 b2 g1 o1 e1 p0 p1
      go_wp2_with fail
      go_loopg [6, 7] n (fun g ov iv wr => ∃ (k j : Nat) (ow : Value), ow = ov ∧ k + g = n ∧ Hid (j = k + 1) ∧ iv = .int .i64 (j : Int) ∧ wr.ownsRow (w.heap.size + 1) 3 1 ow (fszK n l tl k).length (cellsI (fszK n l tl k)) ∧ Blk wr w.heap.size 29 #[.int .i64 (n : Int), .slice A l.length c] ∧ Below w.heap.size w wr)
      case atStart => exact ⟨0, 1, _, rfl, by omega, rfl, rfl, HO2.out, HG2.out, HE2.out⟩
      case round =>
        clear HO2 HG2 HE2
        obtain ⟨k, j, ow, rfl, hkg, hj, rfl, hrow, hgb, hB⟩ := hrel
        obtain ⟨A4, c4, rfl⟩ := own_form hrow
        have hfl := fszK_len n l tl k
        have hj1 := hj.out
        cases gk with
        | zero =>
          obtain rfl : k = n := by omega
          have hjn : ¬ (j : Int) ≤ (k : Int) := by omega
          have HR := Lib.hid hrow
          have HB := Lib.hid hB
          clear hrow hgb hB hfl hj1
          go_wp2_with fail
          go_ret2
          exact RetI.yes HOK.out (own_base HR.out (by omega)) HB.out
        | succ g2 =>
          have hlt : k < n := by omega
          have hlt' : (j : Int) ≤ (n : Int) := by omega
          have hk0 : (0 : Int) ≤ (j : Int) := by omega
          obtain ⟨p0, p1, -, -⟩ := hgb.two
          have hkc : (j : Int) ≤ (c2 : Int) := by omega
          have hkc' : j ≤ c2 := by omega
          have hTK : ∀ y ∈ tl.take j, 0 ≤ y ∧ y < (n : Int) := fun y hy => HE.out.range y (List.mem_of_mem_take hy)
          have hLL : (tl.take j).length ≤ 1048576 := by rw [List.length_take, HE.out.1]; omega
          have HIT : Hid (∀ W, Below w.heap.size w W → Ints W (.slice A2 j c2) (tl.take j)) := fun W hW => by
            have h_ := HU.out
            rw [← HE.out.1] at h_
            exact ints_take (h_.below hW) (by rw [HE.out.1]; omega) (by omega)
          have HFR := Lib.hid (l6Front_any n (.slice A l.length c) (.slice A2 j c2) l (tl.take j) wr.drew (H.out.below hB.drew) hl (HIT.out _ hB.drew) hLL hn hTK)
          have HFL : Hid (((froL n l (tl.take j)).length : Int) = fsz n l tl k) := by show _ = _; rw [hj1]; rfl
          have hl8 : (froL n l (tl.take j)).length ≤ n := nw_len _ _
          have HSU := Lib.hid (fszK_succ n l tl k)
          have HR := Lib.hid hrow
          have HG := Lib.hid hgb
          have HB := Lib.hid hB
          have hsz := hB.size
          have hgl := hgb.lt
          have hf8 : (fszK n l tl k).length ≤ 8 := by omega
          clear hrow hgb hB hTK hLL hfl hj1
          generalize (froL n l (tl.take j)) = fl at *
          generalize (fszK n l tl k) = m at *
          go_wp2_with fail
          refine wp_region_held_drew (S := (fun w' : World => w'.cell? ⟨w.heap.size, 0, none⟩ = some (.int .i64 (n : Int)) ∧ w'.cell? ⟨w.heap.size, 1, none⟩ = some (.slice A l.length c))) (by kernel_rfl) (by (try dsimp only); simp [*]) (fun hHeld => ?_)
          change wpAnyH _ _ _ _ _ _ #[false, false, false, false, false, false, false, false, false, false] _ _
          refine wpAnyH_take (i := 0) (oi := ⟨some 25, _, _, _, _, _⟩) (v := ?_) rfl (by kernel_rfl) (by kernel_rfl) (by kernel_rfl) (fun _ _ _ h => h) (Or.inl ⟨by rfl, ?_⟩) (by assumption) ?_
          rotate_left
          · (intro w hSw; (try dsimp only at hSw); go_simp; (try (with_reducible rfl)))
          try simp only [Act.put, List.setIfInBounds_toArray, List.set_cons_zero, List.set_cons_succ]
          refine wpAnyH_take (i := 1) (oi := ⟨some 26, _, _, _, _, _⟩) (v := ?_) rfl (by kernel_rfl) (by kernel_rfl) (by kernel_rfl) (fun _ _ _ h => h) (Or.inl ⟨by rfl, ?_⟩) (by assumption) ?_
          rotate_left
          · (intro w hSw; (try dsimp only at hSw); go_simp; (try (with_reducible rfl)))
          try simp only [Act.put, List.setIfInBounds_toArray, List.set_cons_zero, List.set_cons_succ]
          refine wpAnyH_take (i := 2) (oi := ⟨some 27, _, _, _, _, _⟩) (v := ?_) rfl (by kernel_rfl) (by kernel_rfl) (by kernel_rfl) (fun _ _ _ h => h) (Or.inl ⟨by rfl, ?_⟩) (by assumption) ?_
          rotate_left
          · (intro w hSw; (try dsimp only at hSw); go_simp; (try (with_reducible rfl)))
          try simp only [Act.put, List.setIfInBounds_toArray, List.set_cons_zero, List.set_cons_succ]
          refine wpAnyH_take (i := 3) (oi := ⟨some 28, _, _, _, _, _⟩) (v := ?_) rfl (by kernel_rfl) (by kernel_rfl) (by kernel_rfl) (fun _ _ _ h => h) (Or.inl ⟨by rfl, ?_⟩) (by assumption) ?_
          rotate_left
          · (intro w hSw; (try dsimp only at hSw); go_simp; (try (with_reducible rfl)))
          try simp only [Act.put, List.setIfInBounds_toArray, List.set_cons_zero, List.set_cons_succ]
          refine wpAnyH_take (i := 4) (oi := ⟨some 29, _, _, _, _, _⟩) (v := ?_) rfl (by kernel_rfl) (by kernel_rfl) (by kernel_rfl) (fun _ _ _ h => h) (Or.inl ⟨by rfl, ?_⟩) (by assumption) ?_
          rotate_left
          · (intro w hSw; (try dsimp only at hSw); go_simp; (try (with_reducible rfl)))
          try simp only [Act.put, List.setIfInBounds_toArray, List.set_cons_zero, List.set_cons_succ]
          refine wpAnyH_ready (rs := [5]) (by kernel_rfl) (by simp) ?_
          refine AllReadyH.cons (o := ⟨some 30, _, _, _, _, _⟩) rfl (fun K hK => ?_) AllReadyH.nil
          go_simp
          refine HFR.out.mono ?_; rintro e w3 ⟨A5, c5, rfl, o5, b5⟩; have d3 : Below wr.heap.size wr w3 := (Below.refl _ _).drew.trans b5; have HG3 := Lib.hid (HG.out.below d3 HG.out.lt); have HR3 := Lib.hid (own_below HR.out d3); obtain ⟨k0, k1, -, -⟩ := HG3.out.two; have hs3 := d3.size
          go_wp2_with fail
          refine hK.out _ _ (by (try dsimp only); simp [*]) (fun hHeld => ?_)
          clear hK K
          try simp only [List.setIfInBounds_toArray, List.set_cons_zero, List.set_cons_succ]
          refine wpAnyH_take (i := 6) (oi := ⟨some 31, _, _, _, _, _⟩) (v := ?_) rfl (by kernel_rfl) (by kernel_rfl) (by kernel_rfl) (fun _ _ _ h => h) (Or.inl ⟨by rfl, ?_⟩) (by assumption) ?_
          rotate_left
          · (intro w hSw; (try dsimp only at hSw); go_simp; (try (with_reducible rfl)))
          try simp only [Act.put, List.setIfInBounds_toArray, List.set_cons_zero, List.set_cons_succ]
          refine wpAnyH_ready (rs := [7]) (by kernel_rfl) (by simp) ?_
          refine AllReadyH.cons rfl (fun K hK => ?_) AllReadyH.nil
          go_simp
          refine hK.out _ _ (⟨keep_al k0, keep_al k1⟩) (fun hHeld => ?_)
          clear hK K
          try simp only [List.setIfInBounds_toArray, List.set_cons_zero, List.set_cons_succ]
          refine wpAnyH_ready (rs := [8]) (by kernel_rfl) (by simp) ?_
          refine AllReadyH.cons rfl (fun K hK => ?_) AllReadyH.nil
          (refine step_append_lies _ rfl (.tmp 25) (.tmp 32) 25 rfl (w.heap.size + 1) 3 i0 (.int .i64 0) 1 8 Try.underlying25 hi hz0 hz1 hz2 rfl (by decide) (.slice A4 m.length c4) m.length (cellsI m) rfl (HR3.out.alloc _) ⟨w3.heap.size, 0, none⟩ 1 1 [.int .i64 (fl.length : Int)] rfl rfl (cell_one_new _ _ _) (fun x hx => by simp at hx; subst hx; rfl) (by decide) (by unfold maxLen; omega) (by omega) (by simp; omega) (w3.heap.size + 1) (by simp) ?_; intro g8 cap8 w8 hown8 hgrow8 lies8 lt8; have hG8 := (HG3.out.alloc (.cells #[.int .i64 (fl.length : Int)] 3)).grown hgrow8 (fun e => own_ne HR3.out HG3.out (by decide) e.symm); obtain ⟨k2, k3, -, -⟩ := hG8.two)
          refine hK.out _ _ (⟨k2, k3⟩) (fun hHeld => ?_)
          clear hK K
          try simp only [Act.put, List.setIfInBounds_toArray, List.set_cons_zero, List.set_cons_succ]
          refine wpAnyH_take (i := 9) (oi := ⟨some 6, _, _, _, _, _⟩) (v := ?_) rfl (by kernel_rfl) (by kernel_rfl) (by kernel_rfl) (fun _ _ _ h => h) (Or.inl ⟨by rfl, ?_⟩) (by assumption) ?_
          rotate_left
          · (intro w hSw; (try dsimp only at hSw); go_simp; (try (with_reducible rfl)))
          try simp only [Act.put, List.setIfInBounds_toArray, List.set_cons_zero, List.set_cons_succ]
          refine wpAnyH_done (by kernel_rfl) ?_ _
          have HO8 := Lib.hid (push1 HR3.out hown8 hgrow8 (by omega))
          have HB8 := Lib.hid ((btrans HB.out d3).trans (HO8.out.2.mono (by omega)))
          have HG8 := Lib.hid hG8
          clear hG8 hown8 hgrow8 lies8 lt8 k0 k1 k2 k3 p0 p1 b5 d3 hHeld
          go_wp2_with fail
          go_roundg g2
          case measure => omega
          case rel =>
            have h_ := HO8.out.1
            rw [HFL.out, ← HSU.out] at h_
            exact ⟨k + 1, j + 1, _, rfl, by omega, by have := hj.out; exact Lib.hid (by omega), by go_num, h_, HG8.out, HB8.out⟩
    · rw [okG_no hok] at HL
      have HN := Lib.hid hok
      clear hgd hok
      go_enter Try.func25, Try.ntmps25
      go_wp2_with fail
      refine HG.out.mono ?_
      rintro e w1 ⟨rfl, b1⟩
      have e1 := btrans b0 b1
      have g1 := g0.below b1 g0.lt
      have o1 := own_below o0 b1
      obtain ⟨p0, p1, -, -⟩ := g1.two
      have HL1 := Lib.hid (HL.out w1 e1)
      clear HG b0 b1 g0 o0 HL
      go_wp2_with fail
      refine HL1.out.mono ?_
      rintro e w2 ⟨rfl, b2⟩
      have e2 := btrans e1 b2
      have o2 := own_below o1 b2
      go_wp2_with fail
      go_ret2
      exact RetI.no HN.out (own_base o2 (by omega)) e2
  · rw [goodB_no hgd] at HG
    have HN : Hid (¬ ElimOk s l tl) := fun hh => hgd hh.1
    clear hgd
    go_enter Try.func25, Try.ntmps25
    go_wp2_with fail
    refine HG.out.mono ?_
    rintro e w1 ⟨rfl, b1⟩
    have e1 := btrans b0 b1
    have o1 := own_below o0 b1
    go_wp2_with fail
    go_ret2
    exact RetI.no HN.out (own_base o1 (by omega)) e1
end Go.Proofs.Ytbjcfjgoedpgdaa.fronts
