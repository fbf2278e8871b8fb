/- The contracts of the program's BestElimination. -/
import Derived.Handy
import Derived.Test.YtphlpipbhaiijaaBestM
import Derived.Test.YtphlpipbhaiijaaTreeI
import Derived.Deep.DeepCutAuto
import Derived.Deep.RegionHeld3
namespace Go.Proofs.Ytphlpipbhaiijaa.costs
open Go.RowKit P2 words edges ints good adjs fns sets rets covs reach bags bitsI fronts
set_option linter.unusedVariables false

/-- the best elimination -/
noncomputable def beL (s : Int) (l : List Ed) : List Int := ordL s.toNat (fitV s.toNat (costW l s.toNat) (twV s l))
theorem ord_lc {n : Nat} {cost : Nat → Nat → Int} {nil v : Int} {C : Nat → Int} (hn : n ≤ 8) (h : LcUp n cost nil 0 C) (hv : v = C 0) (h0 : nil ≤ C 0) :
    ordL n (fitC cost C) = ordL n (fitV n cost v) ∧ (ordN n (fitC cost C) n).isSome = true := by
  subst hv
  have e : ∀ g x, g < 2 ^ n → x < n → g.testBit x = false → fitC cost C g x = fitV n cost (C 0) g x := fun g x hg hx _ => fit_lc hn h h0 hg hx
  refine ⟨ordL_congr e, ?_⟩
  have hch : Ch n cost (C 0) 0 (2 ^ n - 1) := (lc_ch hn h.1 (fun c hc => h.2.1 c (by omega) hc) h0 _ 0 (Nat.two_pow_pos n) (Nat.le_refl _)).1 (Int.le_refl _)
  obtain ⟨g, L, h1, _⟩ := ord_go hch (Nat.le_refl n)
  rw [ordN_congr e, h1]; rfl
theorem ordL_le {n : Nat} {fit : Nat → Nat → Bool} : (ordL n fit).length ≤ n := by
  unfold ordL
  cases h : ordN n fit n with
  | none => simp
  | some s =>
    obtain ⟨g, L⟩ := s
    have := (ordN_ok h).2
    simp; omega
theorem be_len (s : Int) (l : List Ed) : (inG (P2.Good s l) (beL s l)).length ≤ 1048576 := inG_len fun hp => by
  have := ordL_le (n := s.toNat) (fit := fitV s.toNat (costW l s.toNat) (twV s l))
  unfold beL
  have := hp.1; have := hp.2.1; omega
set_option maxHeartbeats 2000000 in
set_option maxRecDepth 100000 in
theorem implBest_any (s : Int) (v : Value) (l : List Ed) (w : World) (h : Edges w v l) (hl : l.length ≤ 1048576) :
    Calls Try.prog 38 #[.agg #[.int .i64 s, v]] w (RetI w (P2.Good s l) (beL s l)) := by
  obtain ⟨A, c, rfl, -⟩ := h.form
  have H := Lib.hid h
  have b0 : Below w.heap.size w (w.alloc (.cells #[.int .i64 s, .slice A l.length c] 29)) := (Below.refl _ _).alloc (Nat.le_refl _) _
  have g0 := Blk.new w 29 #[.int .i64 s, .slice A l.length c]
  have HG := Lib.hid (implIsGraph_any s _ l _ (h.below b0) hl)
  clear h
  by_cases hgd : P2.Good s l
  · rw [goodB_yes hgd] at HG
    have h0 := hgd.1
    have h8 := hgd.2.1
    obtain ⟨n, rfl⟩ : ∃ n : Nat, s = (n : Int) := ⟨s.toNat, by omega⟩
    have hn : n ≤ 8 := by omega
    have HGD := Lib.hid hgd
    have HLC := Lib.hid (fun (W : World) (b : Nat) (A : Option Addr) (c : Nat) (hc : W.cell? ⟨b, 0, none⟩ = some (.slice A (clos l n).length c)) (hm : Nums W (.slice A (clos l n).length c) (clos l n)) =>
      cheapestOrder_any n b (-1) (costW l n) 129 W hn (by decide) (costW_le l n hn) (fun _ _ => by kernel_rfl) (fun W' g x hW hg hx hb => widthClo_any n g x b _ l W' (nearv.cell_keep hc hW) (hm.below hW) hgd hn hx hg hb))
    have HPV := Lib.hid (fun (C : Nat → Int) (hC : LcUp n (costW l n) (-1) 0 C) => ord_lc hn hC (tw_lc hn hC) (hC.low hn (costW_pos l n)))
    have HBE : Hid (beL (n : Int) l = ordL n (fitV n (costW l n) (twV (n : Int) l))) := by show _ = _; unfold beL; rw [Int.toNat_natCast]
    clear hgd
    go_enter Try.func38, Try.ntmps38
    go_wp2_with fail
    refine HG.out.mono ?_
    rintro e w1 ⟨rfl, b1⟩
    have e1 := btrans b0 b1
    have g1 := g0.below b1 g0.lt
    have HFA := Lib.hid (widthAt_any n (.slice A l.length c) l w1.drew (H.out.below e1.drew) hl HGD.out hn)
    have HE1 := Lib.hid e1
    have HG1 := Lib.hid g1
    clear HG b0 b1 g0 e1
    obtain ⟨p0, p1, -, -⟩ := g1.two
    clear g1
    go_wp2_with fail
    refine wp_region_held_drew (S := (fun w' : World => w'.cell? ⟨w.heap.size, 0, none⟩ = some (.int .i64 (n : Int)) ∧ w'.cell? ⟨w.heap.size, 1, none⟩ = some (.slice A l.length c))) (by kernel_rfl) (by (try dsimp only); simp [*]) (fun hHeld => ?_)
    change wpAnyH _ _ _ _ _ _ #[false, false, false, false, false, false, false, false, false] _ _
    refine wpAnyH_take (i := 0) (oi := ⟨some 7, _, _, _, _, _⟩) (v := ?_) rfl (by kernel_rfl) (by kernel_rfl) (by kernel_rfl) (fun _ _ _ h => h) (Or.inl ⟨by rfl, ?_⟩) (by assumption) ?_
    rotate_left
    · (intro w hSw; (try dsimp only at hSw); go_simp; (try (with_reducible rfl)))
    try simp only [Act.put, List.setIfInBounds_toArray, List.set_cons_zero, List.set_cons_succ]
    refine wpAnyH_take (i := 1) (oi := ⟨some 8, _, _, _, _, _⟩) (v := ?_) rfl (by kernel_rfl) (by kernel_rfl) (by kernel_rfl) (fun _ _ _ h => h) (Or.inl ⟨by rfl, ?_⟩) (by assumption) ?_
    rotate_left
    · (intro w hSw; (try dsimp only at hSw); go_simp; (try (with_reducible rfl)))
    try simp only [Act.put, List.setIfInBounds_toArray, List.set_cons_zero, List.set_cons_succ]
    refine wpAnyH_take (i := 2) (oi := ⟨some 9, _, _, _, _, _⟩) (v := ?_) rfl (by kernel_rfl) (by kernel_rfl) (by kernel_rfl) (fun _ _ _ h => h) (Or.inl ⟨by rfl, ?_⟩) (by assumption) ?_
    rotate_left
    · (intro w hSw; (try dsimp only at hSw); go_simp; (try (with_reducible rfl)))
    try simp only [Act.put, List.setIfInBounds_toArray, List.set_cons_zero, List.set_cons_succ]
    refine wpAnyH_ready (rs := [3]) (by kernel_rfl) (by simp) ?_
    refine AllReadyH.cons (o := ⟨some 10, _, _, _, _, _⟩) rfl (fun K hK => ?_) AllReadyH.nil
    go_simp
    refine HFA.out.mono ?_; rintro e w2 ⟨bf, Af, cf, rfl, hcf, hnf, b2⟩; have d2 : Below w1.heap.size w1 w2 := btrans (Below.refl _ _).drew b2; have HE2 := Lib.hid (btrans HE1.out d2); have HG2 := Lib.hid (HG1.out.below d2 HG1.out.lt); obtain ⟨k0, k1, -, -⟩ := HG2.out.two; have HL2 := Lib.hid (HLC.out w2 bf Af cf hcf hnf); clear hcf hnf b2 d2
    go_wp2_with fail
    refine hK.out _ _ (by (try dsimp only); simp [*]) (fun hHeld => ?_)
    clear hK K
    try simp only [List.setIfInBounds_toArray, List.set_cons_zero, List.set_cons_succ]
    refine wpAnyH_ready (rs := [4]) (by kernel_rfl) (by simp) ?_
    refine AllReadyH.cons (o := ⟨some 11, _, _, _, _, _⟩) rfl (fun K hK => ?_) AllReadyH.nil
    go_simp
    refine HL2.out.mono ?_; rintro e w3 ⟨C, hlc, A9, c9, rfl, o9, b9⟩; obtain ⟨hv1, hv2⟩ := HPV.out C hlc; rw [hv2, hv1]; rw [hv1] at o9; obtain ⟨m0, m1, -, -⟩ := (HG2.out.below b9 HG2.out.lt).two; have HE3 := Lib.hid (btrans HE2.out b9); have HO9 := Lib.hid (own_base o9 HE2.out.size); clear HL2 HLC hlc o9 b9 hv1 hv2
    go_wp2_with fail
    refine hK.out _ _ (by (try dsimp only); simp [*]) (fun hHeld => ?_)
    clear hK K
    try simp only [List.setIfInBounds_toArray, List.set_cons_zero, List.set_cons_succ]
    refine wpAnyH_take (i := 5) (oi := ⟨some 12, _, _, _, _, _⟩) (v := ?_) rfl (by kernel_rfl) (by kernel_rfl) (by kernel_rfl) (fun _ _ _ h => h) (Or.inl ⟨by rfl, ?_⟩) (by assumption) ?_
    rotate_left
    · (intro w hSw; (try dsimp only at hSw); go_simp; (try (with_reducible rfl)))
    try simp only [Act.put, List.setIfInBounds_toArray, List.set_cons_zero, List.set_cons_succ]
    refine wpAnyH_take (i := 6) (oi := ⟨some 13, _, _, _, _, _⟩) (v := ?_) rfl (by kernel_rfl) (by kernel_rfl) (by kernel_rfl) (fun _ _ _ h => h) (Or.inl ⟨by rfl, ?_⟩) (by assumption) ?_
    rotate_left
    · (intro w hSw; (try dsimp only at hSw); go_simp; (try (with_reducible rfl)))
    try simp only [Act.put, List.setIfInBounds_toArray, List.set_cons_zero, List.set_cons_succ]
    refine wpAnyH_take (i := 7) (oi := ⟨some 2, _, _, _, _, _⟩) (v := ?_) rfl (by kernel_rfl) (by kernel_rfl) (by kernel_rfl) (fun _ _ _ h => h) (Or.inl ⟨by rfl, ?_⟩) (by assumption) ?_
    rotate_left
    · (intro w hSw; (try dsimp only at hSw); go_simp; (try (with_reducible rfl)))
    try simp only [Act.put, List.setIfInBounds_toArray, List.set_cons_zero, List.set_cons_succ]
    refine wpAnyH_take (i := 8) (oi := ⟨some 3, _, _, _, _, _⟩) (v := ?_) rfl (by kernel_rfl) (by kernel_rfl) (by kernel_rfl) (fun _ _ _ h => h) (Or.inl ⟨by rfl, ?_⟩) (by assumption) ?_
    rotate_left
    · (intro w hSw; (try dsimp only at hSw); go_simp; (try (with_reducible rfl)))
    try simp only [Act.put, List.setIfInBounds_toArray, List.set_cons_zero, List.set_cons_succ]
    refine wpAnyH_done (by kernel_rfl) ?_ _
    go_wp2_with fail
    go_ret2
    rw [← HBE.out] at HO9 ⊢
    exact RetI.yes HGD.out HO9.out HE3.out
  · rw [goodB_no hgd] at HG
    have HN := Lib.hid hgd
    clear hgd
    go_enter Try.func38, Try.ntmps38
    go_wp2_with fail
    refine HG.out.mono ?_
    rintro e w1 ⟨rfl, b1⟩
    go_wp2_with fail
    go_ret2
    exact RetI.nil HN.out (btrans b0 b1)
end Go.Proofs.Ytphlpipbhaiijaa.costs
