/- DismantlingOf: the contract of the model. -/
import Derived.Test.YtbdappkhkngdlabDoorDismI
namespace Go.Proofs.YtbdappkhkngdlabDoor.dismO
open Go.RowKit P2 words edges ints good adjs fns sets rets covs cors dism least strip apps mids
set_option linter.unusedVariables false

theorem one_list {l : List Int} (h : l.length = 1) : ∃ z, l = [z] := by
  match l, h with
  | [z], _ => exact ⟨z, rfl⟩
theorem apart_of {w : World} {B : Nat} {t : TypeId} {size n : Nat} {s o : Value} {xs : List Value} (hs : w.ownsRow B t size s n xs) (ho : ∀ q, o.ownBlock = some q → q < B) :
    s.ownBlock = none ∨ s.ownBlock ≠ o.ownBlock := by
  cases h : s.ownBlock with
  | none => exact .inl rfl
  | some q => exact .inr fun e => by have := (hs.lt q h).1; have := ho q e.symm; omega
set_option maxHeartbeats 4000000 in
set_option maxRecDepth 100000 in
theorem specDism_any (s : Int) (v : Value) (l : List Ed) (w : World) (h : Edges w v l) (hl : l.length ≤ 1048576) (hs1 : -9223372036854775808 ≤ s) (hs2 : s ≤ 9223372036854775807) :
    Calls Tryd.prog 14 #[.agg #[.int .i64 s, v]] w (RetI w (DisP s l) (dismL l s.toNat)) := by
  obtain ⟨i0, hi, hz0, hz1, hz2⟩ := info_parts infoInt
  obtain ⟨A, c, rfl, -⟩ := h.form
  have H := Lib.hid h
  have b0 : Below w.heap.size w ((w.alloc (.cells #[.int .i64 s, .slice A l.length c] 28)).alloc (.cells #[] 3)) := ((Below.refl _ _).alloc (Nat.le_refl _) _).alloc (by simp) _
  have g0 := (Blk.new w 28 #[.int .i64 s, .slice A l.length c]).alloc (.cells #[] 3)
  have o0 := own_new0 (w.alloc (.cells #[.int .i64 s, .slice A l.length c] 28)) 3 1
  rw [World.size_alloc] at o0
  have HO0 := Lib.hid o0
  have HF := Lib.hid (l3Some_any s _ l _ (h.below b0.drew) hl hs1 hs2)
  have HG0 := Lib.hid g0
  have HB0 : Hid (Below w.heap.size w ((w.alloc (.cells #[.int .i64 s, .slice A l.length c] 28)).alloc (.cells #[] 3)).drew) := b0.drew
  obtain ⟨p0, p1, -, -⟩ := g0.two
  clear h o0 g0 b0
  by_cases hsm : SomeP s l
  · rw [okG_yes hsm] at HF
    obtain ⟨n, rfl⟩ : ∃ n : Nat, s = (n : Int) := ⟨s.toNat, by have := hsm.2; omega⟩
    have hn : n ≤ 8 := by have := hsm.1.2.1; omega
    have HOK := Lib.hid hsm
    have HGD : Hid (P2.Good (n : Int) l) := hsm.1
    clear hsm
    rw [Int.toNat_natCast]
    have hk8 := kL_le (l := l) (n := n)
    have HD : Hid (DisP (n : Int) l ↔ (coreL' l n).length = 1) := ⟨fun h => by have := h.2; rwa [Int.toNat_natCast] at this, fun h => ⟨HOK.out, by rw [Int.toNat_natCast]; exact h⟩⟩
    have HAL := Lib.hid (fun (W : World) => l2All_any n (.slice A l.length c) W hn)
    have HCA := Lib.hid (fun (W : World) (u : Value) (hb : Below w.heap.size w W) (hu : Ints W u (allN n)) => l3Can_any n _ u l W (H.out.below hb) hl HGD.out hn hu)
    by_cases hone : (coreL' l n).length = 1
    · rw [decide_eq_true hone] at HCA
      have HY : Hid (DisP (n : Int) l) := HD.out.2 hone
      have HONE := Lib.hid hone
      have HCO := Lib.hid (fun (W : World) (u : Value) (k : Nat) (hb : Below w.heap.size w W) (hu : Ints W u (nw (bitB (sB l n k)) n)) => l3Corners_any n (.slice A l.length c) u l (nw (bitB (sB l n k)) n) W (H.out.below hb) hl hu (by have := nw_len (bitB (sB l n k)) n; omega) hn (fun y hy => by obtain ⟨i, hi, _, rfl⟩ := mem_nw.1 hy; omega))
      clear hone
      go_enter Tryd.func14, Tryd.ntmps14
      go_wp2_with fail
      go_region_held3 (fun w' => w'.cell? ⟨w.heap.size, 0, none⟩ = some (.int .i64 (n : Int)) ∧ w'.cell? ⟨w.heap.size, 1, none⟩ = some (.slice A l.length c)) (go_keep)
        (first
          | (go_at_call 20; refine (keepb2 HF.out (fun _ _ h => h.2) (p := ⟨w.heap.size, 0, none⟩) (q := ⟨w.heap.size, 1, none⟩) (a := .int .i64 (n : Int)) (b := .slice A l.length c) ?_ ?_).mono ?_; (simp [*]); (simp [*]); rintro e w4 ⟨⟨rfl, b4⟩, k0, k1⟩; have e4 := btrans HB0.out b4)
          | (go_at_call 27; refine (keepb2 (HAL.out w4) (fun _ _ h => h.below) (p := ⟨w.heap.size, 0, none⟩) (q := ⟨w.heap.size, 1, none⟩) (a := .int .i64 (n : Int)) (b := .slice A l.length c) ?_ ?_).mono ?_; (simp [*]); (simp [*]); rintro e w5 ⟨⟨A5, c5, rfl, o5, b5⟩, k2, k3⟩; have e5 := btrans e4 b5)
          | (go_at_call 26; refine (keepb2 (HCA.out w5 _ e5 (Reads.of_own o5)) (fun _ _ h => h.2) (p := ⟨w.heap.size, 0, none⟩) (q := ⟨w.heap.size, 1, none⟩) (a := .int .i64 (n : Int)) (b := .slice A l.length c) ?_ ?_).mono ?_; (simp [*]); (simp [*]); rintro e w6 ⟨⟨rfl, b6⟩, k4, k5⟩))
      have HE6 := Lib.hid (btrans e5 b6)
      have gd : Blk ((w.alloc (.cells #[.int .i64 (n : Int), .slice A l.length c] 28)).alloc (.cells #[] 3)).drew w.heap.size 28 #[.int .i64 (n : Int), .slice A l.length c] := HG0.out.drewN 1
      have HG6 := Lib.hid (gd.below (btrans b4 (btrans b5 b6)) gd.lt)
      clear gd
      have HO6 := Lib.hid (own_below (own_below HO0.out (Below.refl _ _).drew) (btrans b4 (btrans b5 b6)))
      clear k0 k1 k2 k3 k4 k5 b4 b5 b6 o5 e4 e5 p0 p1
      obtain ⟨p0, p1, -, -⟩ := HG6.out.two
      go_wp2_with fail
      refine (HAL.out w6).mono ?_
      rintro e w7 ⟨A7, c7, rfl, o7, b7⟩
      have HE7 := Lib.hid (btrans HE6.out b7)
      have HG7 := Lib.hid (HG6.out.below b7 HG6.out.lt)
      have HO7 := Lib.hid (own_below HO6.out b7)
      have e0 : nw (bitB (sB l n 0)) n = allN n := bits_all n
      have hob0 : ∀ q, (Value.slice (some ⟨w.heap.size + 1, 0, none⟩) 0 0).ownBlock = some q → q < w6.heap.size := fun q hq => (HO6.out.lt q hq).2
      rw [← e0] at o7
      have HS7 := Lib.hid o7
      have hz6 := HE6.out.size
      have hz6' : w.heap.size + 1 < w6.heap.size := hob0 _ rfl
      have HOB0 := Lib.hid hob0
      rw [← e0]
      clear p0 p1 b7 o7 e0 hob0
      go_wp2_with fail
      go_loopg [4, 5] n (fun g ov sv wr => ∃ (k B : Nat) (o u : Value), o = ov ∧ u = sv ∧ k + g = n ∧ Hid (∀ j, j < k → More l n j) ∧ wr.ownsRow (w.heap.size + 1) 3 1 o (xL l n k).length (cellsI (xL l n k)) ∧
        wr.ownsRow B 3 1 u (nw (bitB (sB l n k)) n).length (cellsI (nw (bitB (sB l n k)) n)) ∧ Hid (∀ q, o.ownBlock = some q → q < B) ∧
        Blk wr w.heap.size 28 #[.int .i64 (n : Int), .slice A l.length c] ∧ Below w.heap.size w wr)
      case atStart => exact ⟨0, _, _, _, rfl, rfl, by omega, fun j hj => by omega, HO7.out, HS7.out, HOB0.out, HG7.out, HE7.out⟩
      case round =>
        clear HO7 HS7 HG7 HE7 HOB0 HE6 HG6 HO6 hz6 hz6'
        obtain ⟨k, B, ov, sv, rfl, rfl, hkg, hmore, hrow, hset, hob, hgb, hB⟩ := hrel
        have hset' := Reads.of_own hset
        obtain ⟨A1, c1, rfl⟩ := own_form hset
        have hszr := hgb.lt
        have hxl : (xL l n k).length ≤ 8 := by rw [xL_len]; omega
        by_cases hm : (nw (bitB (sB l n k)) n).length ≤ 1
        · have hK := kL_eq hn hmore.out (few_no HGD.out hn hm)
          subst hK
          obtain ⟨z, hz⟩ := one_list HONE.out
          have hc0 : (nw (bitB (sB l n (kL l n))) n)[0]? = some z := by
            have : nw (bitB (sB l n (kL l n))) n = [z] := hz
            rw [this]; rfl
          have hlen1 : (nw (bitB (sB l n (kL l n))) n).length = 1 := HONE.out
          have d0 : decide ((1 : Int) < ((nw (bitB (sB l n (kL l n))) n).length : Int)) = false := decide_eq_false (by omega)
          have hpos : 0 < (nw (bitB (sB l n (kL l n))) n).length := by omega
          have hpos' : (0 : Int) < ((nw (bitB (sB l n (kL l n))) n).length : Int) := by omega
          obtain ⟨_, _, hf, hcc⟩ := Ints.form hset'
          cases hf
          obtain ⟨gs, os, rfl, q0⟩ := hcc 0 z hc0
          rw [Nat.add_zero] at q0
          have HZ : Hid (dismL l n = xL l n (kL l n) ++ [z]) := by show _ = _; unfold dismL; rw [hz]
          have HRW := Lib.hid hrow
          have HBB := Lib.hid hB
          clear hc0 hlen1 hcc hz hset hset' hob hm hgb hB hrow
          generalize (nw (bitB (sB l n (kL l n))) n).length = nl at *
          go_wp2_with (at_builtin; refine wpList_append_own _ rfl _ _ 35 rfl (w.heap.size + 1) 3 i0 (.int .i64 0) 1 8 Tryd.underlying35 hi hz0 hz1 hz2 rfl (by decide) _ _ _ rfl (HRW.out.alloc _) ⟨wr.heap.size, 0, none⟩ 1 1 [.int .i64 (z)] rfl rfl (cell_one_new _ _ _) (fun x hx => by simp at hx; subst hx; rfl) (by unfold maxLen; omega) (by omega) (by simp; omega) ?_; intro v2 w2 hown2 hgrow2 _)
          obtain ⟨hown3, hB2⟩ := push1 HRW.out hown2 hgrow2 hszr
          rw [← HZ.out] at hown3
          obtain ⟨A4, c4, rfl⟩ := own_form hown3
          have HO3 := Lib.hid hown3
          have HB3 := Lib.hid (HBB.out.trans (hB2.mono (by omega)))
          have hl2 : (xL l n (kL l n)).length + 1 = (dismL l n).length := by rw [HZ.out, List.length_append]; rfl
          have HL2 := Lib.hid hl2
          clear hown2 hgrow2 hown3 hB2 hl2
          go_wp2_with fail
          go_ret2
          exact RetI.yes HY.out (own_base HO3.out (by omega)) HB3.out
        · have hM : More l n k := Classical.byContradiction fun hno => by
            have hK := kL_eq hn hmore.out (Classical.byContradiction hno)
            have := HONE.out
            unfold coreL' coreB at this
            rw [hK] at this
            omega
          obtain ⟨x, hx1, hx2, hx3, hx4, hx5⟩ := more_x hM
          have HBT := Lib.hid (sB_but hn hM)
          rw [hx1] at HBT
          have HMO : Hid (∀ j, j < k + 1 → More l n j) := fun j hj => by
            by_cases e : j = k
            · subst e; exact hM
            · exact hmore.out j (by omega)
          have hks := szn_sum hn (k + 1) HMO.out
          have hpos : 0 < (nw (cornerB l n (sB l n k)) n).length := (List.getElem?_eq_some_iff.1 hx5).1
          have HXS : Hid (xL l n k ++ [(x : Int)] = xL l n (k + 1)) := by show _ = _; rw [← hx1]; exact xL_succ l n k
          have HC0 := Lib.hid (HCO.out wr _ k hB hset')
          rw [corners_sB HGD.out hn] at HC0
          have HX5 := Lib.hid hx5
          have hnl := nw_len (bitB (sB l n k)) n
          have HL := Lib.hid hnl
          have HRW := Lib.hid hrow
          have HSE := Lib.hid hset
          have HGB := Lib.hid hgb
          have HBB := Lib.hid hB
          have d0 : decide ((1 : Int) < ((nw (bitB (sB l n k)) n).length : Int)) = true := decide_eq_true (by omega)
          obtain ⟨p0, p1, -, -⟩ := hgb.two
          have HWO := Lib.hid (fun (W : World) (hs : Ints W (.slice A1 (nw (bitB (sB l n k)) n).length c1) (nw (bitB (sB l n k)) n)) => l2Without_any _ _ (x : Int) W hs (show (nw (bitB (sB l n k)) n).length ≤ 1048576 by omega))
          rw [HBT.out] at HWO
          clear hx1 hx3 hx4 hx5 hM hset hset' hgb hB hrow hm
          cases gk with
          | zero => omega
          | succ g2 =>
            go_wp2_with fail
            refine HC0.out.mono ?_
            rintro e w4 ⟨A4, c4, rfl, o4, b4⟩
            obtain ⟨_, _, hf, hcc⟩ := Ints.form (Reads.of_own o4)
            cases hf
            obtain ⟨gc, oc, rfl, q0⟩ := hcc 0 _ HX5.out
            rw [Nat.add_zero] at q0
            have hpos' : (0 : Int) < ((nw (cornerB l n (sB l n k)) n).length : Int) := by omega
            have hrow4 := own_below HRW.out b4
            have HS4 := Lib.hid (own_below HSE.out b4)
            have HG4 := Lib.hid (HGB.out.below b4 HGB.out.lt)
            have HB4 := Lib.hid (btrans HBB.out b4)
            have hs4 := HG4.out.lt
            have hs4' : w.heap.size + 1 ≤ w4.heap.size := by omega
            clear hcc o4 b4 p0 p1
            go_wp2_with (at_builtin; refine wpList_append_own _ rfl _ _ 35 rfl (w.heap.size + 1) 3 i0 (.int .i64 0) 1 8 Tryd.underlying35 hi hz0 hz1 hz2 rfl (by decide) _ _ _ rfl (hrow4.alloc _) ⟨w4.heap.size, 0, none⟩ 1 1 [.int .i64 ((x : Int))] rfl rfl (cell_one_new _ _ _) (fun x hx => by simp at hx; subst hx; rfl) (by unfold maxLen; omega) (by omega) (by simp; omega) ?_; intro v2 w2 hown2 hgrow2 _)
            have HS5 := Lib.hid ((HS4.out.alloc _).kept hgrow2 (apart_of HS4.out hob.out))
            obtain ⟨hown3, hB2⟩ := push1 hrow4 hown2 hgrow2 hs4'
            rw [HXS.out] at hown3
            have HG6 := Lib.hid (HG4.out.below hB2 (by omega))
            have HB6 := Lib.hid (HB4.out.trans (hB2.mono (by omega)))
            have HO6 := Lib.hid hown3
            have HW6 := Lib.hid (HWO.out w2 (Reads.of_own HS5.out))
            clear hgrow2 hrow4 hown2 hown3 hB2 q0
            go_wp2_with fail
            refine HW6.out.mono ?_
            rintro e w8 ⟨A8, c8, rfl, o8, b8⟩
            have HOB : Hid (∀ q, v2.ownBlock = some q → q < w2.heap.size) := fun q hq => (HO6.out.lt q hq).2
            go_wp2_with fail
            go_roundg g2
            case measure => omega
            case rel => exact ⟨k + 1, w2.heap.size, _, _, rfl, rfl, by omega, HMO.out, own_below HO6.out b8, o8, HOB.out, HG6.out.below b8 HG6.out.lt, btrans HB6.out b8⟩
    · have HN : Hid (¬ DisP (n : Int) l) := fun h => hone (HD.out.1 h)
      rw [decide_eq_false hone] at HCA
      clear hone
      go_enter Tryd.func14, Tryd.ntmps14
      go_wp2_with fail
      go_region_held3 (fun w' => w'.cell? ⟨w.heap.size, 0, none⟩ = some (.int .i64 (n : Int)) ∧ w'.cell? ⟨w.heap.size, 1, none⟩ = some (.slice A l.length c)) (go_keep)
        (first
          | (go_at_call 20; refine (keepb2 HF.out (fun _ _ h => h.2) (p := ⟨w.heap.size, 0, none⟩) (q := ⟨w.heap.size, 1, none⟩) (a := .int .i64 (n : Int)) (b := .slice A l.length c) ?_ ?_).mono ?_; (simp [*]); (simp [*]); rintro e w4 ⟨⟨rfl, b4⟩, k0, k1⟩; have e4 := btrans HB0.out b4)
          | (go_at_call 27; refine (keepb2 (HAL.out w4) (fun _ _ h => h.below) (p := ⟨w.heap.size, 0, none⟩) (q := ⟨w.heap.size, 1, none⟩) (a := .int .i64 (n : Int)) (b := .slice A l.length c) ?_ ?_).mono ?_; (simp [*]); (simp [*]); rintro e w5 ⟨⟨A5, c5, rfl, o5, b5⟩, k2, k3⟩; have e5 := btrans e4 b5)
          | (go_at_call 26; refine (keepb2 (HCA.out w5 _ e5 (Reads.of_own o5)) (fun _ _ h => h.2) (p := ⟨w.heap.size, 0, none⟩) (q := ⟨w.heap.size, 1, none⟩) (a := .int .i64 (n : Int)) (b := .slice A l.length c) ?_ ?_).mono ?_; (simp [*]); (simp [*]); rintro e w6 ⟨⟨rfl, b6⟩, k4, k5⟩))
      have HE6 := Lib.hid (btrans e5 b6)
      have HO6 := Lib.hid (own_below (own_below HO0.out (Below.refl _ _).drew) (btrans b4 (btrans b5 b6)))
      clear k0 k1 k2 k3 k4 k5 b4 b5 b6 o5 e4 e5 p0 p1
      go_wp2_with fail
      go_ret2
      exact RetI.no HN.out (own_base HO6.out (by omega)) HE6.out
  · rw [okG_no hsm] at HF
    have HN : Hid (¬ DisP s l) := fun h => hsm h.1
    clear hsm
    go_enter Tryd.func14, Tryd.ntmps14
    go_wp2_with fail
    refine wp_region_held_drew (S := (fun w' => w'.cell? ⟨w.heap.size, 0, none⟩ = some (.int .i64 s) ∧ w'.cell? ⟨w.heap.size, 1, none⟩ = some (.slice A l.length c))) (by kernel_rfl) (by (try dsimp only); simp [*]) (fun hHeld => ?_)
    change wpAnyH _ _ _ _ _ _ #[false, false, false, false, false, false, false, false, false, false] _ _
    refine wpAnyH_take (i := 0) (oi := ⟨some 8, _, _, _, _, _⟩) (v := ?_) rfl (by kernel_rfl) (by kernel_rfl) (by kernel_rfl) (fun _ _ _ h => h) (Or.inl ⟨by rfl, ?_⟩) (by assumption) ?_
    rotate_left
    · (intro w hSw; (try dsimp only at hSw); go_simp; (try (with_reducible rfl)))
    try simp only [Act.put, List.setIfInBounds_toArray, List.set_cons_zero, List.set_cons_succ]
    refine wpAnyH_ready (rs := [1]) (by kernel_rfl) (by simp) ?_
    refine AllReadyH.cons (o := ⟨some 9, _, _, _, _, _⟩) rfl (fun K hK => ?_) AllReadyH.nil
    go_simp
    refine (keepb2 HF.out (fun _ _ h => h.2) (p := ⟨w.heap.size, 0, none⟩) (q := ⟨w.heap.size, 1, none⟩) (a := .int .i64 s) (b := .slice A l.length c) ?_ ?_).mono ?_; (simp [*]); (simp [*]); rintro e w4 ⟨⟨rfl, b4⟩, k0, k1⟩
    go_wp2_with fail
    refine hK.out _ _ (by (try dsimp only); simp [*]) (fun hHeld => ?_)
    clear hK K
    try simp only [List.setIfInBounds_toArray, List.set_cons_zero, List.set_cons_succ]
    refine wpAnyH_take (i := 2) (oi := ⟨some 10, _, _, _, _, _⟩) (v := ?_) rfl (by kernel_rfl) (by kernel_rfl) (by kernel_rfl) (fun _ _ _ h => h) (Or.inl ⟨by rfl, ?_⟩) (by assumption) ?_
    rotate_left
    · (intro w hSw; (try dsimp only at hSw); go_simp; (try (with_reducible rfl)))
    try simp only [Act.put, List.setIfInBounds_toArray, List.set_cons_zero, List.set_cons_succ]
    refine wpAnyH_take (i := 3) (oi := ⟨some 11, _, _, _, _, _⟩) (v := ?_) rfl (by kernel_rfl) (by kernel_rfl) (by kernel_rfl) (fun _ _ _ h => h) (Or.inl ⟨by rfl, ?_⟩) (by assumption) ?_
    rotate_left
    · (intro w hSw; (try dsimp only at hSw); go_simp; (try (with_reducible rfl)))
    try simp only [Act.put, List.setIfInBounds_toArray, List.set_cons_zero, List.set_cons_succ]
    refine wpAnyH_take (i := 4) (oi := ⟨some 12, _, _, _, _, _⟩) (v := undef) rfl (by kernel_rfl) (by kernel_rfl) (by kernel_rfl) (fun _ _ _ h => h) (Or.inr ⟨by rfl, rfl⟩) (by assumption) ?_
    try simp only [Act.put, List.setIfInBounds_toArray, List.set_cons_zero, List.set_cons_succ]
    refine wpAnyH_take (i := 5) (oi := ⟨some 13, _, _, _, _, _⟩) (v := undef) rfl (by kernel_rfl) (by kernel_rfl) (by kernel_rfl) (fun _ _ _ h => h) (Or.inr ⟨by rfl, rfl⟩) (by assumption) ?_
    try simp only [Act.put, List.setIfInBounds_toArray, List.set_cons_zero, List.set_cons_succ]
    refine wpAnyH_take (i := 6) (oi := ⟨some 14, _, _, _, _, _⟩) (v := undef) rfl (by kernel_rfl) (by kernel_rfl) (by kernel_rfl) (fun _ _ _ h => h) (Or.inr ⟨by rfl, rfl⟩) (by assumption) ?_
    try simp only [Act.put, List.setIfInBounds_toArray, List.set_cons_zero, List.set_cons_succ]
    refine wpAnyH_take (i := 7) (oi := ⟨some 15, _, _, _, _, _⟩) (v := undef) rfl (by kernel_rfl) (by kernel_rfl) (by kernel_rfl) (fun _ _ _ h => h) (Or.inr ⟨by rfl, rfl⟩) (by assumption) ?_
    try simp only [Act.put, List.setIfInBounds_toArray, List.set_cons_zero, List.set_cons_succ]
    refine wpAnyH_take (i := 8) (oi := ⟨some 16, _, _, _, _, _⟩) (v := undef) rfl (by kernel_rfl) (by kernel_rfl) (by kernel_rfl) (fun _ _ _ h => h) (Or.inr ⟨by rfl, rfl⟩) (by assumption) ?_
    try simp only [Act.put, List.setIfInBounds_toArray, List.set_cons_zero, List.set_cons_succ]
    refine wpAnyH_take (i := 9) (oi := ⟨some 17, _, _, _, _, _⟩) (v := ?_) rfl (by kernel_rfl) (by kernel_rfl) (by kernel_rfl) (fun _ _ _ h => h) (Or.inl ⟨by rfl, ?_⟩) (by assumption) ?_
    rotate_left
    · (intro w hSw; (try dsimp only at hSw); go_simp; (try (with_reducible rfl)))
    try simp only [Act.put, List.setIfInBounds_toArray, List.set_cons_zero, List.set_cons_succ]
    refine wpAnyH_done (by kernel_rfl) ?_ _
    all_goals
      have HE4 := Lib.hid (btrans HB0.out b4)
      have HO4 := Lib.hid (own_below (own_below HO0.out (Below.refl _ _).drew) b4)
      clear k0 k1 b4 p0 p1
      go_wp2_with fail
      go_ret2
      exact RetI.no HN.out (own_base HO4.out (by omega)) HE4.out
end Go.Proofs.YtbdappkhkngdlabDoor.dismO
