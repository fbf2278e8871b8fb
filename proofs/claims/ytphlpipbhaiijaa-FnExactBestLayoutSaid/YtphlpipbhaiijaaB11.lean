/- The best layout: mathematics, and the contract of the program's BestLayout. -/
import Derived.Handy
import Derived.Test.YtphlpipbhaiijaaB10
import Derived.Deep.DeepCutAuto
import Derived.Deep.RegionHeld3
import Derived.Test.YtphlpipbhaiijaaB09
import Derived.Deep.AppendLies
import Derived.Test.YtphlpipbhaiijaaB02
import Derived.Test.YtphlpipbhaiijaaB03
import Derived.Test.YtphlpipbhaiijaaB06
namespace Go.Proofs.Ytphlpipbhaiijaa.costs
open Go.RowKit P2 words edges ints good adjs fns sets rets covs reach bags bitsI fronts
set_option linter.unusedVariables false

/-- the best layout -/
noncomputable def blL (s : Int) (l : List Ed) : List Int := ordL s.toNat (fitV s.toNat (frontC l s.toNat) (pwV s l))
theorem ord_lc0 {n : Nat} {cost : Nat → Nat → Int} {nil v : Int} {C : Nat → Int} (hn : n ≤ 8) (h : LcUp n cost nil 0 C) (hv : v = C 0) (h0 : nil ≤ C 0) :
    ordL n (fitC cost C) = ordL n (fitV n cost v) ∧ (ordN n (fitC cost C) n).isSome = true := by
  subst hv
  have e : ∀ g x, g < 2 ^ n → x < n → g.testBit x = false → fitC cost C g x = fitV n cost (C 0) g x := fun g x hg hx _ => fit_lc hn h h0 hg hx
  refine ⟨ordL_congr e, ?_⟩
  have hch : Ch n cost (C 0) 0 (2 ^ n - 1) := (lc_ch hn h.1 (fun c hc => h.2.1 c (by omega) hc) h0 _ 0 (Nat.two_pow_pos n) (Nat.le_refl _)).1 (Int.le_refl _)
  obtain ⟨g, L, h1, _⟩ := ord_go hch (Nat.le_refl n)
  rw [ordN_congr e, h1]; rfl
theorem ordL_len {n : Nat} {fit : Nat → Nat → Bool} : (ordL n fit).length ≤ n := by
  unfold ordL
  cases h : ordN n fit n with
  | none => simp
  | some s =>
    obtain ⟨g, L⟩ := s
    have := (ordN_ok h).2
    simp; omega
theorem bl_len (s : Int) (l : List Ed) : (inG (P2.Good s l) (blL s l)).length ≤ 1048576 := inG_len fun hp => by
  have := ordL_len (n := s.toNat) (fit := fitV s.toNat (frontC l s.toNat) (pwV s l))
  unfold blL
  have := hp.1; have := hp.2.1; omega
set_option maxHeartbeats 2000000 in
set_option maxRecDepth 100000 in
theorem implLayout_any (s : Int) (v : Value) (l : List Ed) (w : World) (h : Edges w v l) (hl : l.length ≤ 1048576) :
    Calls Try.prog 42 #[.agg #[.int .i64 s, v]] w (RetI w (P2.Good s l) (blL s l)) := by
  obtain ⟨A, c, rfl, -⟩ := h.form
  have H := Lib.hid h
  have b0 : Below w.heap.size w (w.alloc (.cells #[.int .i64 s, .slice A l.length c] 29)) := (Below.refl _ _).alloc (Nat.le_refl _) _
  have g0 := Blk.new w 29 #[.int .i64 s, .slice A l.length c]
  have HG := Lib.hid (implIsGraph_any s _ l _ (h.below b0) hl)
  clear h
  by_cases hgd : P2.Good s l
  · rw [goodB_yes hgd] at HG
    have h0 := hgd.1
    have h8 := hgd.2.1
    obtain ⟨n, rfl⟩ : ∃ n : Nat, s = (n : Int) := ⟨s.toNat, by omega⟩
    have hn : n ≤ 8 := by omega
    have HGD := Lib.hid hgd
    have HLC := Lib.hid (fun (W : World) (b : Nat) (A : Option Addr) (c : Nat) (hc : W.cell? ⟨b, 0, none⟩ = some (.slice A (clos l n).length c)) (hm : Nums W (.slice A (clos l n).length c) (clos l n)) =>
      cheapestOrder_any n b 0 (frontC l n) 138 W hn (by decide) (frontC_le l n hn) (fun _ _ => by kernel_rfl) (fun W' g x hW hg hx _ => by
        have h_ := frontClo_any n x (bitB g) b _ l W' (nearv.cell_keep hc hW) (hm.below hW) hgd hn hx
        rw [num_code hg, front_put] at h_
        exact h_))
    have HPV := Lib.hid (fun (C : Nat → Int) (hC : LcUp n (frontC l n) 0 0 C) => ord_lc0 hn hC (pw_lc hn hC) (hC.pos hn (frontC_pos l n)))
    have HBE : Hid (blL (n : Int) l = ordL n (fitV n (frontC l n) (pwV (n : Int) l))) := by show _ = _; unfold blL; rw [Int.toNat_natCast]
    clear hgd
    go_enter Try.func42, Try.ntmps42
    go_wp2_with fail
    refine HG.out.mono ?_
    rintro e w1 ⟨rfl, b1⟩
    have e1 := btrans b0 b1
    have g1 := g0.below b1 g0.lt
    have HFA := Lib.hid (frontAt_any n (.slice A l.length c) l w1.drew (H.out.below e1.drew) hl HGD.out hn)
    have HE1 := Lib.hid e1
    have HG1 := Lib.hid g1
    clear HG b0 b1 g0 e1
    obtain ⟨p0, p1, -, -⟩ := g1.two
    clear g1
    go_wp2_with fail
    refine wp_region_held_drew (S := (fun w' : World => w'.cell? ⟨w.heap.size, 0, none⟩ = some (.int .i64 (n : Int)) ∧ w'.cell? ⟨w.heap.size, 1, none⟩ = some (.slice A l.length c))) (by kernel_rfl) (by (try dsimp only); simp [*]) (fun hHeld => ?_)
    change wpAnyH _ _ _ _ _ _ #[false, false, false, false, false, false, false, false, false] _ _
    refine wpAnyH_take (i := 0) (oi := ⟨some 7, _, _, _, _, _⟩) (v := ?_) rfl (by kernel_rfl) (by kernel_rfl) (by kernel_rfl) (fun _ _ _ h => h) (Or.inl ⟨by rfl, ?_⟩) (by assumption) ?_
    rotate_left
    · (intro w hSw; (try dsimp only at hSw); go_simp; (try (with_reducible rfl)))
    try simp only [Act.put, List.setIfInBounds_toArray, List.set_cons_zero, List.set_cons_succ]
    refine wpAnyH_take (i := 1) (oi := ⟨some 8, _, _, _, _, _⟩) (v := ?_) rfl (by kernel_rfl) (by kernel_rfl) (by kernel_rfl) (fun _ _ _ h => h) (Or.inl ⟨by rfl, ?_⟩) (by assumption) ?_
    rotate_left
    · (intro w hSw; (try dsimp only at hSw); go_simp; (try (with_reducible rfl)))
    try simp only [Act.put, List.setIfInBounds_toArray, List.set_cons_zero, List.set_cons_succ]
    refine wpAnyH_take (i := 2) (oi := ⟨some 9, _, _, _, _, _⟩) (v := ?_) rfl (by kernel_rfl) (by kernel_rfl) (by kernel_rfl) (fun _ _ _ h => h) (Or.inl ⟨by rfl, ?_⟩) (by assumption) ?_
    rotate_left
    · (intro w hSw; (try dsimp only at hSw); go_simp; (try (with_reducible rfl)))
    try simp only [Act.put, List.setIfInBounds_toArray, List.set_cons_zero, List.set_cons_succ]
    refine wpAnyH_ready (rs := [3]) (by kernel_rfl) (by simp) ?_
    refine AllReadyH.cons (o := ⟨some 10, _, _, _, _, _⟩) rfl (fun K hK => ?_) AllReadyH.nil
    go_simp
    refine HFA.out.mono ?_; rintro e w2 ⟨bf, Af, cf, rfl, hcf, hnf, b2⟩; have d2 : Below w1.heap.size w1 w2 := btrans (Below.refl _ _).drew b2; have HE2 := Lib.hid (btrans HE1.out d2); have HG2 := Lib.hid (HG1.out.below d2 HG1.out.lt); obtain ⟨k0, k1, -, -⟩ := HG2.out.two; have HL2 := Lib.hid (HLC.out w2 bf Af cf hcf hnf); clear hcf hnf b2 d2
    go_wp2_with fail
    refine hK.out _ _ (by (try dsimp only); simp [*]) (fun hHeld => ?_)
    clear hK K
    try simp only [List.setIfInBounds_toArray, List.set_cons_zero, List.set_cons_succ]
    refine wpAnyH_ready (rs := [4]) (by kernel_rfl) (by simp) ?_
    refine AllReadyH.cons (o := ⟨some 11, _, _, _, _, _⟩) rfl (fun K hK => ?_) AllReadyH.nil
    go_simp
    refine HL2.out.mono ?_; rintro e w3 ⟨C, hlc, A9, c9, rfl, o9, b9⟩; obtain ⟨hv1, hv2⟩ := HPV.out C hlc; rw [hv2, hv1]; rw [hv1] at o9; obtain ⟨m0, m1, -, -⟩ := (HG2.out.below b9 HG2.out.lt).two; have HE3 := Lib.hid (btrans HE2.out b9); have HO9 := Lib.hid (own_base o9 HE2.out.size); clear HL2 HLC hlc o9 b9 hv1 hv2
    go_wp2_with fail
    refine hK.out _ _ (by (try dsimp only); simp [*]) (fun hHeld => ?_)
    clear hK K
    try simp only [List.setIfInBounds_toArray, List.set_cons_zero, List.set_cons_succ]
    refine wpAnyH_take (i := 5) (oi := ⟨some 12, _, _, _, _, _⟩) (v := ?_) rfl (by kernel_rfl) (by kernel_rfl) (by kernel_rfl) (fun _ _ _ h => h) (Or.inl ⟨by rfl, ?_⟩) (by assumption) ?_
    rotate_left
    · (intro w hSw; (try dsimp only at hSw); go_simp; (try (with_reducible rfl)))
    try simp only [Act.put, List.setIfInBounds_toArray, List.set_cons_zero, List.set_cons_succ]
    refine wpAnyH_take (i := 6) (oi := ⟨some 13, _, _, _, _, _⟩) (v := ?_) rfl (by kernel_rfl) (by kernel_rfl) (by kernel_rfl) (fun _ _ _ h => h) (Or.inl ⟨by rfl, ?_⟩) (by assumption) ?_
    rotate_left
    · (intro w hSw; (try dsimp only at hSw); go_simp; (try (with_reducible rfl)))
    try simp only [Act.put, List.setIfInBounds_toArray, List.set_cons_zero, List.set_cons_succ]
    refine wpAnyH_take (i := 7) (oi := ⟨some 2, _, _, _, _, _⟩) (v := ?_) rfl (by kernel_rfl) (by kernel_rfl) (by kernel_rfl) (fun _ _ _ h => h) (Or.inl ⟨by rfl, ?_⟩) (by assumption) ?_
    rotate_left
    · (intro w hSw; (try dsimp only at hSw); go_simp; (try (with_reducible rfl)))
    try simp only [Act.put, List.setIfInBounds_toArray, List.set_cons_zero, List.set_cons_succ]
    refine wpAnyH_take (i := 8) (oi := ⟨some 3, _, _, _, _, _⟩) (v := ?_) rfl (by kernel_rfl) (by kernel_rfl) (by kernel_rfl) (fun _ _ _ h => h) (Or.inl ⟨by rfl, ?_⟩) (by assumption) ?_
    rotate_left
    · (intro w hSw; (try dsimp only at hSw); go_simp; (try (with_reducible rfl)))
    try simp only [Act.put, List.setIfInBounds_toArray, List.set_cons_zero, List.set_cons_succ]
    refine wpAnyH_done (by kernel_rfl) ?_ _
    go_wp2_with fail
    go_ret2
    rw [← HBE.out] at HO9 ⊢
    exact RetI.yes HGD.out HO9.out HE3.out
  · rw [goodB_no hgd] at HG
    have HN := Lib.hid hgd
    clear hgd
    go_enter Try.func42, Try.ntmps42
    go_wp2_with fail
    refine HG.out.mono ?_
    rintro e w1 ⟨rfl, b1⟩
    go_wp2_with fail
    go_ret2
    exact RetI.nil HN.out (btrans b0 b1)
end Go.Proofs.Ytphlpipbhaiijaa.costs

/- Layouts: the contracts of IsLayout, of the program and of the model. -/
namespace Go.Proofs.Ytphlpipbhaiijaa.bags
open Go.RowKit P2 words edges ints good adjs fns sets rets covs each
set_option linter.unusedVariables false

theorem retBB' {a b c d : Bool} (h : a = c) (h2 : b = d) : Ending.returned (.tuple #[.bool a, .bool b]) = .returned (.tuple #[.bool c, .bool d]) := by rw [h, h2]
/-- the model's two tests ahead: valid, and a layout: for any function that begins so -/
theorem elim_each {n : Nat} {l : List Ed} {tl : List Int} (hg : P2.Good (n : Int) l) : okG (EachS n tl) = okG (ElimOk (n : Int) l tl) := by
  rw [Bool.eq_iff_iff, okG_iff, okG_iff]
  unfold ElimOk
  rw [Int.toNat_natCast]
  exact ⟨fun h => ⟨hg, h⟩, fun h => h.2⟩
end Go.Proofs.Ytphlpipbhaiijaa.bags

/- The contract of the model's FrontSizes. -/
namespace Go.Proofs.Ytphlpipbhaiijaa.fronts
open Go.RowKit P2 words edges ints good adjs fns sets rets covs reach bags balls each mids
set_option linter.unusedVariables false

theorem keep_al {w : World} {p : Addr} {v : Value} {o : Obj} (h : w.cell? p = some v) : (w.alloc o).cell? p = some v :=
  ((Below.refl w.heap.size w).alloc (Nat.le_refl _) o |>.cell (p := p) (World.block_lt_of_cell? w p h)).trans h
end Go.Proofs.Ytphlpipbhaiijaa.fronts

/- The contracts of the model's l6Widths, l6Pathwidth and PathwidthOf. -/
namespace Go.Proofs.Ytphlpipbhaiijaa.costs
open Go.RowKit P2 words edges ints good adjs fns sets rets covs reach bags balls bitsI fronts mids minmax
set_option linter.unusedVariables false

set_option maxHeartbeats 4000000 in
set_option maxRecDepth 100000 in
theorem l6Widths_any (n : Nat) (v : Value) (l : List Ed) (w : World) (h : Edges w v l) (hl : l.length ≤ 1048576) (hn : n ≤ 8) :
    Calls Try.prog 137 #[.agg #[.int .i64 (n : Int), v]] w fun e w' => ∃ A c W, e = .returned (.slice A (2 ^ n) c) ∧ w'.ownsRow w.heap.size 3 1 (.slice A (2 ^ n) c) (2 ^ n) (cellsI (rowF (2 ^ n) W)) ∧ WUp n (frontC l n) (2 ^ n) W ∧ Below w.heap.size w w' := by
  obtain ⟨i0, hi, hz0, hz1, hz2⟩ := info_parts infoInt
  obtain ⟨A, c, rfl, -⟩ := h.form
  have hp := pow8 hn
  have hp0 := Nat.two_pow_pos n
  obtain ⟨N, hN⟩ : ∃ N, N = 2 ^ n := ⟨_, rfl⟩
  have hsh : IntKind.i64.wrap ((2 : Int) ^ n) = (N : Int) := by
    rw [hN, show ((2 : Int) ^ n) = ((2 ^ n : Nat) : Int) from by simp]
    exact IntWalk.i64_in _ (by omega)
  rw [← hN] at hp hp0 ⊢
  have HN := Lib.hid hN
  have H := Lib.hid h
  have hb0 : Below w.heap.size w ((w.alloc (.cells #[.int .i64 (n : Int), .slice A l.length c] 29)).alloc (.cells #[.int .i64 0] 3)) := ((Below.refl _ _).alloc (Nat.le_refl _) _).alloc (by simp) _
  have HE0 := Lib.hid hb0
  have HG0 := Lib.hid ((Blk.new w 29 #[.int .i64 (n : Int), .slice A l.length c]).alloc (.cells #[.int .i64 0] 3))
  have ho0 := World.ownsRow_lit (base := w.heap.size + 1) (e := 3) (size := 1) (w.alloc (.cells #[.int .i64 (n : Int), .slice A l.length c] 29)) #[Value.int .i64 0] 1 (by simp) (by unfold maxLen; omega) rfl
  rw [World.size_alloc] at ho0
  have HO0 : Hid (((w.alloc (.cells #[.int .i64 (n : Int), .slice A l.length c] 29)).alloc (.cells #[.int .i64 0] 3)).ownsRow (w.heap.size + 1) 3 1 (.slice (some ⟨w.heap.size + 1, 0, none⟩) 1 1) 1 (cellsI (rowF 1 (fun _ => 0)))) := ho0
  obtain ⟨w0, hw0⟩ : ∃ w0, w0 = ((w.alloc (.cells #[.int .i64 (n : Int), .slice A l.length c] 29)).alloc (.cells #[.int .i64 0] 3)) := ⟨_, rfl⟩
  have hn0 : (0 : Int) ≤ (n : Int) := by omega
  rw [← hw0] at HO0 HE0 HG0
  have HW0 := Lib.hid hw0
  clear h hb0 ho0 hN hw0
  go_enter Try.func137, Try.ntmps137
  go_wp2_with fail
  rw [← HW0.out]
  have hsz0 : w.heap.size + 1 ≤ w0.heap.size := by have := HG0.out.lt; omega
  clear HW0
  go_loopg [3, 4] (N - 1) (fun g ov iv wr => ∃ (k : Nat) (ow : Value) (W : Nat → Int), ow = ov ∧ k + g = N ∧ Hid (1 ≤ k) ∧ iv = .int .i64 (k : Int) ∧ wr.ownsRow (w.heap.size + 1) 3 1 ow k (cellsI (rowF k W)) ∧ Hid (WUp n (frontC l n) k W) ∧ Below (w.heap.size + 1) w0 wr)
  case atStart => exact ⟨1, _, _, rfl, by omega, Lib.hid (Nat.le_refl _), rfl, HO0.out, WUp.start _ _, Below.refl _ _⟩
  case round =>
    clear HO0
    obtain ⟨k, ow, W, rfl, hkg, hk1, rfl, hrow, hwu, hB⟩ := hrel
    obtain ⟨A6, c6, rfl⟩ := own_form hrow
    have hgb := HG0.out.below hB (by omega)
    have hsz := hB.size
    obtain ⟨p0, p1, -, -⟩ := hgb.two
    cases gk with
    | zero =>
      obtain rfl : k = N := by omega
      have HR := Lib.hid (own_base hrow (by omega : w.heap.size ≤ w.heap.size + 1))
      have HB := Lib.hid (HE0.out.trans (hB.mono (by omega)))
      clear hrow hB hgb
      go_wp2_with fail
      go_ret
      exact ⟨A6, c6, W, rfl, HR.out, hwu.out, HB.out⟩
    | succ g2 =>
      have hkN : k < N := by omega
      have hkN' : (k : Int) < (N : Int) := by omega
      obtain ⟨g6, rfl⟩ := own_lit hrow hk1.out
      have HR := Lib.hid hrow
      have HG := Lib.hid hgb
      have HB := Lib.hid hB
      have HPOS : Hid (∀ y, k.testBit y = true → y < n → 0 ≤ W (k - 2 ^ y)) := fun y _ _ => (hwu.out.2.2 (k - 2 ^ y) (Nat.sub_lt hk1.out (Nat.two_pow_pos y))).1
      clear hrow hgb hB
      obtain ⟨wo, hwo⟩ : ∃ wo, wo = wr := ⟨_, rfl⟩
      subst hwo
      go_wp2_with fail
      go_loopg [5, 6] n (fun g bv xv wr => ∃ (x : Nat) (b : Int), x + g = n ∧ xv = .int .i64 (x : Int) ∧ bv = .int .i64 b ∧ Hid (BtAt n W k x b) ∧ wo = wr)
      case atStart => exact ⟨0, -1, by omega, rfl, rfl, BtAt.start n W k, rfl⟩
      case round =>
        obtain ⟨x, b, hxg, rfl, rfl, hbt, rfl⟩ := hrel
        cases gk with
        | zero =>
          obtain rfl : x = n := by omega
          have HBI := Lib.hid (fun (W' : World) => l2Bits_any x k W' hn (by omega))
          have HFR := Lib.hid (fun (W' : World) (u : Value) (hW : Below w0.heap.size w0 W' ∨ Below (w.heap.size + 1) w0 W') (hu : Ints W' u (nw (bitB k) x)) => l6Front_any x (.slice A l.length c) u l (nw (bitB k) x) W' (H.out.below (by
            rcases hW with h_ | h_
            · exact btrans HE0.out h_
            · exact HE0.out.trans (h_.mono (by omega)))) hl hu (by have := nw_len (bitB k) x; omega) hn (fun y hy => by obtain ⟨j, h1, _, rfl⟩ := mem_nw.1 hy; omega))
          have HFL := Lib.hid (fro_code l x k)
          have hl8 : (froL x l (nw (bitB k) x)).length ≤ x := nw_len _ _
          have HMO := Lib.hid (fun (W' : World) => l1Most_any b ((froL x l (nw (bitB k) x)).length : Int) W')
          have HUP := Lib.hid (WUp.succ hn hwu.out hk1.out (by have := HN.out; omega) hbt.out)
          rw [← HFL.out] at HUP
          have HAPP := Lib.hid (rowF_app k W (max b ((froL x l (nw (bitB k) x)).length : Int)))
          clear hbt hwu HPOS
          generalize froL x l (nw (bitB k) x) = fl at *
          go_wp2_with fail
          refine wp_region_held_drew (S := (fun w' : World => w'.cell? ⟨w.heap.size, 0, none⟩ = some (.int .i64 (x : Int)) ∧ w'.cell? ⟨w.heap.size, 1, none⟩ = some (.slice A l.length c))) (by kernel_rfl) (by (try dsimp only); simp [*]) (fun hHeld => ?_)
          change wpAnyH _ _ _ _ _ _ #[false, false, false, false, false, false, false, false, false, false, false, false, false] _ _
          refine wpAnyH_take (i := 0) (oi := ⟨some 48, _, _, _, _, _⟩) (v := ?_) rfl (by kernel_rfl) (by kernel_rfl) (by kernel_rfl) (fun _ _ _ h => h) (Or.inl ⟨by rfl, ?_⟩) (by assumption) ?_
          rotate_left
          · (intro w hSw; (try dsimp only at hSw); go_simp; (try (with_reducible rfl)))
          try simp only [Act.put, List.setIfInBounds_toArray, List.set_cons_zero, List.set_cons_succ]
          refine wpAnyH_take (i := 1) (oi := ⟨some 49, _, _, _, _, _⟩) (v := ?_) rfl (by kernel_rfl) (by kernel_rfl) (by kernel_rfl) (fun _ _ _ h => h) (Or.inl ⟨by rfl, ?_⟩) (by assumption) ?_
          rotate_left
          · (intro w hSw; (try dsimp only at hSw); go_simp; (try (with_reducible rfl)))
          try simp only [Act.put, List.setIfInBounds_toArray, List.set_cons_zero, List.set_cons_succ]
          refine wpAnyH_take (i := 2) (oi := ⟨some 50, _, _, _, _, _⟩) (v := ?_) rfl (by kernel_rfl) (by kernel_rfl) (by kernel_rfl) (fun _ _ _ h => h) (Or.inl ⟨by rfl, ?_⟩) (by assumption) ?_
          rotate_left
          · (intro w hSw; (try dsimp only at hSw); go_simp; (try (with_reducible rfl)))
          try simp only [Act.put, List.setIfInBounds_toArray, List.set_cons_zero, List.set_cons_succ]
          refine wpAnyH_take (i := 3) (oi := ⟨some 51, _, _, _, _, _⟩) (v := ?_) rfl (by kernel_rfl) (by kernel_rfl) (by kernel_rfl) (fun _ _ _ h => h) (Or.inl ⟨by rfl, ?_⟩) (by assumption) ?_
          rotate_left
          · (intro w hSw; (try dsimp only at hSw); go_simp; (try (with_reducible rfl)))
          try simp only [Act.put, List.setIfInBounds_toArray, List.set_cons_zero, List.set_cons_succ]
          refine wpAnyH_take (i := 4) (oi := ⟨some 52, _, _, _, _, _⟩) (v := ?_) rfl (by kernel_rfl) (by kernel_rfl) (by kernel_rfl) (fun _ _ _ h => h) (Or.inl ⟨by rfl, ?_⟩) (by assumption) ?_
          rotate_left
          · (intro w hSw; (try dsimp only at hSw); go_simp; (try (with_reducible rfl)))
          try simp only [Act.put, List.setIfInBounds_toArray, List.set_cons_zero, List.set_cons_succ]
          refine wpAnyH_take (i := 5) (oi := ⟨some 53, _, _, _, _, _⟩) (v := ?_) rfl (by kernel_rfl) (by kernel_rfl) (by kernel_rfl) (fun _ _ _ h => h) (Or.inl ⟨by rfl, ?_⟩) (by assumption) ?_
          rotate_left
          · (intro w hSw; (try dsimp only at hSw); go_simp; (try (with_reducible rfl)))
          try simp only [Act.put, List.setIfInBounds_toArray, List.set_cons_zero, List.set_cons_succ]
          refine wpAnyH_ready (rs := [6]) (by kernel_rfl) (by simp) ?_
          refine AllReadyH.cons (o := ⟨some 54, _, _, _, _, _⟩) rfl (fun K hK => ?_) AllReadyH.nil
          go_simp
          refine (HBI.out _).mono ?_; rintro e w3 ⟨A5, c5, rfl, o5, b5⟩; have d3 : Below wo.heap.size wo w3 := btrans (Below.refl _ _).drew b5; have HG3 := Lib.hid (HG.out.below d3 HG.out.lt); have HR3 := Lib.hid (own_below HR.out d3); obtain ⟨k0, k1, -, -⟩ := HG3.out.two; have HE3 := Lib.hid (HB.out.trans (d3.mono (by omega))); have HF3 := Lib.hid (HFR.out w3 _ (.inr HE3.out) (Reads.of_own o5))
          go_wp2_with fail
          refine hK.out _ _ (by (try dsimp only); simp [*]) (fun hHeld => ?_)
          clear hK K
          try simp only [List.setIfInBounds_toArray, List.set_cons_zero, List.set_cons_succ]
          refine wpAnyH_ready (rs := [7]) (by kernel_rfl) (by simp) ?_
          refine AllReadyH.cons (o := ⟨some 55, _, _, _, _, _⟩) rfl (fun K hK => ?_) AllReadyH.nil
          go_simp
          refine HF3.out.mono ?_; rintro e w4 ⟨A7, c7, rfl, o7, b7⟩; have HG4 := Lib.hid (HG3.out.below b7 HG3.out.lt); have HR4 := Lib.hid (own_below HR3.out b7); obtain ⟨k2, k3, -, -⟩ := HG4.out.two; have HE4 := Lib.hid (HE3.out.trans (b7.mono (by have := HE3.out.size; omega))); have hs4 := HE4.out.size
          go_wp2_with fail
          refine hK.out _ _ (by (try dsimp only); simp [*]) (fun hHeld => ?_)
          clear hK K
          try simp only [List.setIfInBounds_toArray, List.set_cons_zero, List.set_cons_succ]
          refine wpAnyH_take (i := 8) (oi := ⟨some 56, _, _, _, _, _⟩) (v := ?_) rfl (by kernel_rfl) (by kernel_rfl) (by kernel_rfl) (fun _ _ _ h => h) (Or.inl ⟨by rfl, ?_⟩) (by assumption) ?_
          rotate_left
          · (intro w hSw; (try dsimp only at hSw); go_simp; (try (with_reducible rfl)))
          try simp only [Act.put, List.setIfInBounds_toArray, List.set_cons_zero, List.set_cons_succ]
          refine wpAnyH_ready (rs := [9]) (by kernel_rfl) (by simp) ?_
          refine AllReadyH.cons (o := ⟨some 57, _, _, _, _, _⟩) rfl (fun K hK => ?_) AllReadyH.nil
          go_simp
          refine (HMO.out _).mono ?_; rintro e w' ⟨rfl, rfl⟩
          go_wp2_with fail
          refine hK.out _ _ (by (try dsimp only); simp [*]) (fun hHeld => ?_)
          clear hK K
          try simp only [List.setIfInBounds_toArray, List.set_cons_zero, List.set_cons_succ]
          refine wpAnyH_ready (rs := [10]) (by kernel_rfl) (by simp) ?_
          refine AllReadyH.cons rfl (fun K hK => ?_) AllReadyH.nil
          go_simp
          refine hK.out _ _ (⟨keep_al k2, keep_al k3⟩) (fun hHeld => ?_)
          clear hK K
          try simp only [List.setIfInBounds_toArray, List.set_cons_zero, List.set_cons_succ]
          refine wpAnyH_ready (rs := [11]) (by kernel_rfl) (by simp) ?_
          refine AllReadyH.cons rfl (fun K hK => ?_) AllReadyH.nil
          (refine step_append_lies _ rfl (.tmp 48) (.tmp 58) 25 rfl (w.heap.size + 1) 3 i0 (.int .i64 0) 1 8 Try.underlying25 hi hz0 hz1 hz2 rfl (by decide) (.slice (some ⟨g6, 0, none⟩) k c6) k (cellsI (rowF k W)) rfl (HR4.out.alloc _) ⟨w4.heap.size, 0, none⟩ 1 1 [.int .i64 (max b (fl.length : Int))] rfl rfl (cell_one_new _ _ _) (fun x hx => by simp at hx; subst hx; rfl) (by decide) (by unfold maxLen; omega) (by omega) (by simp; omega) (w4.heap.size + 1) (by simp) ?_; intro g8 cap8 w8 hown8 hgrow8 lies8 lt8; have hG8 := (HG4.out.alloc (.cells #[.int .i64 (max b (fl.length : Int))] 3)).grown hgrow8 (fun e => own_ne HR4.out HG4.out (by decide) e.symm); obtain ⟨k4, k5, -, -⟩ := hG8.two)
          refine hK.out _ _ (⟨k4, k5⟩) (fun hHeld => ?_)
          clear hK K
          try simp only [Act.put, List.setIfInBounds_toArray, List.set_cons_zero, List.set_cons_succ]
          refine wpAnyH_take (i := 12) (oi := ⟨some 3, _, _, _, _, _⟩) (v := ?_) rfl (by kernel_rfl) (by kernel_rfl) (by kernel_rfl) (fun _ _ _ h => h) (Or.inl ⟨by rfl, ?_⟩) (by assumption) ?_
          rotate_left
          · (intro w hSw; (try dsimp only at hSw); go_simp; (try (with_reducible rfl)))
          try simp only [Act.put, List.setIfInBounds_toArray, List.set_cons_zero, List.set_cons_succ]
          refine wpAnyH_done (by kernel_rfl) ?_ _
          have HRL := Lib.hid (rowF_len k W)
          have HO8 : Hid (w8.ownsRow (w.heap.size + 1) 3 1 (.slice (some ⟨g8, 0, none⟩) (k + 1) cap8) (k + 1) (cellsI (rowF (k + 1) (upd W k (max b (fl.length : Int)))))) := by
            show World.ownsRow _ _ _ _ _ _ _
            rw [HAPP.out, cellsI_app]
            exact hown8
          have HB8 := Lib.hid (HE4.out.trans (((Below.refl (w.heap.size + 1) w4).alloc (by omega) (.cells #[.int .i64 (max b (fl.length : Int))] 3)).grown hgrow8 (by simp; omega) (fun j e => (HR4.out.lt j e).1)))
          clear hG8 hown8 hgrow8 lies8 lt8 k0 k1 k2 k3 k4 k5 p0 p1 b5 b7 d3 hHeld
          go_wp2_with fail
          go_roundg g2
          case measure => omega
          case rel => exact ⟨k + 1, _, _, rfl, by omega, Lib.hid (by omega), by go_num, HO8.out, HUP, HB8.out⟩
        | succ g4 =>
          have hlt : x < n := by omega
          have hlt' : (x : Int) < (n : Int) := by omega
          have hb0 := bit_walk k x
          cases hbit : bitB k x with
          | false =>
            have HP := Lib.hid (hbt.out.skip hbit)
            rw [hbit] at hb0
            clear hbit hbt
            go_wp2_with fail
            go_roundg g4
            case measure => omega
            case rel => exact ⟨x + 1, b, by omega, by go_num, rfl, HP, rfl⟩
          | true =>
            rw [hbit] at hb0
            have hx8 : x < 8 := by omega
            have hsub := sub_le (by omega : k < 256) hx8 hbit
            have hPx := Nat.two_pow_pos x
            have hsx : IntKind.i64.wrap ((2 : Int) ^ x) = ((2 ^ x : Nat) : Int) := by
              rw [show ((2 : Int) ^ x) = ((2 ^ x : Nat) : Int) from by simp]
              exact IntWalk.i64_in _ (by omega)
            have HTK := Lib.hid (fun (hl : b < 0 ∨ W (k - 2 ^ x) < b) => hbt.out.take hlt hbit hl HPOS.out)
            have HKP := Lib.hid (fun (h0 : ¬ b < 0) (hl : ¬ W (k - 2 ^ x) < b) => BtAt.keep (x := x) hbt.out h0 hl)
            have f1 := HR.out.cellAt (k - 2 ^ x) (by omega)
            rw [cellsI_at (rowF_at (by omega))] at f1
            obtain ⟨P, hP⟩ : ∃ P, P = 2 ^ x := ⟨_, rfl⟩
            rw [← hP] at hsub hPx hsx HTK HKP f1
            obtain ⟨q, hq⟩ : ∃ q, q = k - P := ⟨_, rfl⟩
            rw [← hq] at HTK HKP f1
            have hs1 : (k : Int) - (P : Int) = (q : Int) := by omega
            have hs2 : IntKind.i64.wrap ((k : Int) - (P : Int)) = (q : Int) := by rw [hs1]; exact IntWalk.i64_in _ (by omega)
            have hq1 : (q : Int) < (k : Int) := by omega
            have hq0 : (0 : Int) ≤ (q : Int) := by omega
            generalize W q = u at *
            clear hbit hbt hP hq
            by_cases hl0 : b < 0
            · have HP := Lib.hid (HTK.out (.inl hl0))
              go_wp2_with fail
              go_roundg g4
              case measure => omega
              case rel => exact ⟨x + 1, u, by omega, by go_num, rfl, HP, rfl⟩
            · by_cases hl1 : u < b
              · have HP := Lib.hid (HTK.out (.inr hl1))
                go_wp2_with fail
                go_roundg g4
                case measure => omega
                case rel => exact ⟨x + 1, u, by omega, by go_num, rfl, HP, rfl⟩
              · have HP := Lib.hid (HKP.out hl0 hl1)
                go_wp2_with fail
                go_roundg g4
                case measure => omega
                case rel => exact ⟨x + 1, b, by omega, by go_num, rfl, HP, rfl⟩
set_option maxHeartbeats 1000000 in
set_option maxRecDepth 100000 in
theorem l6Pathwidth_any (n : Nat) (v : Value) (l : List Ed) (w : World) (h : Edges w v l) (hl : l.length ≤ 1048576) (hn : n ≤ 8) :
    Calls Try.prog 87 #[.agg #[.int .i64 (n : Int), v]] w fun e w' => e = .returned (.int .i64 (pwV (n : Int) l)) ∧ Below w.heap.size w w' := by
  obtain ⟨A, c, rfl, -⟩ := h.form
  have hp := pow8 hn
  have hp0 := Nat.two_pow_pos n
  have b0 : Below w.heap.size w (w.alloc (.cells #[.int .i64 (n : Int), .slice A l.length c] 29)) := (Below.refl _ _).alloc (Nat.le_refl _) _
  have g0 := Blk.new w 29 #[.int .i64 (n : Int), .slice A l.length c]
  have HW := Lib.hid (fun (W : World) (hW : Below w.heap.size w W) => l6Widths_any n (.slice A l.length c) l W (h.below hW) hl hn)
  have HPW := Lib.hid (fun (W : Nat → Int) (hW : WUp n (frontC l n) (2 ^ n) W) => pw_w hn hW)
  have hsh0 : ((2 : Int) ^ n) = ((2 ^ n : Nat) : Int) := by simp
  obtain ⟨N, hN⟩ : ∃ N, N = 2 ^ n := ⟨_, rfl⟩
  rw [← hN] at hp hp0 HW HPW hsh0
  have hsh : IntKind.i64.wrap ((2 : Int) ^ n) = (N : Int) := by rw [hsh0]; exact IntWalk.i64_in _ (by omega)
  have hN1 : (N : Int) - 1 = ((N - 1 : Nat) : Int) := by omega
  have hN2 : IntKind.i64.wrap ((N - 1 : Nat) : Int) = ((N - 1 : Nat) : Int) := IntWalk.i64_in _ (by omega)
  have hN3 : ((N - 1 : Nat) : Int) < (N : Int) := by omega
  have HB0 := Lib.hid b0
  have HG0 := Lib.hid g0
  have hn0 : (0 : Int) ≤ (n : Int) := by omega
  clear h b0 hN hsh0
  go_enter Try.func87, Try.ntmps87
  obtain ⟨p0, p1, -, -⟩ := g0.two
  clear g0
  have HW1 := Lib.hid (HW.out _ HB0.out.drew)
  go_wp2_with fail
  refine wp_region_held_drew (S := (fun w' : World => w'.cell? ⟨w.heap.size, 0, none⟩ = some (.int .i64 (n : Int)) ∧ w'.cell? ⟨w.heap.size, 1, none⟩ = some (.slice A l.length c))) (by kernel_rfl) (by (try dsimp only); simp [*]) (fun hHeld => ?_)
  change wpAnyH _ _ _ _ _ _ #[false, false, false, false, false, false, false, false, false] _ _
  refine wpAnyH_take (i := 0) (oi := ⟨some 3, _, _, _, _, _⟩) (v := ?_) rfl (by kernel_rfl) (by kernel_rfl) (by kernel_rfl) (fun _ _ _ h => h) (Or.inl ⟨by rfl, ?_⟩) (by assumption) ?_
  rotate_left
  · (intro w hSw; (try dsimp only at hSw); go_simp; (try (with_reducible rfl)))
  try simp only [Act.put, List.setIfInBounds_toArray, List.set_cons_zero, List.set_cons_succ]
  refine wpAnyH_take (i := 2) (oi := ⟨some 5, _, _, _, _, _⟩) (v := ?_) rfl (by kernel_rfl) (by kernel_rfl) (by kernel_rfl) (fun _ _ _ h => h) (Or.inl ⟨by rfl, ?_⟩) (by assumption) ?_
  rotate_left
  · (intro w hSw; (try dsimp only at hSw); go_simp; (try (with_reducible rfl)))
  try simp only [Act.put, List.setIfInBounds_toArray, List.set_cons_zero, List.set_cons_succ]
  refine wpAnyH_take (i := 3) (oi := ⟨some 6, _, _, _, _, _⟩) (v := ?_) rfl (by kernel_rfl) (by kernel_rfl) (by kernel_rfl) (fun _ _ _ h => h) (Or.inl ⟨by rfl, ?_⟩) (by assumption) ?_
  rotate_left
  · (intro w hSw; (try dsimp only at hSw); go_simp; (try (with_reducible rfl)))
  try simp only [Act.put, List.setIfInBounds_toArray, List.set_cons_zero, List.set_cons_succ]
  refine wpAnyH_take (i := 4) (oi := ⟨some 7, _, _, _, _, _⟩) (v := ?_) rfl (by kernel_rfl) (by kernel_rfl) (by kernel_rfl) (fun _ _ _ h => h) (Or.inl ⟨by rfl, ?_⟩) (by assumption) ?_
  rotate_left
  · (intro w hSw; (try dsimp only at hSw); go_simp; (try (with_reducible rfl)))
  try simp only [Act.put, List.setIfInBounds_toArray, List.set_cons_zero, List.set_cons_succ]
  refine wpAnyH_take (i := 5) (oi := ⟨some 8, _, _, _, _, _⟩) (v := ?_) rfl (by kernel_rfl) (by kernel_rfl) (by kernel_rfl) (fun _ _ _ h => h) (Or.inl ⟨by rfl, ?_⟩) (by assumption) ?_
  rotate_left
  · (intro w hSw; (try dsimp only at hSw); go_simp; (try (with_reducible rfl)))
  try simp only [Act.put, List.setIfInBounds_toArray, List.set_cons_zero, List.set_cons_succ]
  refine wpAnyH_ready (rs := [1]) (by kernel_rfl) (by simp) ?_
  refine AllReadyH.cons (o := ⟨some 4, _, _, _, _, _⟩) rfl (fun K hK => ?_) AllReadyH.nil
  go_simp
  refine HW1.out.mono ?_; rintro e w2 ⟨A9, c9, C, rfl, o9, hwu, b9⟩; have HPV := Lib.hid (HPW.out C hwu); have d2 : Below w.heap.size w w2 := btrans HB0.out (btrans (Below.refl _ _).drew b9); have HE2 := Lib.hid d2; obtain ⟨k0, k1, -, -⟩ := (HG0.out.below (btrans (Below.refl _ _).drew b9) HG0.out.lt).two; obtain ⟨g9, rfl⟩ := own_lit o9 hp0; have f9 := o9.cellAt (N - 1) (by omega); rw [cellsI_at (rowF_at (by omega))] at f9; clear o9 b9 d2 hwu
  go_wp2_with fail
  refine hK.out _ _ (by (try dsimp only); simp [*]) (fun hHeld => ?_)
  clear hK K
  try simp only [List.setIfInBounds_toArray, List.set_cons_zero, List.set_cons_succ]
  refine wpAnyH_take (i := 6) (oi := ⟨some 9, _, _, _, _, _⟩) (v := ?_) rfl (by kernel_rfl) (by kernel_rfl) (by kernel_rfl) (fun _ _ _ h => h) (Or.inl ⟨by rfl, ?_⟩) (by assumption) ?_
  rotate_left
  · (intro w hSw; (try dsimp only at hSw); go_simp; (try (with_reducible rfl)))
  try simp only [Act.put, List.setIfInBounds_toArray, List.set_cons_zero, List.set_cons_succ]
  refine wpAnyH_ready (rs := [7]) (by kernel_rfl) (by simp) ?_
  refine AllReadyH.cons rfl (fun K hK => ?_) AllReadyH.nil
  go_simp
  refine hK.out _ _ (⟨k0, k1⟩) (fun hHeld => ?_)
  clear hK K
  try simp only [List.setIfInBounds_toArray, List.set_cons_zero, List.set_cons_succ]
  refine wpAnyH_take (i := 8) (oi := ⟨some 2, _, _, _, _, _⟩) (v := ?_) rfl (by kernel_rfl) (by kernel_rfl) (by kernel_rfl) (fun _ _ _ h => h) (Or.inl ⟨by rfl, ?_⟩) (by assumption) ?_
  rotate_left
  · (intro w hSw; (try dsimp only at hSw); go_simp; (try (with_reducible rfl)))
  try simp only [Act.put, List.setIfInBounds_toArray, List.set_cons_zero, List.set_cons_succ]
  refine wpAnyH_done (by kernel_rfl) ?_ _
  go_wp2_with fail
  go_ret
  exact ⟨ret_int HPV.out.symm, HE2.out⟩
end Go.Proofs.Ytphlpipbhaiijaa.costs

/- The contracts of the model's l3Sign and l1Own. -/
namespace Go.Proofs.Ytphlpipbhaiijaa.times
open Go.RowKit P2 words edges ints good adjs fns sets rets apps
set_option linter.unusedVariables false

set_option maxHeartbeats 1000000 in
theorem l1Own_any (u : Value) (xs : List Int) (w : World) (hu : Ints w u xs) (hxl : xs.length ≤ 1048576) : Calls Try.prog 136 #[u] w (RowI w xs) := by
  obtain ⟨i0, hi, hz0, hz1, hz2⟩ := info_parts infoInt
  obtain ⟨A2, c2, rfl, -⟩ := hu.form
  have HR : Hid (Ints (w.alloc (.cells #[] 3)) (.slice A2 xs.length c2) xs) := hu.below ((Below.refl _ _).alloc (Nat.le_refl _) _)
  have HO := Lib.hid (own_new0 w 3 1)
  have HB : Hid (Below w.heap.size w (w.alloc (.cells #[] 3))) := (Below.refl _ _).alloc (Nat.le_refl _) _
  have hcl : Hid ((cellsI xs).length = xs.length * 1) := by show _ = _; simp [cellsI]
  clear hu
  go_enter Try.func136, Try.ntmps136
  go_wp2_with (at_builtin; refine wpList_append_any _ rfl (.tmp 3) (.tmp 4) 25 rfl w.heap.size 3 i0 (.int .i64 0) 1 8 Try.underlying25 hi hz0 hz1 hz2 rfl (by decide) _ _ _ rfl HO.out (.slice A2 xs.length c2) xs.length (cellsI xs) rfl HR.out hcl.out (oneI _) (by unfold maxLen; omega) (by omega) (by simp) ?_; intro v2 w4 o4 gr4)
  rw [Nat.zero_add, List.nil_append] at o4
  obtain ⟨A4, c4, rfl⟩ := own_form o4
  have HB4 := Lib.hid (HB.out.grown gr4 (by simp) (fun j e => (HO.out.lt j e).1))
  have HO4 := Lib.hid o4
  clear gr4 o4
  go_wp2_with fail
  go_ret
  exact ⟨A4, c4, by simp, HO4.out, HB4.out⟩
end Go.Proofs.Ytphlpipbhaiijaa.times

/- The best layout: the contracts of the model's l6Search and BestLayout. -/
namespace Go.Proofs.Ytphlpipbhaiijaa.costs
open Go.RowKit P2 words edges ints good adjs fns sets rets covs reach bags balls bitsI fronts
set_option linter.unusedVariables false

/-- what comes behind a set, k nodes of it, node by node the first one that fits -/
noncomputable def greL (n : Nat) (fit : Nat → Nat → Bool) : Nat → Nat → List Int
  | 0, _ => []
  | k + 1, c => match (nw (fitB fit c) n)[0]? with
    | some x => x :: greL n fit k (c ||| 2 ^ x.toNat)
    | none => []
theorem greL_step {n k c z : Nat} {fit : Nat → Nat → Bool} (hz : z < n) (hf : fitB fit c z = true) (hm : ∀ y, y < z → fitB fit c y = false) : greL n fit (k + 1) c = (z : Int) :: greL n fit k (c ||| 2 ^ z) := by
  rw [greL, nw_head hz hf hm]
  simp
theorem gre_ord {n : Nat} {cost : Nat → Nat → Int} {u : Int} : ∀ {j k g : Nat} {L : List Int}, j + k = n → ordN n (fitV n cost u) k = some (g, L) → Ch n cost u g (2 ^ n - 1) → ordL n (fitV n cost u) = L ++ greL n (fitV n cost u) j g
  | 0, k, g, L, hjk, h, hch => by
    obtain rfl : k = n := by omega
    unfold ordL
    rw [h]; simp [greL]
  | j + 1, k, g, L, hjk, h, hch => by
    obtain ⟨z, hz, hb, hf, hm, h2, h3⟩ := ord_next h hch (by omega)
    rw [gre_ord (j := j) (by omega) h2 h3, greL_step hz (by unfold fitB; rw [hb, hf]; rfl) hm]
    simp
theorem gre_len {n : Nat} {fit : Nat → Nat → Bool} : ∀ {k c : Nat}, (greL n fit k c).length ≤ k
  | 0, c => by simp [greL]
  | k + 1, c => by
    rw [greL]
    split
    · simp only [List.length_cons]
      exact Nat.succ_le_succ gre_len
    · simp
/-- a list of different nodes, with their set -/
def SetL (n : Nat) (c : Nat) (L : List Int) : Prop := c < 2 ^ n ∧ goneB L = bitB c ∧ (∀ x ∈ L, 0 ≤ x ∧ x < (n : Int)) ∧ (L.length = n → c = 2 ^ n - 1) ∧ (c = 2 ^ n - 1 → L.length = n) ∧ L.length ≤ n ∧ L.Nodup
theorem SetL.nil (n : Nat) : SetL n 0 [] := by
  have h0 := Nat.two_pow_pos n
  refine ⟨h0, by funext z; unfold goneB; simp [bitB], (fun x hx => by cases hx), fun h => ?_, fun h => ?_, by simp, List.nodup_nil⟩
  · have : n = 0 := by simpa using h.symm
    subst this; rfl
  · by_cases e : n = 0
    · subst e; rfl
    · have := Nat.pow_le_pow_right (show 0 < 2 by decide) (show 1 ≤ n by omega)
      omega
theorem all_bits {n c : Nat} (hc : c < 2 ^ n) (h : ∀ x, x < n → c.testBit x = true) : c = 2 ^ n - 1 := by
  apply Nat.eq_of_testBit_eq
  intro i
  rw [Nat.testBit_two_pow_sub_one]
  by_cases hi : i < n
  · rw [h i hi]; simp [hi]
  · rw [Nat.testBit_lt_two_pow (Nat.lt_of_lt_of_le hc (Nat.pow_le_pow_right (by decide) (by omega)))]; simp [hi]
theorem SetL.push {n c x : Nat} {L : List Int} (h : SetL n c L) (hx : x < n) (hb : c.testBit x = false) : SetL n (c ||| 2 ^ x) (L ++ [(x : Int)]) := by
  obtain ⟨h1, h2, h3, h4, h5, h6, h7⟩ := h
  have hm : (x : Int) ∉ L := fun hm => by
    have : goneB L x = true := decide_eq_true hm
    rw [h2] at this
    unfold bitB at this
    rw [hb] at this; cases this
  have hlt := or_lt h1 hx
  have hnd : (L ++ [(x : Int)]).Nodup := List.nodup_append.2 ⟨h7, by simp, fun a ha b hb2 => by
    rw [List.mem_singleton.1 hb2]; exact fun e => hm (e ▸ ha)⟩
  have hr : ∀ y ∈ L ++ [(x : Int)], 0 ≤ y ∧ y < (n : Int) := fun y hy => by
    rcases List.mem_append.1 hy with hy | hy
    · exact h3 y hy
    · rw [List.mem_singleton.1 hy]; omega
  have hg : goneB (L ++ [(x : Int)]) = bitB (c ||| 2 ^ x) := by
    funext y
    have h4 : goneB L y = bitB c y := by rw [h2]
    unfold goneB at h4 ⊢
    unfold bitB at h4 ⊢
    rw [Bool.eq_iff_iff, decide_eq_true_iff, Nat.testBit_or, Bool.or_eq_true, ← h4, decide_eq_true_iff, List.mem_append, List.mem_singleton, Nat.testBit_two_pow]
    by_cases e : x = y
    · subst e; simp
    · have : ¬ (y : Int) = (x : Int) := by omega
      simp [e, this]
  have hsub : (L ++ [(x : Int)]) ⊆ allN n := fun y hy => mem_allN.2 (hr y hy)
  have hle := hnd.length_le_of_subset hsub
  rw [allN_len] at hle
  refine ⟨hlt, hg, hr, fun hl => all_bits hlt fun z hz => ?_, fun hf => ?_, hle, hnd⟩
  · have h9 : goneB (L ++ [(x : Int)]) z = true := by
      apply Classical.byContradiction
      intro hn
      have hz2 : (z : Int) ∉ L ++ [(x : Int)] := fun hm2 => hn (decide_eq_true hm2)
      have h10 : ((z : Int) :: (L ++ [(x : Int)])).Nodup := List.nodup_cons.2 ⟨hz2, hnd⟩
      have h11 := h10.length_le_of_subset (l₂ := allN n) (fun y hy => by
        rcases List.mem_cons.1 hy with rfl | hy
        · exact mem_allN.2 ⟨by omega, by omega⟩
        · exact hsub hy)
      rw [allN_len] at h11
      simp only [List.length_cons] at h11
      omega
    rw [hg] at h9; exact h9
  · have h9 : allN n ⊆ L ++ [(x : Int)] := fun y hy => by
      obtain ⟨h10, h11⟩ := mem_allN.1 hy
      have h12 : goneB (L ++ [(x : Int)]) y.toNat = true := by rw [hg, hf]; unfold bitB; rw [Nat.testBit_two_pow_sub_one]; exact decide_eq_true (by omega)
      have h13 := of_decide_eq_true h12
      rwa [Int.toNat_of_nonneg h10] at h13
    have h14 := (each.allN_nodup n).length_le_of_subset h9
    rw [allN_len] at h14
    omega
theorem SetL.front {n c : Nat} {l : List Ed} {L : List Int} (h : SetL n c L) : (((froL n l L).length : Nat) : Int) = frontN l n c := by
  unfold froL frontN
  rw [h.2.1]
theorem keep_al {w : World} {p : Addr} {v : Value} {o : Obj} (h : w.cell? p = some v) : (w.alloc o).cell? p = some v :=
  ((Below.refl w.heap.size w).alloc (Nat.le_refl _) o |>.cell (p := p) (World.block_lt_of_cell? w p h)).trans h
theorem no_fit {n c : Nat} {cost : Nat → Nat → Int} {u : Int} (h : ¬ Ch n cost u c (2 ^ n - 1)) : ∀ y, y < n → fitB (fitV n cost u) c y = false := fun y hy => by
  cases hb : fitB (fitV n cost u) c y with
  | false => rfl
  | true =>
    unfold fitB at hb
    rw [Bool.and_eq_true, fitV_iff] at hb
    have hbit : c.testBit y = false := by simpa using hb.1
    exact absurd ((Ch.step (.refl c) hy hbit hb.2.1).trans hb.2.2) h
/-- what the search returns: the list and true where all others can follow, or an empty one and false -/
def SeaR (w : World) (B : Nat) (P : Prop) (M : List Int) (e : Ending) (w' : World) : Prop :=
  ∃ A c, e = .returned (.tuple #[.slice A (inG P M).length c, .bool (okG P)]) ∧ w'.ownsRow B 3 1 (.slice A (inG P M).length c) (inG P M).length (cellsI (inG P M)) ∧ Below w.heap.size w w'
theorem SeaR.yes {w w' : World} {B : Nat} {P : Prop} {M : List Int} {A : Option Addr} {c : Nat} (h : P) (ho : w'.ownsRow B 3 1 (.slice A M.length c) M.length (cellsI M)) (hb : Below w.heap.size w w') : SeaR w B P M (.returned (.tuple #[.slice A M.length c, .bool true])) w' := by
  refine ⟨A, c, ?_, ?_, hb⟩
  · rw [inG_yes h, okG_yes h]
  · rw [inG_yes h]; exact ho
theorem SeaR.no {w w' : World} {B : Nat} {P : Prop} {M : List Int} {A : Option Addr} {c : Nat} (h : ¬ P) (ho : w'.ownsRow B 3 1 (.slice A 0 c) 0 []) (hb : Below w.heap.size w w') : SeaR w B P M (.returned (.tuple #[.slice A 0 c, .bool false])) w' := by
  refine ⟨A, c, ?_, ?_, hb⟩
  · rw [inG_no h, okG_no h]; rfl
  · rw [inG_no h]; exact ho
set_option maxHeartbeats 8000000 in
set_option maxRecDepth 100000 in
theorem l6Search_any (n : Nat) (u : Int) (A : Option Addr) (cA : Nat) (l : List Ed) (hl : l.length ≤ 1048576) (hn : n ≤ 8) :
    ∀ (j : Nat) (L : List Int) (m c B : Nat) (A2 : Option Addr) (c2 : Nat) (w : World), Edges w (.slice A l.length cA) l → L.length = m → m + j = n → SetL n c L → B ≤ w.heap.size → w.ownsRow B 3 1 (.slice A2 m c2) m (cellsI L) →
    Calls Try.prog 86 #[.agg #[.int .i64 (n : Int), .slice A l.length cA], .slice A2 m c2, .int .i64 u] w (SeaR w B (Ch n (frontC l n) u c (2 ^ n - 1) ∧ frontN l n c ≤ u) (L ++ greL n (fitV n (frontC l n) u) j c)) := by
  obtain ⟨i0, hi, hz0, hz1, hz2⟩ := info_parts infoInt
  intro j
  induction j with
  | zero =>
    intro L m c B A2 c2 w h hm hj hL hB hu
    have b0 : Below w.heap.size w (w.alloc (.cells #[.int .i64 (n : Int), .slice A l.length cA] 29)) := (Below.refl _ _).alloc (Nat.le_refl _) _
    have g0 := Blk.new w 29 #[.int .i64 (n : Int), .slice A l.length cA]
    obtain ⟨p0, p1, -, -⟩ := g0.two
    have HF := Lib.hid (l6Front_any n (.slice A l.length cA) (.slice A2 m c2) l L _ (h.below b0) hl (by have h_ := Reads.of_own (own_below hu b0); show Reads _ _ _ _ _; rw [hm]; exact h_) (by have := hL.2.2.2.2.2.1; omega) hn hL.2.2.1)
    have HFR := Lib.hid (hL.front (l := l))
    have HU := Lib.hid hu
    have HG0 := Lib.hid g0
    have HB0 := Lib.hid b0
    have HMN : Hid (m = n) := by show _ = _; omega
    have HCF : Hid (c = 2 ^ n - 1) := hL.2.2.2.1 (by omega)
    have HML := Lib.hid hm
    clear h hm hL hu b0 g0
    go_enter Try.func86, Try.ntmps86
    go_wp2_with fail
    refine HF.out.mono ?_
    rintro e w3 ⟨A5, c5, rfl, o5, b5⟩
    have HB3 := Lib.hid (btrans HB0.out b5)
    clear p0 p1
    obtain ⟨p0, p1, -, -⟩ := (HG0.out.below b5 HG0.out.lt).two
    have HO3 := Lib.hid (own_below HU.out HB3.out)
    clear o5 b5
    generalize (froL n l L).length = f at *
    by_cases hf : u < (f : Int)
    · have HN : Hid (¬ (Ch n (frontC l n) u c (2 ^ n - 1) ∧ frontN l n c ≤ u)) := fun hh => by have := hh.2; rw [← HFR.out] at this; omega
      have HOW := Lib.hid (own_new0 w3 3 1)
      go_wp2_with fail
      go_ret2
      exact SeaR.no HN.out (own_base HOW.out (Nat.le_trans hB HB3.out.size)) (HB3.out.alloc HB3.out.size _)
    · have hd0 : decide (u < (f : Int)) = false := decide_eq_false hf
      have HY : Hid (Ch n (frontC l n) u c (2 ^ n - 1) ∧ frontN l n c ≤ u) := ⟨by rw [HCF.out]; exact .refl _, by rw [← HFR.out]; omega⟩
      obtain rfl : m = n := HMN.out
      go_wp2_with fail
      go_ret2
      have h_ := SeaR.yes (w := w) (w' := w3) (B := B) (M := L ++ greL m (fitV m (frontC l m) u) 0 c) (A := A2) (c := c2) HY.out
      rw [greL, List.append_nil, HML.out] at h_
      rw [greL, List.append_nil]
      exact h_ HO3.out HB3.out
  | succ j ih =>
    intro L m c B A2 c2 w h hm hj hL hB hu
    have b0 : Below w.heap.size w (w.alloc (.cells #[.int .i64 (n : Int), .slice A l.length cA] 29)) := (Below.refl _ _).alloc (Nat.le_refl _) _
    have g0 := Blk.new w 29 #[.int .i64 (n : Int), .slice A l.length cA]
    obtain ⟨p0, p1, -, -⟩ := g0.two
    have HF := Lib.hid (l6Front_any n (.slice A l.length cA) (.slice A2 m c2) l L _ (h.below b0) hl (by have h_ := Reads.of_own (own_below hu b0); show Reads _ _ _ _ _; rw [hm]; exact h_) (by have := hL.2.2.2.2.2.1; omega) hn hL.2.2.1)
    have HFR := Lib.hid (hL.front (l := l))
    have HU := Lib.hid hu
    have H := Lib.hid h
    have HG0 := Lib.hid g0
    have HB0 := Lib.hid b0
    have HSL := Lib.hid hL
    have HML := Lib.hid hm
    have HIH := Lib.hid ih
    have hmn : m < n := by omega
    have hm8 : m ≤ 8 := by omega
    have HCN : Hid (c ≠ 2 ^ n - 1) := fun e => by have := hL.2.2.2.2.1 e; omega
    clear h hm hL hu b0 g0 ih
    go_enter Try.func86, Try.ntmps86
    go_wp2_with fail
    refine HF.out.mono ?_
    rintro e w3 ⟨A5, c5, rfl, o5, b5⟩
    have HB3 := Lib.hid (btrans HB0.out b5)
    have HG3 := Lib.hid (HG0.out.below b5 HG0.out.lt)
    clear p0 p1
    obtain ⟨p0, p1, -, -⟩ := HG3.out.two
    clear o5 b5 HF HG0 HB0
    generalize (froL n l L).length = f at *
    by_cases hf : u < (f : Int)
    · have HN : Hid (¬ (Ch n (frontC l n) u c (2 ^ n - 1) ∧ frontN l n c ≤ u)) := fun hh => by have := hh.2; rw [← HFR.out] at this; omega
      have HOW := Lib.hid (own_new0 w3 3 1)
      go_wp2_with fail
      go_ret2
      exact SeaR.no HN.out (own_base HOW.out (Nat.le_trans hB HB3.out.size)) (HB3.out.alloc HB3.out.size _)
    · have hd0 : decide (u < (f : Int)) = false := decide_eq_false hf
      have hd1 : ((m : Int) == (n : Int)) = false := by simp; omega
      have HX0 : Hid (∀ y, y < 0 → fitB (fitV n (frontC l n) u) c y = false) := fun y hy => by omega
      have HFU : Hid (frontN l n c ≤ u) := by show _ ≤ _; rw [← HFR.out]; omega
      go_wp2_with fail
      clear p0 p1
      go_loopg [8] n (fun g xv wr => ∃ x : Nat, x + g = n ∧ xv = .int .i64 (x : Int) ∧ Hid (∀ y, y < x → fitB (fitV n (frontC l n) u) c y = false) ∧ Blk wr w.heap.size 29 #[.int .i64 (n : Int), .slice A l.length cA] ∧ Below w.heap.size w wr)
      case atStart => exact ⟨0, by omega, rfl, HX0, HG3.out, HB3.out⟩
      case round =>
        clear HX0 HG3 HB3
        obtain ⟨x, hxg, rfl, hno, hgb, hBw⟩ := hrel
        obtain ⟨p0, p1, -, -⟩ := hgb.two
        have HG := Lib.hid hgb
        have HB := Lib.hid hBw
        cases gk with
        | zero =>
          obtain rfl : x = n := by omega
          have HN : Hid (¬ (Ch x (frontC l x) u c (2 ^ x - 1) ∧ frontN l x c ≤ u)) := fun hh => by
            rcases hh.1.head with e | ⟨y, hy, hb, hc, hch⟩
            · exact HCN.out e
            · have := hno.out y hy
              unfold fitB at this
              rw [hb, fitV_iff.2 ⟨hc, hch⟩] at this
              cases this
          have HOW := Lib.hid (own_new0 wr 3 1)
          clear hgb hBw
          go_wp2_with fail
          go_ret2
          exact SeaR.no HN.out (own_base HOW.out (Nat.le_trans hB HB.out.size)) (HB.out.alloc HB.out.size _)
        | succ g2 =>
          have hxn : x < n := by omega
          have hxn' : (x : Int) < (n : Int) := by omega
          have HUR : Hid (∀ W, Below w.heap.size w W → Ints W (.slice A2 m c2) L) := fun W hW => by have h_ := Reads.of_own (own_below HU.out hW); show Reads _ _ _ _ _; rw [HML.out]; exact h_
          have HH := Lib.hid (l1Has_any (.slice A2 m c2) L (x : Int) wr (HUR.out _ hBw) (by have := HML.out; omega))
          have hdec : decide ((x : Int) ∈ L) = c.testBit x := congrFun HSL.out.2.1 x
          rw [hdec] at HH
          clear hgb hBw hdec
          cases hbit : c.testBit x with
          | true =>
            rw [hbit] at HH
            have HN : Hid (∀ y, y < x + 1 → fitB (fitV n (frontC l n) u) c y = false) := fun y hy => by
              by_cases e : y = x
              · subst e; unfold fitB; rw [hbit]; rfl
              · exact hno.out y (by omega)
            clear hbit
            go_wp2_with fail
            refine HH.out.mono ?_
            rintro e w' ⟨rfl, rfl⟩
            go_wp2_with fail
            go_roundg g2
            case measure => omega
            case rel => exact ⟨x + 1, by omega, by go_num, HN, HG.out, HB.out⟩
          | false =>
            rw [hbit] at HH
            have HSP := Lib.hid (HSL.out.push hxn hbit)
            have HOWN : Hid (∀ W, Below w.heap.size w W → Calls Try.prog 136 #[.slice A2 m c2] W fun e w' => ∃ A c, e = .returned (.slice A m c) ∧ w'.ownsRow W.heap.size 3 1 (.slice A m c) m (cellsI L) ∧ Below W.heap.size W w') := fun W hW => by
              have h_ := times.l1Own_any (.slice A2 m c2) L W (HUR.out W hW) (by have := HML.out; omega)
              unfold RowI at h_
              rw [HML.out] at h_
              exact h_
            have HFB : Hid (fitB (fitV n (frontC l n) u) c x = fitV n (frontC l n) u c x) := by show _ = _; unfold fitB; rw [hbit]; rfl
            have HLL : Hid ((L ++ [(x : Int)]).length = m + 1) := by show _ = _; rw [List.length_append, HML.out]; rfl
            have HREC := Lib.hid (fun (W : World) (A9 : Option Addr) (c9 : Nat) (hW : Below w.heap.size w W) (hs : wr.heap.size ≤ W.heap.size) (ho : W.ownsRow wr.heap.size 3 1 (.slice A9 (m + 1) c9) (m + 1) (cellsI (L ++ [(x : Int)]))) =>
              HIH.out (L ++ [(x : Int)]) (m + 1) (c ||| 2 ^ x) wr.heap.size A9 c9 W (H.out.below hW) HLL.out (by omega) HSP.out hs ho)
            have HCC : Hid ((Ch n (frontC l n) u (c ||| 2 ^ x) (2 ^ n - 1) ∧ frontN l n (c ||| 2 ^ x) ≤ u) ↔ fitV n (frontC l n) u c x = true) := by
              show _ ↔ _
              rw [fitV_iff]
              exact ⟨fun h => ⟨h.2, h.1⟩, fun h => ⟨h.2, h.1⟩⟩
            have HBT : Hid (c.testBit x = false) := hbit
            clear hbit
            go_wp2_with fail
            refine HH.out.mono ?_
            rintro e w' ⟨rfl, rfl⟩
            go_wp2_with fail
            refine wp_region_held_drew (S := (fun w' : World => w'.cell? ⟨w.heap.size, 0, none⟩ = some (.int .i64 (n : Int)) ∧ w'.cell? ⟨w.heap.size, 1, none⟩ = some (.slice A l.length cA))) (by kernel_rfl) (by (try dsimp only); simp [*]) (fun hHeld => ?_)
            change wpAnyH _ _ _ _ _ _ #[false, false, false, false, false, false, false, false, false, false, false, false, false] _ _
            refine wpAnyH_take (i := 0) (oi := ⟨some 34, _, _, _, _, _⟩) (v := ?_) rfl (by kernel_rfl) (by kernel_rfl) (by kernel_rfl) (fun _ _ _ h => h) (Or.inl ⟨by rfl, ?_⟩) (by assumption) ?_
            rotate_left
            · (intro w hSw; (try dsimp only at hSw); go_simp; (try (with_reducible rfl)))
            try simp only [Act.put, List.setIfInBounds_toArray, List.set_cons_zero, List.set_cons_succ]
            refine wpAnyH_take (i := 1) (oi := ⟨some 35, _, _, _, _, _⟩) (v := ?_) rfl (by kernel_rfl) (by kernel_rfl) (by kernel_rfl) (fun _ _ _ h => h) (Or.inl ⟨by rfl, ?_⟩) (by assumption) ?_
            rotate_left
            · (intro w hSw; (try dsimp only at hSw); go_simp; (try (with_reducible rfl)))
            try simp only [Act.put, List.setIfInBounds_toArray, List.set_cons_zero, List.set_cons_succ]
            refine wpAnyH_take (i := 3) (oi := ⟨some 37, _, _, _, _, _⟩) (v := ?_) rfl (by kernel_rfl) (by kernel_rfl) (by kernel_rfl) (fun _ _ _ h => h) (Or.inl ⟨by rfl, ?_⟩) (by assumption) ?_
            rotate_left
            · (intro w hSw; (try dsimp only at hSw); go_simp; (try (with_reducible rfl)))
            try simp only [Act.put, List.setIfInBounds_toArray, List.set_cons_zero, List.set_cons_succ]
            refine wpAnyH_take (i := 6) (oi := ⟨some 40, _, _, _, _, _⟩) (v := ?_) rfl (by kernel_rfl) (by kernel_rfl) (by kernel_rfl) (fun _ _ _ h => h) (Or.inl ⟨by rfl, ?_⟩) (by assumption) ?_
            rotate_left
            · (intro w hSw; (try dsimp only at hSw); go_simp; (try (with_reducible rfl)))
            try simp only [Act.put, List.setIfInBounds_toArray, List.set_cons_zero, List.set_cons_succ]
            refine wpAnyH_ready (rs := [2, 4]) (by kernel_rfl) (by simp) ?_
            refine AllReadyH.cons (o := ⟨some 36, _, _, _, _, _⟩) rfl (fun K hK => ?_) (AllReadyH.cons (o := ⟨some 38, _, _, _, _, _⟩) rfl (fun K hK => ?_) AllReadyH.nil)
            focus
              go_simp
              go_at_call 136
              refine (HOWN.out wr.drew HB.out.drew).mono ?_
              rintro e w4 ⟨A6, c6, rfl, o6, b6⟩
              have d4 : Below wr.heap.size wr w4 := btrans (Below.refl _ _).drew b6
              have HG4 := HG.out.below d4 HG.out.lt
              obtain ⟨k0, k1, -, -⟩ := HG4.two
              have HO6 : Hid (w4.ownsRow wr.heap.size 3 1 (.slice A6 m c6) m (cellsI L)) := o6
              have hs4 := d4.size
              go_wp2_with fail
              refine hK.out _ _ (by (try dsimp only); simp [*]) (fun hHeld => ?_)
              clear hK K
              refine wpAnyH_ready (rs := [4]) (by kernel_rfl) (by simp) ?_
              refine AllReadyH.cons rfl (fun K hK => ?_) AllReadyH.nil
              go_simp
              refine hK.out _ _ (⟨keep_al k0, keep_al k1⟩) (fun hHeld => ?_)
              clear hK K
              try simp only [List.setIfInBounds_toArray, List.set_cons_zero, List.set_cons_succ]
              refine wpAnyH_ready (rs := [5]) (by kernel_rfl) (by simp) ?_
              refine AllReadyH.cons rfl (fun K hK => ?_) AllReadyH.nil
              (refine step_append_lies _ rfl (.tmp 36) (.tmp 38) 25 rfl wr.heap.size 3 i0 (.int .i64 0) 1 8 Try.underlying25 hi hz0 hz1 hz2 rfl (by decide) (.slice A6 m c6) m (cellsI L) rfl (HO6.out.alloc _) ⟨w4.heap.size, 0, none⟩ 1 1 [.int .i64 (x : Int)] rfl rfl (cell_one_new _ _ _) (fun x hx => by simp at hx; subst hx; rfl) (by decide) (by unfold maxLen; omega) (by omega) (by simp; omega) (w4.heap.size + 1) (by simp) ?_; intro g8 cap8 w8 hown8 hgrow8 lies8 lt8; have hG8 := (HG4.alloc (.cells #[.int .i64 (x : Int)] 3)).grown hgrow8 (fun e => mids.own_ne HO6.out HG4 (by decide) e.symm); obtain ⟨k2, k3, -, -⟩ := hG8.two)
              refine hK.out _ _ (⟨k2, k3⟩) (fun hHeld => ?_)
              clear hK K
              try simp only [Act.put, List.setIfInBounds_toArray, List.set_cons_zero, List.set_cons_succ]
              have HB8 := Lib.hid ((d4.alloc hs4 (.cells #[.int .i64 (x : Int)] 3)).grown hgrow8 (by simp; omega) (fun p hp => (HO6.out.lt p hp).1))
              clear hgrow8 lies8 lt8 o6 b6 k0 k1 HG4 d4 hs4 HO6
            rotate_left
            focus
              go_simp
              refine hK.out _ _ ⟨keep_al p0, keep_al p1⟩ (fun hHeld => ?_)
              clear hK K
              have HBA : Hid (Below w.heap.size w (wr.alloc (.cells #[.int .i64 (x : Int)] 3)).drew) := (HB.out.alloc HB.out.size _).drew
              refine wpAnyH_ready (rs := [2]) (by kernel_rfl) (by simp) ?_
              refine AllReadyH.cons (o := ⟨some 36, _, _, _, _, _⟩) rfl (fun K hK => ?_) AllReadyH.nil
              go_simp
              refine (HOWN.out _ HBA.out).mono ?_; rintro e w4 ⟨A6, c6, rfl, o6, b6⟩; have d4 : Below wr.heap.size wr w4 := ((Below.refl wr.heap.size wr).alloc (Nat.le_refl _) _).drew.trans (b6.mono (by show wr.heap.size ≤ (wr.alloc _).heap.size; rw [World.size_alloc]; omega)); have HG4 := HG.out.below d4 HG.out.lt; obtain ⟨k0, k1, -, -⟩ := HG4.two; have HO6 : Hid (w4.ownsRow wr.heap.size 3 1 (.slice A6 m c6) m (cellsI L)) := (own_base o6 (by show wr.heap.size ≤ (wr.alloc _).heap.size; rw [World.size_alloc]; omega)); have hs4 := d4.size; have N2 : ∀ j u, [Value.int .i64 (x : Int)][j]? = some u → w4.cell? ((⟨wr.heap.size, 0, none⟩ : Addr).add j) = some u := (fun j u hj => (b6.cell (p := (⟨wr.heap.size, 0, none⟩ : Addr).add j) (World.block_lt_of_cell? (wr.alloc (.cells #[.int .i64 (x : Int)] 3)) _ (cell_one_new wr (.int .i64 (x : Int)) 3 j u hj))).trans (cell_one_new wr (.int .i64 (x : Int)) 3 j u hj))
              go_wp2_with fail
              refine hK.out _ _ (by (try dsimp only); simp [*]) (fun hHeld => ?_)
              clear hK K
              try simp only [List.setIfInBounds_toArray, List.set_cons_zero, List.set_cons_succ]
              refine wpAnyH_ready (rs := [5]) (by kernel_rfl) (by simp) ?_
              refine AllReadyH.cons rfl (fun K hK => ?_) AllReadyH.nil
              (refine step_append_lies _ rfl (.tmp 36) (.tmp 38) 25 rfl wr.heap.size 3 i0 (.int .i64 0) 1 8 Try.underlying25 hi hz0 hz1 hz2 rfl (by decide) (.slice A6 m c6) m (cellsI L) rfl HO6.out ⟨wr.heap.size, 0, none⟩ 1 1 [.int .i64 (x : Int)] rfl rfl N2 (fun x hx => by simp at hx; subst hx; rfl) (by decide) (by unfold maxLen; omega) (by omega) (by omega) w4.heap.size rfl ?_; intro g8 cap8 w8 hown8 hgrow8 lies8 lt8; have hG8 := HG4.grown hgrow8 (fun e => mids.own_ne HO6.out HG4 (by decide) e.symm); obtain ⟨k2, k3, -, -⟩ := hG8.two)
              refine hK.out _ _ (⟨k2, k3⟩) (fun hHeld => ?_)
              clear hK K
              try simp only [Act.put, List.setIfInBounds_toArray, List.set_cons_zero, List.set_cons_succ]
              have HB8 := Lib.hid (d4.grown hgrow8 (by omega) (fun p hp => (HO6.out.lt p hp).1))
              clear hgrow8 lies8 lt8 o6 b6 k0 k1 HG4 d4 hs4 HO6 N2 HBA
            all_goals
              have HO8 : Hid (w8.ownsRow wr.heap.size 3 1 (.slice (some ⟨g8, 0, none⟩) (m + 1) cap8) (m + 1) (cellsI (L ++ [(x : Int)]))) := by
                show World.ownsRow _ _ _ _ _ _ _
                rw [cellsI_app]
                exact hown8
              have HR8 := Lib.hid (HREC.out w8 _ cap8 (btrans HB.out HB8.out) HB8.out.size HO8.out)
              unfold SeaR at HR8
              cases hfit : fitV n (frontC l n) u c x with
              | true =>
                have hp8 := HCC.out.2 hfit
                rw [inG_yes hp8, okG_yes hp8] at HR8
                have HP : Hid (Ch n (frontC l n) u c (2 ^ n - 1) ∧ frontN l n c ≤ u) := ⟨by
                  have h1 := fitV_iff.1 hfit
                  exact (Ch.step (.refl c) hxn HBT.out h1.1).trans h1.2, HFU.out⟩
                have HM : Hid ((L ++ [(x : Int)]) ++ greL n (fitV n (frontC l n) u) j (c ||| 2 ^ x) = L ++ greL n (fitV n (frontC l n) u) (j + 1) c) := by
                  show _ = _
                  rw [greL_step hxn (by rw [HFB.out]; exact hfit) hno.out]
                  simp
                rw [HM.out] at HR8
                clear hfit hp8
                generalize L ++ greL n (fitV n (frontC l n) u) (j + 1) c = M at *
                refine wpAnyH_ready (rs := [7]) (by kernel_rfl) (by simp) ?_
                refine AllReadyH.cons (o := ⟨some 41, _, _, _, _, _⟩) rfl (fun K hK => ?_) AllReadyH.nil
                go_simp
                refine HR8.out.mono ?_; rintro e w9 ⟨A9, c9, rfl, o9, b9⟩; obtain ⟨k4, k5, -, -⟩ := (hG8.below b9 hG8.lt).two; have HO9 := Lib.hid (own_base (B' := B) o9 (Nat.le_trans hB HB.out.size)); have HB9 := Lib.hid (btrans (btrans HB.out HB8.out) b9); clear o9 b9
                go_wp2_with fail
                refine hK.out _ _ (by (try dsimp only); simp [*]) (fun hHeld => ?_)
                clear hK K
                try simp only [List.setIfInBounds_toArray, List.set_cons_zero, List.set_cons_succ]
                refine wpAnyH_take (i := 8) (oi := ⟨some 33, _, _, _, _, _⟩) (v := ?_) rfl (by kernel_rfl) (by kernel_rfl) (by kernel_rfl) (fun _ _ _ h => h) (Or.inl ⟨by rfl, ?_⟩) (by assumption) ?_
                rotate_left
                · (intro w hSw; (try dsimp only at hSw); go_simp; (try (with_reducible rfl)))
                try simp only [Act.put, List.setIfInBounds_toArray, List.set_cons_zero, List.set_cons_succ]
                refine wpAnyH_take (i := 9) (oi := ⟨some 42, _, _, _, _, _⟩) (v := ?_) rfl (by kernel_rfl) (by kernel_rfl) (by kernel_rfl) (fun _ _ _ h => h) (Or.inl ⟨by rfl, ?_⟩) (by assumption) ?_
                rotate_left
                · (intro w hSw; (try dsimp only at hSw); go_simp; (try (with_reducible rfl)))
                try simp only [Act.put, List.setIfInBounds_toArray, List.set_cons_zero, List.set_cons_succ]
                refine wpAnyH_take (i := 10) (oi := ⟨some 43, _, _, _, _, _⟩) (v := ?_) rfl (by kernel_rfl) (by kernel_rfl) (by kernel_rfl) (fun _ _ _ h => h) (Or.inl ⟨by rfl, ?_⟩) (by assumption) ?_
                rotate_left
                · (intro w hSw; (try dsimp only at hSw); go_simp; (try (with_reducible rfl)))
                try simp only [Act.put, List.setIfInBounds_toArray, List.set_cons_zero, List.set_cons_succ]
                refine wpAnyH_take (i := 11) (oi := ⟨some 9, _, _, _, _, _⟩) (v := ?_) rfl (by kernel_rfl) (by kernel_rfl) (by kernel_rfl) (fun _ _ _ h => h) (Or.inl ⟨by rfl, ?_⟩) (by assumption) ?_
                rotate_left
                · (intro w hSw; (try dsimp only at hSw); go_simp; (try (with_reducible rfl)))
                try simp only [Act.put, List.setIfInBounds_toArray, List.set_cons_zero, List.set_cons_succ]
                refine wpAnyH_take (i := 12) (oi := ⟨some 10, _, _, _, _, _⟩) (v := ?_) rfl (by kernel_rfl) (by kernel_rfl) (by kernel_rfl) (fun _ _ _ h => h) (Or.inl ⟨by rfl, ?_⟩) (by assumption) ?_
                rotate_left
                · (intro w hSw; (try dsimp only at hSw); go_simp; (try (with_reducible rfl)))
                try simp only [Act.put, List.setIfInBounds_toArray, List.set_cons_zero, List.set_cons_succ]
                refine wpAnyH_done (by kernel_rfl) ?_ _
                go_wp2_with fail
                go_ret2
                exact SeaR.yes HP.out HO9.out HB9.out
              | false =>
                have hp8 : ¬ (Ch n (frontC l n) u (c ||| 2 ^ x) (2 ^ n - 1) ∧ frontN l n (c ||| 2 ^ x) ≤ u) := fun hh => by have := HCC.out.1 hh; rw [hfit] at this; cases this
                rw [inG_no hp8, okG_no hp8] at HR8
                have HN : Hid (∀ y, y < x + 1 → fitB (fitV n (frontC l n) u) c y = false) := fun y hy => by
                  by_cases e : y = x
                  · subst e; rw [HFB.out]; exact hfit
                  · exact hno.out y (by omega)
                clear hfit hp8
                refine wpAnyH_ready (rs := [7]) (by kernel_rfl) (by simp) ?_
                refine AllReadyH.cons (o := ⟨some 41, _, _, _, _, _⟩) rfl (fun K hK => ?_) AllReadyH.nil
                go_simp
                refine HR8.out.mono ?_; rintro e w9 ⟨A9, c9, rfl, o9, b9⟩; have HG9 := Lib.hid (hG8.below b9 hG8.lt); obtain ⟨k4, k5, -, -⟩ := HG9.out.two; have HB9 := Lib.hid (btrans (btrans HB.out HB8.out) b9); clear o9 b9
                go_wp2_with fail
                refine hK.out _ _ (by (try dsimp only); simp [*]) (fun hHeld => ?_)
                clear hK K
                try simp only [List.setIfInBounds_toArray, List.set_cons_zero, List.set_cons_succ]
                refine wpAnyH_take (i := 8) (oi := ⟨some 33, _, _, _, _, _⟩) (v := ?_) rfl (by kernel_rfl) (by kernel_rfl) (by kernel_rfl) (fun _ _ _ h => h) (Or.inl ⟨by rfl, ?_⟩) (by assumption) ?_
                rotate_left
                · (intro w hSw; (try dsimp only at hSw); go_simp; (try (with_reducible rfl)))
                try simp only [Act.put, List.setIfInBounds_toArray, List.set_cons_zero, List.set_cons_succ]
                refine wpAnyH_take (i := 9) (oi := ⟨some 42, _, _, _, _, _⟩) (v := ?_) rfl (by kernel_rfl) (by kernel_rfl) (by kernel_rfl) (fun _ _ _ h => h) (Or.inl ⟨by rfl, ?_⟩) (by assumption) ?_
                rotate_left
                · (intro w hSw; (try dsimp only at hSw); go_simp; (try (with_reducible rfl)))
                try simp only [Act.put, List.setIfInBounds_toArray, List.set_cons_zero, List.set_cons_succ]
                refine wpAnyH_take (i := 10) (oi := ⟨some 43, _, _, _, _, _⟩) (v := ?_) rfl (by kernel_rfl) (by kernel_rfl) (by kernel_rfl) (fun _ _ _ h => h) (Or.inl ⟨by rfl, ?_⟩) (by assumption) ?_
                rotate_left
                · (intro w hSw; (try dsimp only at hSw); go_simp; (try (with_reducible rfl)))
                try simp only [Act.put, List.setIfInBounds_toArray, List.set_cons_zero, List.set_cons_succ]
                refine wpAnyH_take (i := 11) (oi := ⟨some 9, _, _, _, _, _⟩) (v := ?_) rfl (by kernel_rfl) (by kernel_rfl) (by kernel_rfl) (fun _ _ _ h => h) (Or.inl ⟨by rfl, ?_⟩) (by assumption) ?_
                rotate_left
                · (intro w hSw; (try dsimp only at hSw); go_simp; (try (with_reducible rfl)))
                try simp only [Act.put, List.setIfInBounds_toArray, List.set_cons_zero, List.set_cons_succ]
                refine wpAnyH_take (i := 12) (oi := ⟨some 10, _, _, _, _, _⟩) (v := ?_) rfl (by kernel_rfl) (by kernel_rfl) (by kernel_rfl) (fun _ _ _ h => h) (Or.inl ⟨by rfl, ?_⟩) (by assumption) ?_
                rotate_left
                · (intro w hSw; (try dsimp only at hSw); go_simp; (try (with_reducible rfl)))
                try simp only [Act.put, List.setIfInBounds_toArray, List.set_cons_zero, List.set_cons_succ]
                refine wpAnyH_done (by kernel_rfl) ?_ _
                clear hHeld hown8 hG8 k2 k3 k4 k5 p0 p1
                go_wp2_with fail
                go_roundg g2
                case measure => omega
                case rel => exact ⟨x + 1, by omega, by go_num, HN, HG9.out, HB9.out⟩
end Go.Proofs.Ytphlpipbhaiijaa.costs
