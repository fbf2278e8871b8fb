/- The contract of the model's PerfectElimination. -/
import Derived.Handy
import Derived.Test.YtphlpipbhaiijaaPerfI
import Derived.Test.YtphlpipbhaiijaaCliqS
import Derived.Test.YtphlpipbhaiijaaGoodS
import Derived.Deep.DeepCutAuto
import Derived.Deep.RegionHeld3
namespace Go.Proofs.Ytphlpipbhaiijaa.costs
open Go.RowKit P2 words edges ints good adjs fns sets rets covs reach bags balls bitsI fronts
set_option linter.unusedVariables false

/-- the first of the nodes below x that fits, or -1 -/
def Nx (n : Nat) (f : Nat → Bool) (x : Nat) (v : Int) : Prop := (v = -1 ∧ ∀ y, y < x → f y = false) ∨ ∃ z : Nat, z < n ∧ v = (z : Int) ∧ f z = true ∧ ∀ y, y < z → f y = false
theorem Nx.no {n : Nat} {f : Nat → Bool} {x : Nat} (h : Nx n f x (-1)) (hf : f x = false) : Nx n f (x + 1) (-1) := by
  rcases h with ⟨_, h⟩ | ⟨z, _, h, _⟩
  · refine .inl ⟨rfl, fun y hy => ?_⟩
    by_cases e : y = x
    · subst e; exact hf
    · exact h y (by omega)
  · omega
theorem Nx.yes {n : Nat} {f : Nat → Bool} {x : Nat} (h : Nx n f x (-1)) (hx : x < n) (hf : f x = true) : Nx n f (x + 1) (x : Int) := by
  rcases h with ⟨_, h⟩ | ⟨z, _, h, _⟩
  · exact .inr ⟨x, hx, rfl, hf, h⟩
  · omega
theorem ord_none {n k g : Nat} {fit : Nat → Nat → Bool} {L : List Int} (h : ordN n fit k = some (g, L)) (hk : k < n) (hno : ∀ y, y < n → fitB fit g y = false) : ordN n fit n = none := by
  have h1 : ordN n fit (k + 1) = none := by
    rw [ordN, h]
    have : nw (fitB fit g) n = [] := List.eq_nil_of_length_eq_zero (nw_nil0 hno)
    simp [this]
  have := ordN_none h1 (n - (k + 1))
  rwa [show k + 1 + (n - (k + 1)) = n from by omega] at this
where
  nw_nil0 {n : Nat} {p : Nat → Bool} (hno : ∀ y, y < n → p y = false) : (nw p n).length = 0 := by
    have h1 : nw p n = nw (fun _ => false) n := reach.nw_congr hno
    rw [h1, nw_none]; rfl
theorem ord_some {n k g z : Nat} {fit : Nat → Nat → Bool} {L : List Int} (h : ordN n fit k = some (g, L)) (hz : z < n) (hf : fitB fit g z = true) (hm : ∀ y, y < z → fitB fit g y = false) : ordN n fit (k + 1) = some (g ||| 2 ^ z, L ++ [(z : Int)]) := by
  rw [ordN, h]
  simp [nw_head hz hf hm]
set_option maxHeartbeats 4000000 in
set_option maxRecDepth 100000 in
theorem specPerf_any (s : Int) (v : Value) (l : List Ed) (w : World) (h : Edges w v l) (hl : l.length ≤ 1048576) (hs1 : -9223372036854775808 ≤ s) (hs2 : s ≤ 9223372036854775807) :
    Calls Try.prog 39 #[.agg #[.int .i64 s, v]] w (RetI w (PerfOk s l) (peL s l)) := by
  obtain ⟨i0, hi, hz0, hz1, hz2⟩ := info_parts infoInt
  obtain ⟨A, cA, rfl, -⟩ := h.form
  have H := Lib.hid h
  have b0 : Below w.heap.size w ((w.alloc (.cells #[.int .i64 s, .slice A l.length cA] 29)).alloc (.cells #[] 3)) := ((Below.refl _ _).alloc (Nat.le_refl _) _).alloc (by simp) _
  have g0 := (Blk.new w 29 #[.int .i64 s, .slice A l.length cA]).alloc (.cells #[] 3)
  have o0 := own_new0 (w.alloc (.cells #[.int .i64 s, .slice A l.length cA] 29)) 3 1
  rw [World.size_alloc] at o0
  obtain ⟨p0, p1, -, -⟩ := g0.two
  have HG := Lib.hid (l2Good_any s _ l _ (h.below b0) hl hs1 hs2)
  have HB0 := Lib.hid b0
  have HG0 := Lib.hid g0
  have HO0 := Lib.hid o0
  clear h b0 g0 o0
  by_cases hgd : P2.Good s l
  · rw [goodB_yes hgd] at HG
    have h0 := hgd.1
    have h8 := hgd.2.1
    obtain ⟨n, rfl⟩ : ∃ n : Nat, s = (n : Int) := ⟨s.toNat, by omega⟩
    have hn : n ≤ 8 := by omega
    have HGD := Lib.hid hgd
    have HPE : Hid (peL (n : Int) l = ordL n (fitP n l)) := by show _ = _; unfold peL; rw [Int.toNat_natCast]
    have HOK : Hid (PerfOk (n : Int) l ↔ (ordN n (fitP n l) n).isSome = true) := by
      show _ ↔ _
      unfold PerfOk
      rw [Int.toNat_natCast]
      exact ⟨fun h => h.2, fun h => ⟨hgd, h⟩⟩
    clear hgd
    go_enter Try.func39, Try.ntmps39
    go_wp2_with fail
    refine HG.out.mono ?_
    rintro e w2 ⟨rfl, b2⟩
    have HE2 := Lib.hid (btrans HB0.out b2)
    have HG2 := Lib.hid (HG0.out.below b2 HG0.out.lt)
    have HO2 := Lib.hid (own_below HO0.out b2)
    clear HG b2 HB0 HG0 HO0 p0 p1
    go_wp2_with fail
    go_loopg [4] n (fun g ov wr => ∃ (k c : Nat) (L : List Int) (ow : Value), ow = ov ∧ k + g = n ∧ Hid (ordN n (fitP n l) k = some (c, L)) ∧ wr.ownsRow (w.heap.size + 1) 3 1 ow L.length (cellsI L) ∧ Blk wr w.heap.size 29 #[.int .i64 (n : Int), .slice A l.length cA] ∧ Below w.heap.size w wr)
    case atStart => exact ⟨0, 0, [], _, rfl, by omega, rfl, HO2.out, HG2.out, HE2.out⟩
    case round =>
      clear HO2 HG2 HE2
      obtain ⟨k, c, L, ow, rfl, hkg, hord, hrow, hgb, hB⟩ := hrel
      obtain ⟨AO, cO, rfl⟩ := own_form hrow
      obtain ⟨hcn, hLk⟩ := ordN_ok hord.out
      have hL8 : L.length ≤ 8 := by omega
      obtain ⟨p0, p1, -, -⟩ := hgb.two
      cases gk with
      | zero =>
        obtain rfl : k = n := by omega
        have HL : Hid (peL (k : Int) l = L) := by
          show _ = _
          rw [HPE.out]
          unfold ordL
          rw [hord.out]; rfl
        have HP : Hid (PerfOk (k : Int) l) := HOK.out.2 (by rw [hord.out]; rfl)
        have hkL : ¬ (L.length : Int) < (k : Int) := by omega
        have HR := Lib.hid (own_base hrow (by omega : w.heap.size ≤ w.heap.size + 1))
        have HB := Lib.hid hB
        clear hrow hB hgb hLk
        go_wp2_with fail
        go_ret2
        rw [← HL.out] at HR ⊢
        exact RetI.yes HP.out HR.out HB.out
      | succ g2 =>
        have hkL : (L.length : Int) < (n : Int) := by omega
        have hkn : k < n := by omega
        have HGL := Lib.hid (ordN_mem hord.out)
        have HFP := Lib.hid (fun (x : Nat) (hx : x < n) (hb : c.testBit x = false) => fitP_eq HGD.out (ord_nofill HGD.out hord.out) hx hb)
        have HNX : Hid (Nx n (fitB (fitP n l) c) 0 (-1)) := .inl ⟨rfl, fun y hy => by omega⟩
        have HR := Lib.hid hrow
        have HG := Lib.hid hgb
        have HB := Lib.hid hB
        clear hrow hB hgb hLk
        go_wp2_with fail
        obtain ⟨wo, hwo⟩ : ∃ wo, wo = wr := ⟨_, rfl⟩
        subst hwo
        clear p0 p1
        go_loopg [5, 6] n (fun g nv xv wr => ∃ (x : Nat) (nx : Int), x + g = n ∧ xv = .int .i64 (x : Int) ∧ nv = .int .i64 nx ∧ Hid (Nx n (fitB (fitP n l) c) x nx) ∧ wr.ownsRow (w.heap.size + 1) 3 1 (.slice AO L.length cO) L.length (cellsI L) ∧ Blk wr w.heap.size 29 #[.int .i64 (n : Int), .slice A l.length cA] ∧ Below w.heap.size w wr)
        case atStart => exact ⟨0, -1, by omega, rfl, rfl, HNX, HR.out, HG.out, HB.out⟩
        case round =>
          clear HNX HR HG HB
          obtain ⟨x, nx, hxg, rfl, rfl, hnx, hrow, hgb, hB⟩ := hrel
          obtain ⟨p0, p1, -, -⟩ := hgb.two
          have HR := Lib.hid hrow
          have HG := Lib.hid hgb
          have HB := Lib.hid hB
          have hsz := hB.size
          by_cases hn0 : nx < 0
          · have hn1 : nx = -1 := by
              rcases hnx.out with ⟨h1, _⟩ | ⟨z, _, h1, _⟩ <;> omega
            subst hn1
            cases gk with
            | zero =>
              obtain rfl : x = n := by omega
              have HNO : Hid (ordN x (fitP x l) x = none) := by
                rcases hnx.out with ⟨_, h2⟩ | ⟨z, _, h2, _⟩
                · exact ord_none hord.out hkn h2
                · omega
              have HN : Hid (¬ PerfOk (x : Int) l) := fun hp => by
                have := HOK.out.1 hp
                rw [HNO.out] at this; cases this
              have HOW := Lib.hid (own_new0 wr 3 1)
              clear hrow hB hgb
              go_wp2_with fail
              go_ret2
              exact RetI.no HN.out (own_base HOW.out HB.out.size) (HB.out.alloc HB.out.size _)
            | succ g4 =>
              have hxn : x < n := by omega
              have hxn' : (x : Int) < (n : Int) := by omega
              have HH := Lib.hid (l1Has_any (.slice AO L.length cO) L (x : Int) wr.drew (show Ints _ _ _ from Reads.of_own (own_below hrow (Below.refl _ _).drew)) (by omega))
              have hdec : decide ((x : Int) ∈ L) = c.testBit x := congrFun HGL.out x
              rw [hdec] at HH
              clear hrow hB hgb hdec
              cases hbit : c.testBit x with
              | true =>
                have HN := Lib.hid (hnx.out.no (show fitB (fitP n l) c x = false by unfold fitB; rw [hbit]; rfl))
                rw [hbit] at HH
                clear hbit
                go_wp2_with fail
                refine wp_region_held_drew (S := (fun w' : World => w'.cell? ⟨w.heap.size, 0, none⟩ = some (.int .i64 (n : Int)) ∧ w'.cell? ⟨w.heap.size, 1, none⟩ = some (.slice A l.length cA))) (by kernel_rfl) (by (try dsimp only); simp [*]) (fun hHeld => ?_)
                change wpAnyH _ _ _ _ _ _ #[false, false, false, false, false, false, false, false, false, false, false, false] _ _
                refine wpAnyH_take (i := 0) (oi := ⟨some 27, _, _, _, _, _⟩) (v := ?_) rfl (by kernel_rfl) (by kernel_rfl) (by kernel_rfl) (fun _ _ _ h => h) (Or.inl ⟨by rfl, ?_⟩) (by assumption) ?_
                rotate_left
                · (intro w hSw; (try dsimp only at hSw); go_simp; (try (with_reducible rfl)))
                try simp only [Act.put, List.setIfInBounds_toArray, List.set_cons_zero, List.set_cons_succ]
                refine wpAnyH_take (i := 1) (oi := ⟨some 28, _, _, _, _, _⟩) (v := ?_) rfl (by kernel_rfl) (by kernel_rfl) (by kernel_rfl) (fun _ _ _ h => h) (Or.inl ⟨by rfl, ?_⟩) (by assumption) ?_
                rotate_left
                · (intro w hSw; (try dsimp only at hSw); go_simp; (try (with_reducible rfl)))
                try simp only [Act.put, List.setIfInBounds_toArray, List.set_cons_zero, List.set_cons_succ]
                refine wpAnyH_ready (rs := [2]) (by kernel_rfl) (by simp) ?_
                refine AllReadyH.cons (o := ⟨some 29, _, _, _, _, _⟩) rfl (fun K hK => ?_) AllReadyH.nil
                go_simp
                refine HH.out.mono ?_; rintro e w' ⟨rfl, rfl⟩
                go_wp2_with fail
                refine hK.out _ _ (by (try dsimp only); simp [*]) (fun hHeld => ?_)
                clear hK K
                try simp only [List.setIfInBounds_toArray, List.set_cons_zero, List.set_cons_succ]
                refine wpAnyH_take (i := 3) (oi := ⟨some 30, _, _, _, _, _⟩) (v := ?_) rfl (by kernel_rfl) (by kernel_rfl) (by kernel_rfl) (fun _ _ _ h => h) (Or.inl ⟨by rfl, ?_⟩) (by assumption) ?_
                rotate_left
                · (intro w hSw; (try dsimp only at hSw); go_simp; (try (with_reducible rfl)))
                try simp only [Act.put, List.setIfInBounds_toArray, List.set_cons_zero, List.set_cons_succ]
                refine wpAnyH_take (i := 4) (oi := ⟨some 31, _, _, _, _, _⟩) (v := ?_) rfl (by kernel_rfl) (by kernel_rfl) (by kernel_rfl) (fun _ _ _ h => h) (Or.inl ⟨by rfl, ?_⟩) (by assumption) ?_
                rotate_left
                · (intro w hSw; (try dsimp only at hSw); go_simp; (try (with_reducible rfl)))
                try simp only [Act.put, List.setIfInBounds_toArray, List.set_cons_zero, List.set_cons_succ]
                refine wpAnyH_take (i := 5) (oi := ⟨some 32, _, _, _, _, _⟩) (v := undef) rfl (by kernel_rfl) (by kernel_rfl) (by kernel_rfl) (fun _ _ _ h => h) (Or.inr ⟨by rfl, rfl⟩) (by assumption) ?_
                try simp only [Act.put, List.setIfInBounds_toArray, List.set_cons_zero, List.set_cons_succ]
                refine wpAnyH_take (i := 6) (oi := ⟨some 33, _, _, _, _, _⟩) (v := undef) rfl (by kernel_rfl) (by kernel_rfl) (by kernel_rfl) (fun _ _ _ h => h) (Or.inr ⟨by rfl, rfl⟩) (by assumption) ?_
                try simp only [Act.put, List.setIfInBounds_toArray, List.set_cons_zero, List.set_cons_succ]
                refine wpAnyH_take (i := 7) (oi := ⟨some 34, _, _, _, _, _⟩) (v := undef) rfl (by kernel_rfl) (by kernel_rfl) (by kernel_rfl) (fun _ _ _ h => h) (Or.inr ⟨by rfl, rfl⟩) (by assumption) ?_
                try simp only [Act.put, List.setIfInBounds_toArray, List.set_cons_zero, List.set_cons_succ]
                refine wpAnyH_take (i := 8) (oi := ⟨some 35, _, _, _, _, _⟩) (v := undef) rfl (by kernel_rfl) (by kernel_rfl) (by kernel_rfl) (fun _ _ _ h => h) (Or.inr ⟨by rfl, rfl⟩) (by assumption) ?_
                try simp only [Act.put, List.setIfInBounds_toArray, List.set_cons_zero, List.set_cons_succ]
                refine wpAnyH_take (i := 9) (oi := ⟨some 36, _, _, _, _, _⟩) (v := undef) rfl (by kernel_rfl) (by kernel_rfl) (by kernel_rfl) (fun _ _ _ h => h) (Or.inr ⟨by rfl, rfl⟩) (by assumption) ?_
                try simp only [Act.put, List.setIfInBounds_toArray, List.set_cons_zero, List.set_cons_succ]
                refine wpAnyH_take (i := 10) (oi := ⟨some 37, _, _, _, _, _⟩) (v := undef) rfl (by kernel_rfl) (by kernel_rfl) (by kernel_rfl) (fun _ _ _ h => h) (Or.inr ⟨by rfl, rfl⟩) (by assumption) ?_
                try simp only [Act.put, List.setIfInBounds_toArray, List.set_cons_zero, List.set_cons_succ]
                refine wpAnyH_take (i := 11) (oi := ⟨some 38, _, _, _, _, _⟩) (v := ?_) rfl (by kernel_rfl) (by kernel_rfl) (by kernel_rfl) (fun _ _ _ h => h) (Or.inl ⟨by rfl, ?_⟩) (by assumption) ?_
                rotate_left
                · (intro w hSw; (try dsimp only at hSw); go_simp; (try (with_reducible rfl)))
                try simp only [Act.put, List.setIfInBounds_toArray, List.set_cons_zero, List.set_cons_succ]
                refine wpAnyH_done (by kernel_rfl) ?_ _
                clear hHeld
                go_wp2_with fail
                go_roundg g4
                case measure => omega
                case rel => exact ⟨x + 1, -1, by omega, by go_num, rfl, HN, own_below HR.out (Below.refl _ _).drew, HG.out.below (Below.refl _ _).drew HG.out.lt, HB.out.drew⟩
              | false =>
                rw [hbit] at HH
                have HAM := Lib.hid (l5Among_any n (x : Int) (.slice A l.length cA) (.slice AO L.length cO) l L wr.drew (H.out.below HB.out.drew) hl (show Ints _ _ _ from Reads.of_own (own_below HR.out (Below.refl _ _).drew)) (by omega) hn)
                have HML : Hid (amgL n l L (x : Int) = nw (fun y => !bitB c y && adj l (x : Int) (y : Int)) n) := by show _ = _; unfold amgL; rw [HGL.out]
                have HCV : Hid (okG (ClqL l (amgL n l L (x : Int))) = fitP n l c x) := by
                  show _ = _
                  rw [HML.out, clq_nw, HFP.out x hxn hbit]; rfl
                have hml : (amgL n l L (x : Int)).length ≤ 1048576 := by rw [HML.out]; have := nw_len (fun y => !bitB c y && adj l (x : Int) (y : Int)) n; omega
                have HCQ := Lib.hid (fun (W : World) (A5 : Option Addr) (c5 : Nat) (hW : Below w.heap.size w W) (hr : Ints W (.slice A5 (amgL n l L (x : Int)).length c5) (amgL n l L (x : Int))) => l5Clique_any (n : Int) (.slice A l.length cA) (.slice A5 (amgL n l L (x : Int)).length c5) l (amgL n l L (x : Int)) W (H.out.below hW) hl hr hml)
                rw [HCV.out] at HCQ
                clear HML hml HCV
                generalize amgL n l L (x : Int) = am at *
                cases hf : fitP n l c x with
                | true =>
                  have HN := Lib.hid (hnx.out.yes hxn (show fitB (fitP n l) c x = true by unfold fitB; rw [hbit, hf]; rfl))
                  rw [hf] at HCQ
                  clear hbit hf
                  go_wp2_with fail
                  refine wp_region_held_drew (S := (fun w' : World => w'.cell? ⟨w.heap.size, 0, none⟩ = some (.int .i64 (n : Int)) ∧ w'.cell? ⟨w.heap.size, 1, none⟩ = some (.slice A l.length cA))) (by kernel_rfl) (by (try dsimp only); simp [*]) (fun hHeld => ?_)
                  change wpAnyH _ _ _ _ _ _ #[false, false, false, false, false, false, false, false, false, false, false, false] _ _
                  refine wpAnyH_take (i := 0) (oi := ⟨some 27, _, _, _, _, _⟩) (v := ?_) rfl (by kernel_rfl) (by kernel_rfl) (by kernel_rfl) (fun _ _ _ h => h) (Or.inl ⟨by rfl, ?_⟩) (by assumption) ?_
                  rotate_left
                  · (intro w hSw; (try dsimp only at hSw); go_simp; (try (with_reducible rfl)))
                  try simp only [Act.put, List.setIfInBounds_toArray, List.set_cons_zero, List.set_cons_succ]
                  refine wpAnyH_take (i := 1) (oi := ⟨some 28, _, _, _, _, _⟩) (v := ?_) rfl (by kernel_rfl) (by kernel_rfl) (by kernel_rfl) (fun _ _ _ h => h) (Or.inl ⟨by rfl, ?_⟩) (by assumption) ?_
                  rotate_left
                  · (intro w hSw; (try dsimp only at hSw); go_simp; (try (with_reducible rfl)))
                  try simp only [Act.put, List.setIfInBounds_toArray, List.set_cons_zero, List.set_cons_succ]
                  refine wpAnyH_ready (rs := [2]) (by kernel_rfl) (by simp) ?_
                  refine AllReadyH.cons (o := ⟨some 29, _, _, _, _, _⟩) rfl (fun K hK => ?_) AllReadyH.nil
                  go_simp
                  refine HH.out.mono ?_; rintro e w' ⟨rfl, rfl⟩
                  go_wp2_with fail
                  refine hK.out _ _ (by (try dsimp only); simp [*]) (fun hHeld => ?_)
                  clear hK K
                  try simp only [List.setIfInBounds_toArray, List.set_cons_zero, List.set_cons_succ]
                  refine wpAnyH_take (i := 3) (oi := ⟨some 30, _, _, _, _, _⟩) (v := ?_) rfl (by kernel_rfl) (by kernel_rfl) (by kernel_rfl) (fun _ _ _ h => h) (Or.inl ⟨by rfl, ?_⟩) (by assumption) ?_
                  rotate_left
                  · (intro w hSw; (try dsimp only at hSw); go_simp; (try (with_reducible rfl)))
                  try simp only [Act.put, List.setIfInBounds_toArray, List.set_cons_zero, List.set_cons_succ]
                  refine wpAnyH_take (i := 4) (oi := ⟨some 31, _, _, _, _, _⟩) (v := ?_) rfl (by kernel_rfl) (by kernel_rfl) (by kernel_rfl) (fun _ _ _ h => h) (Or.inl ⟨by rfl, ?_⟩) (by assumption) ?_
                  rotate_left
                  · (intro w hSw; (try dsimp only at hSw); go_simp; (try (with_reducible rfl)))
                  try simp only [Act.put, List.setIfInBounds_toArray, List.set_cons_zero, List.set_cons_succ]
                  refine wpAnyH_take (i := 5) (oi := ⟨some 32, _, _, _, _, _⟩) (v := ?_) rfl (by kernel_rfl) (by kernel_rfl) (by kernel_rfl) (fun _ _ _ h => h) (Or.inl ⟨by rfl, ?_⟩) (by assumption) ?_
                  rotate_left
                  · (intro w hSw; (try dsimp only at hSw); go_simp; (try (with_reducible rfl)))
                  try simp only [Act.put, List.setIfInBounds_toArray, List.set_cons_zero, List.set_cons_succ]
                  refine wpAnyH_take (i := 6) (oi := ⟨some 33, _, _, _, _, _⟩) (v := ?_) rfl (by kernel_rfl) (by kernel_rfl) (by kernel_rfl) (fun _ _ _ h => h) (Or.inl ⟨by rfl, ?_⟩) (by assumption) ?_
                  rotate_left
                  · (intro w hSw; (try dsimp only at hSw); go_simp; (try (with_reducible rfl)))
                  try simp only [Act.put, List.setIfInBounds_toArray, List.set_cons_zero, List.set_cons_succ]
                  refine wpAnyH_take (i := 7) (oi := ⟨some 34, _, _, _, _, _⟩) (v := ?_) rfl (by kernel_rfl) (by kernel_rfl) (by kernel_rfl) (fun _ _ _ h => h) (Or.inl ⟨by rfl, ?_⟩) (by assumption) ?_
                  rotate_left
                  · (intro w hSw; (try dsimp only at hSw); go_simp; (try (with_reducible rfl)))
                  try simp only [Act.put, List.setIfInBounds_toArray, List.set_cons_zero, List.set_cons_succ]
                  refine wpAnyH_take (i := 8) (oi := ⟨some 35, _, _, _, _, _⟩) (v := ?_) rfl (by kernel_rfl) (by kernel_rfl) (by kernel_rfl) (fun _ _ _ h => h) (Or.inl ⟨by rfl, ?_⟩) (by assumption) ?_
                  rotate_left
                  · (intro w hSw; (try dsimp only at hSw); go_simp; (try (with_reducible rfl)))
                  try simp only [Act.put, List.setIfInBounds_toArray, List.set_cons_zero, List.set_cons_succ]
                  refine wpAnyH_ready (rs := [9]) (by kernel_rfl) (by simp) ?_
                  refine AllReadyH.cons (o := ⟨some 36, _, _, _, _, _⟩) rfl (fun K hK => ?_) AllReadyH.nil
                  go_simp
                  refine HAM.out.mono ?_; rintro e w3 ⟨A5, c5, rfl, o5, b5⟩; have d3 : Below wr.heap.size wr w3 := btrans (Below.refl _ _).drew b5; obtain ⟨k0, k1, -, -⟩ := (HG.out.below d3 HG.out.lt).two; have HQ := Lib.hid (HCQ.out w3 A5 c5 (btrans HB.out d3) (Reads.of_own o5)); clear o5 b5
                  go_wp2_with fail
                  refine hK.out _ _ (by (try dsimp only); simp [*]) (fun hHeld => ?_)
                  clear hK K
                  try simp only [List.setIfInBounds_toArray, List.set_cons_zero, List.set_cons_succ]
                  refine wpAnyH_ready (rs := [10]) (by kernel_rfl) (by simp) ?_
                  refine AllReadyH.cons (o := ⟨some 37, _, _, _, _, _⟩) rfl (fun K hK => ?_) AllReadyH.nil
                  go_simp
                  refine HQ.out.mono ?_; rintro e w4 ⟨rfl, b6⟩; have d4 : Below wr.heap.size wr w4 := btrans d3 b6; obtain ⟨k2, k3, -, -⟩ := (HG.out.below d4 HG.out.lt).two; clear b6
                  go_wp2_with fail
                  refine hK.out _ _ (by (try dsimp only); simp [*]) (fun hHeld => ?_)
                  clear hK K
                  try simp only [List.setIfInBounds_toArray, List.set_cons_zero, List.set_cons_succ]
                  refine wpAnyH_take (i := 11) (oi := ⟨some 38, _, _, _, _, _⟩) (v := ?_) rfl (by kernel_rfl) (by kernel_rfl) (by kernel_rfl) (fun _ _ _ h => h) (Or.inl ⟨by rfl, ?_⟩) (by assumption) ?_
                  rotate_left
                  · (intro w hSw; (try dsimp only at hSw); go_simp; (try (with_reducible rfl)))
                  try simp only [Act.put, List.setIfInBounds_toArray, List.set_cons_zero, List.set_cons_succ]
                  refine wpAnyH_done (by kernel_rfl) ?_ _
                  have HR4 := Lib.hid (own_below HR.out d4)
                  have HG4 := Lib.hid (HG.out.below d4 HG.out.lt)
                  have HB4 := Lib.hid (btrans HB.out d4)
                  clear hHeld HQ d3 d4 k0 k1 k2 k3 p0 p1
                  go_wp2_with fail
                  go_roundg g4
                  case measure => omega
                  case rel => exact ⟨x + 1, (x : Int), by omega, by go_num, rfl, HN, HR4.out, HG4.out, HB4.out⟩
                | false =>
                  have HN := Lib.hid (hnx.out.no (show fitB (fitP n l) c x = false by unfold fitB; rw [hbit, hf]; rfl))
                  rw [hf] at HCQ
                  clear hbit hf
                  go_wp2_with fail
                  refine wp_region_held_drew (S := (fun w' : World => w'.cell? ⟨w.heap.size, 0, none⟩ = some (.int .i64 (n : Int)) ∧ w'.cell? ⟨w.heap.size, 1, none⟩ = some (.slice A l.length cA))) (by kernel_rfl) (by (try dsimp only); simp [*]) (fun hHeld => ?_)
                  change wpAnyH _ _ _ _ _ _ #[false, false, false, false, false, false, false, false, false, false, false, false] _ _
                  refine wpAnyH_take (i := 0) (oi := ⟨some 27, _, _, _, _, _⟩) (v := ?_) rfl (by kernel_rfl) (by kernel_rfl) (by kernel_rfl) (fun _ _ _ h => h) (Or.inl ⟨by rfl, ?_⟩) (by assumption) ?_
                  rotate_left
                  · (intro w hSw; (try dsimp only at hSw); go_simp; (try (with_reducible rfl)))
                  try simp only [Act.put, List.setIfInBounds_toArray, List.set_cons_zero, List.set_cons_succ]
                  refine wpAnyH_take (i := 1) (oi := ⟨some 28, _, _, _, _, _⟩) (v := ?_) rfl (by kernel_rfl) (by kernel_rfl) (by kernel_rfl) (fun _ _ _ h => h) (Or.inl ⟨by rfl, ?_⟩) (by assumption) ?_
                  rotate_left
                  · (intro w hSw; (try dsimp only at hSw); go_simp; (try (with_reducible rfl)))
                  try simp only [Act.put, List.setIfInBounds_toArray, List.set_cons_zero, List.set_cons_succ]
                  refine wpAnyH_ready (rs := [2]) (by kernel_rfl) (by simp) ?_
                  refine AllReadyH.cons (o := ⟨some 29, _, _, _, _, _⟩) rfl (fun K hK => ?_) AllReadyH.nil
                  go_simp
                  refine HH.out.mono ?_; rintro e w' ⟨rfl, rfl⟩
                  go_wp2_with fail
                  refine hK.out _ _ (by (try dsimp only); simp [*]) (fun hHeld => ?_)
                  clear hK K
                  try simp only [List.setIfInBounds_toArray, List.set_cons_zero, List.set_cons_succ]
                  refine wpAnyH_take (i := 3) (oi := ⟨some 30, _, _, _, _, _⟩) (v := ?_) rfl (by kernel_rfl) (by kernel_rfl) (by kernel_rfl) (fun _ _ _ h => h) (Or.inl ⟨by rfl, ?_⟩) (by assumption) ?_
                  rotate_left
                  · (intro w hSw; (try dsimp only at hSw); go_simp; (try (with_reducible rfl)))
                  try simp only [Act.put, List.setIfInBounds_toArray, List.set_cons_zero, List.set_cons_succ]
                  refine wpAnyH_take (i := 4) (oi := ⟨some 31, _, _, _, _, _⟩) (v := ?_) rfl (by kernel_rfl) (by kernel_rfl) (by kernel_rfl) (fun _ _ _ h => h) (Or.inl ⟨by rfl, ?_⟩) (by assumption) ?_
                  rotate_left
                  · (intro w hSw; (try dsimp only at hSw); go_simp; (try (with_reducible rfl)))
                  try simp only [Act.put, List.setIfInBounds_toArray, List.set_cons_zero, List.set_cons_succ]
                  refine wpAnyH_take (i := 5) (oi := ⟨some 32, _, _, _, _, _⟩) (v := ?_) rfl (by kernel_rfl) (by kernel_rfl) (by kernel_rfl) (fun _ _ _ h => h) (Or.inl ⟨by rfl, ?_⟩) (by assumption) ?_
                  rotate_left
                  · (intro w hSw; (try dsimp only at hSw); go_simp; (try (with_reducible rfl)))
                  try simp only [Act.put, List.setIfInBounds_toArray, List.set_cons_zero, List.set_cons_succ]
                  refine wpAnyH_take (i := 6) (oi := ⟨some 33, _, _, _, _, _⟩) (v := ?_) rfl (by kernel_rfl) (by kernel_rfl) (by kernel_rfl) (fun _ _ _ h => h) (Or.inl ⟨by rfl, ?_⟩) (by assumption) ?_
                  rotate_left
                  · (intro w hSw; (try dsimp only at hSw); go_simp; (try (with_reducible rfl)))
                  try simp only [Act.put, List.setIfInBounds_toArray, List.set_cons_zero, List.set_cons_succ]
                  refine wpAnyH_take (i := 7) (oi := ⟨some 34, _, _, _, _, _⟩) (v := ?_) rfl (by kernel_rfl) (by kernel_rfl) (by kernel_rfl) (fun _ _ _ h => h) (Or.inl ⟨by rfl, ?_⟩) (by assumption) ?_
                  rotate_left
                  · (intro w hSw; (try dsimp only at hSw); go_simp; (try (with_reducible rfl)))
                  try simp only [Act.put, List.setIfInBounds_toArray, List.set_cons_zero, List.set_cons_succ]
                  refine wpAnyH_take (i := 8) (oi := ⟨some 35, _, _, _, _, _⟩) (v := ?_) rfl (by kernel_rfl) (by kernel_rfl) (by kernel_rfl) (fun _ _ _ h => h) (Or.inl ⟨by rfl, ?_⟩) (by assumption) ?_
                  rotate_left
                  · (intro w hSw; (try dsimp only at hSw); go_simp; (try (with_reducible rfl)))
                  try simp only [Act.put, List.setIfInBounds_toArray, List.set_cons_zero, List.set_cons_succ]
                  refine wpAnyH_ready (rs := [9]) (by kernel_rfl) (by simp) ?_
                  refine AllReadyH.cons (o := ⟨some 36, _, _, _, _, _⟩) rfl (fun K hK => ?_) AllReadyH.nil
                  go_simp
                  refine HAM.out.mono ?_; rintro e w3 ⟨A5, c5, rfl, o5, b5⟩; have d3 : Below wr.heap.size wr w3 := btrans (Below.refl _ _).drew b5; obtain ⟨k0, k1, -, -⟩ := (HG.out.below d3 HG.out.lt).two; have HQ := Lib.hid (HCQ.out w3 A5 c5 (btrans HB.out d3) (Reads.of_own o5)); clear o5 b5
                  go_wp2_with fail
                  refine hK.out _ _ (by (try dsimp only); simp [*]) (fun hHeld => ?_)
                  clear hK K
                  try simp only [List.setIfInBounds_toArray, List.set_cons_zero, List.set_cons_succ]
                  refine wpAnyH_ready (rs := [10]) (by kernel_rfl) (by simp) ?_
                  refine AllReadyH.cons (o := ⟨some 37, _, _, _, _, _⟩) rfl (fun K hK => ?_) AllReadyH.nil
                  go_simp
                  refine HQ.out.mono ?_; rintro e w4 ⟨rfl, b6⟩; have d4 : Below wr.heap.size wr w4 := btrans d3 b6; obtain ⟨k2, k3, -, -⟩ := (HG.out.below d4 HG.out.lt).two; clear b6
                  go_wp2_with fail
                  refine hK.out _ _ (by (try dsimp only); simp [*]) (fun hHeld => ?_)
                  clear hK K
                  try simp only [List.setIfInBounds_toArray, List.set_cons_zero, List.set_cons_succ]
                  refine wpAnyH_take (i := 11) (oi := ⟨some 38, _, _, _, _, _⟩) (v := ?_) rfl (by kernel_rfl) (by kernel_rfl) (by kernel_rfl) (fun _ _ _ h => h) (Or.inl ⟨by rfl, ?_⟩) (by assumption) ?_
                  rotate_left
                  · (intro w hSw; (try dsimp only at hSw); go_simp; (try (with_reducible rfl)))
                  try simp only [Act.put, List.setIfInBounds_toArray, List.set_cons_zero, List.set_cons_succ]
                  refine wpAnyH_done (by kernel_rfl) ?_ _
                  have HR4 := Lib.hid (own_below HR.out d4)
                  have HG4 := Lib.hid (HG.out.below d4 HG.out.lt)
                  have HB4 := Lib.hid (btrans HB.out d4)
                  clear hHeld HQ d3 d4 k0 k1 k2 k3 p0 p1
                  go_wp2_with fail
                  go_roundg g4
                  case measure => omega
                  case rel => exact ⟨x + 1, -1, by omega, by go_num, rfl, HN, HR4.out, HG4.out, HB4.out⟩
          · obtain ⟨z, rfl, HOZ⟩ : ∃ z : Nat, nx = (z : Int) ∧ Hid (ordN n (fitP n l) (k + 1) = some (c ||| 2 ^ z, L ++ [(z : Int)])) := by
              rcases hnx.out with ⟨h1, _⟩ | ⟨z, hz, h1, h2, h3⟩
              · omega
              · exact ⟨z, h1, ord_some hord.out hz h2 h3⟩
            have hd0 : decide ((z : Int) < 0) = false := decide_eq_false (by omega)
            clear hB hgb hn0
            by_cases hxn : x < n
            · have hxn' : (x : Int) < (n : Int) := by omega
              go_wp2_with (at_builtin; refine wpList_append_own _ rfl _ _ 25 rfl (w.heap.size + 1) 3 i0 (.int .i64 0) 1 8 Try.underlying25 hi hz0 hz1 hz2 rfl (by decide) _ _ _ rfl (hrow.alloc _) ⟨wr.heap.size, 0, none⟩ 1 1 [.int .i64 ((z : Int))] rfl rfl (cell_one_new _ _ _) (fun x hx => by simp at hx; subst hx; rfl) (by unfold maxLen; omega) (by omega) (by simp; omega) ?_; intro v2 w2 hown2 hgrow2 _)
              have hG4 := (HG.out.alloc (.cells #[.int .i64 (z : Int)] 3)).grown hgrow2 (fun e => mids.own_ne HR.out HG.out (by decide) e.symm)
              obtain ⟨hown3, hB2⟩ := push1 hrow hown2 hgrow2 (by have := HG.out.lt; omega)
              have HO9 := Lib.hid hown3
              have HG9 := Lib.hid hG4
              have HB9 := Lib.hid (HB.out.trans (hB2.mono (by omega)))
              clear hgrow2 hown2 hB2 hrow hown3 hG4 p0 p1
              go_roundg g2
              case measure => omega
              case rel => exact ⟨k + 1, _, _, _, rfl, by omega, HOZ, HO9.out, HG9.out, HB9.out⟩
            · obtain rfl : x = n := by omega
              go_wp2_with (at_builtin; refine wpList_append_own _ rfl _ _ 25 rfl (w.heap.size + 1) 3 i0 (.int .i64 0) 1 8 Try.underlying25 hi hz0 hz1 hz2 rfl (by decide) _ _ _ rfl (hrow.alloc _) ⟨wr.heap.size, 0, none⟩ 1 1 [.int .i64 ((z : Int))] rfl rfl (cell_one_new _ _ _) (fun x hx => by simp at hx; subst hx; rfl) (by unfold maxLen; omega) (by omega) (by simp; omega) ?_; intro v2 w2 hown2 hgrow2 _)
              have hG4 := (HG.out.alloc (.cells #[.int .i64 (z : Int)] 3)).grown hgrow2 (fun e => mids.own_ne HR.out HG.out (by decide) e.symm)
              obtain ⟨hown3, hB2⟩ := push1 hrow hown2 hgrow2 (by have := HG.out.lt; omega)
              have HO9 := Lib.hid hown3
              have HG9 := Lib.hid hG4
              have HB9 := Lib.hid (HB.out.trans (hB2.mono (by omega)))
              clear hgrow2 hown2 hB2 hrow hown3 hG4 p0 p1
              go_roundg g2
              case measure => omega
              case rel => exact ⟨k + 1, _, _, _, rfl, by omega, HOZ, HO9.out, HG9.out, HB9.out⟩
  · rw [goodB_no hgd] at HG
    have HN : Hid (¬ PerfOk s l) := fun h => hgd h.1
    clear hgd
    go_enter Try.func39, Try.ntmps39
    go_wp2_with fail
    refine HG.out.mono ?_
    rintro e w2 ⟨rfl, b2⟩
    have HE2 := Lib.hid (btrans HB0.out b2)
    have HO2 := Lib.hid (own_below HO0.out b2)
    clear HG b2 HB0 HO0
    go_wp2_with fail
    go_ret2
    exact RetI.no HN.out (own_base HO2.out (by omega)) HE2.out
end Go.Proofs.Ytphlpipbhaiijaa.costs
