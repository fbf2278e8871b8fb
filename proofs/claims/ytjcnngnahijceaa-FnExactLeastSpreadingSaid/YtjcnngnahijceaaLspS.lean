/- The contracts of the model's l4Less over lists of the same length, and of LeastSpreading. -/
import Derived.Handy
import Derived.Test.YtjcnngnahijceaaLspI
import Derived.Test.YtjcnngnahijceaaSpreS
import Derived.Deep.DeepCutAuto
import Derived.Deep.RegionHeld3
import Derived.Deep.QuietTactic
namespace Go.Proofs.Ytjcnngnahijceaa.ups
open Go.RowKit P2 words edges ints good adjs fns sets rets covs bags balls bitsI func
set_option linter.unusedVariables false

theorem dropI {L : List Int} {i : Nat} {x : Int} (h : L[i]? = some x) : L.drop i = x :: L.drop (i + 1) := by
  obtain ⟨h1, h2⟩ := List.getElem?_eq_some_iff.1 h
  rw [List.drop_eq_getElem_cons h1, h2]
theorem lexI_same {a b : List Int} {i : Nat} {x : Int} (ha : a[i]? = some x) (hb : b[i]? = some x) : lexI (a.drop i) (b.drop i) = lexI (a.drop (i + 1)) (b.drop (i + 1)) := by
  rw [dropI ha, dropI hb]; show (if x = x then _ else _) = _; rw [if_pos rfl]
theorem lexI_diff {a b : List Int} {i : Nat} {x y : Int} (ha : a[i]? = some x) (hb : b[i]? = some y) (h : x ≠ y) : lexI (a.drop i) (b.drop i) = decide (x < y) := by
  rw [dropI ha, dropI hb]; show (if x = y then _ else _) = _; rw [if_neg h]
theorem lexI_end {a b : List Int} : lexI (a.drop a.length) b = false := by
  rw [List.drop_length]; cases b <;> rfl
set_option maxHeartbeats 2000000 in
set_option maxRecDepth 100000 in
theorem l4LessI_any (u v : Value) (a b : List Int) (w : World) (hu : Ints w u a) (hv : Ints w v b) (hl : a.length = b.length) (ha : a.length ≤ 1048576) :
    Calls Try.prog 73 #[u, v] w fun e w' => e = .returned (.bool (lexI a b)) ∧ Below w.heap.size w w' := by
  obtain ⟨A1, c1, rfl, hc1⟩ := hu.form
  obtain ⟨A2, c2, rfl, hc2⟩ := hv.form
  have HC1 := Lib.hid hc1
  have HC2 := Lib.hid hc2
  have HL := Lib.hid hl
  clear hu hv hc1 hc2 hl
  go_enter Try.func73, Try.ntmps73
  go_wp2_with fail
  go_loopg [5] a.length (fun g i wr => ∃ k : Nat, k + g = a.length ∧ i = .int .i64 (k : Int) ∧ Hid (lexI (a.drop k) (b.drop k) = lexI a b) ∧ Below w.heap.size w wr)
  case atStart => exact ⟨0, by omega, rfl, by show _ = _; rw [List.drop_zero, List.drop_zero], Below.refl _ _⟩
  case round =>
    obtain ⟨k, hkg, rfl, hr, hB⟩ := hrel
    cases gk with
    | zero =>
      obtain rfl : k = a.length := by omega
      have HV : Hid (lexI a b = false) := by show _ = _; rw [← hr.out, lexI_end]
      go_wp2_with fail
      go_ret
      rw [HV.out]
      exact ⟨rfl, hB⟩
    | succ gg =>
      have hlt : k < a.length := by omega
      have hlt' : (k : Int) < (a.length : Int) := by omega
      have hlb' : (k : Int) < (b.length : Int) := by rw [← HL.out]; omega
      obtain ⟨x, hx⟩ : ∃ x, a[k]? = some x := ⟨_, List.getElem?_eq_getElem hlt⟩
      obtain ⟨y, hy⟩ : ∃ y, b[k]? = some y := ⟨_, List.getElem?_eq_getElem (by have := HL.out; omega)⟩
      obtain ⟨g1, o1, rfl, q1⟩ := HC1.out k _ hx
      obtain ⟨g2, o2, rfl, q2⟩ := HC2.out k _ hy
      have r1 := nearv.cell_keep q1 hB
      have r2 := nearv.cell_keep q2 hB
      have HB := Lib.hid (fun nq => below_drewN hB nq)
      have HB2 := Lib.hid (fun n1 n2 => below_drewN (below_drewN hB n1) n2)
      by_cases hxy : x = y
      · subst hxy
        have HK : Hid (lexI (a.drop (k + 1)) (b.drop (k + 1)) = lexI a b) := (lexI_same hx hy).symm.trans hr.out
        have d0 : (x != x) = false := by simp
        clear hx hy q1 q2 hB
        go_wp2_with fail
        go_quiet (fail)
        go_wp2_with fail
        go_roundg gg
        case measure => omega
        case rel => exact ⟨k + 1, by omega, by go_num, HK, HB.out _⟩
      · have HV : Hid (decide (x < y) = lexI a b) := (lexI_diff hx hy hxy).symm.trans hr.out
        have d0 : (x != y) = true := by simpa using hxy
        clear hx hy q1 q2 hB
        go_wp2_with fail
        go_quiet (fail)
        go_wp2_with fail
        go_quiet (fail)
        go_wp2_with fail
        go_ret
        exact ⟨ret_bool HV.out, HB2.out _ _⟩
theorem full_len {n : Nat} {l : List Ed} {r c : Nat} (hn : n ≤ 8) (h : spN n l r c < 2 ^ n) : fullB n l r c = decide (¬ (nw (bitB (spN n l r c)) n).length < n) := by
  have h8 := Nat.lt_of_lt_of_le h (pow_le hn)
  have h1 := ones_full ⟨n, by omega⟩ ⟨spN n l r c, h8⟩ h
  have h2 := ones_topN hn h
  rw [nd_bits hn h, nd_len]
  unfold fullB
  simp only at h1
  rw [Bool.eq_iff_iff, beq_iff_eq, decide_eq_true_iff, ← h1]
  omega
set_option maxHeartbeats 8000000 in
set_option maxRecDepth 100000 in
theorem specLsp_any (s r : Int) (v : Value) (l : List Ed) (w : World) (h : Edges w v l) (hl : l.length ≤ 1048576) (hs1 : -9223372036854775808 ≤ s) (hs2 : s ≤ 9223372036854775807) :
    Calls Try.prog 24 #[.agg #[.int .i64 s, v], .int .i64 r] w (RetI w (NumOk s l r) (ndN (lspN s.toNat l r.toNat))) := by
  obtain ⟨A, c, rfl, -⟩ := h.form
  have H := Lib.hid h
  have b0 : Below w.heap.size w (w.alloc (.cells #[.int .i64 s, .slice A l.length c] 28)) := (Below.refl _ _).alloc (Nat.le_refl _) _
  have g0 := Blk.new w 28 #[.int .i64 s, .slice A l.length c]
  obtain ⟨p0, p1, -, -⟩ := g0.two
  have HGD := Lib.hid (l2Good_any s _ l _ (h.below b0) hl hs1 hs2)
  have HB0 := Lib.hid b0
  have HG0 := Lib.hid g0
  clear h b0 g0
  by_cases hgd : P2.Good s l
  · rw [goodB_yes hgd] at HGD
    have h0 := hgd.1
    have h8 := hgd.2.1
    by_cases hrr : 1 ≤ r ∧ r ≤ 8
    · have HLN := Lib.hid (fun (W : World) => l8Number_any r W)
      rw [inB_num hrr] at HLN
      have HOK : Hid (NumOk s l r) := ⟨hgd, hrr⟩
      obtain ⟨n, rfl⟩ : ∃ n : Nat, s = (n : Int) := ⟨s.toNat, by omega⟩
      have hn : n ≤ 8 := by omega
      obtain ⟨rr, rfl⟩ : ∃ rr : Nat, r = (rr : Int) := ⟨r.toNat, by omega⟩
      have hr1 : 1 ≤ rr := by omega
      rw [Int.toNat_natCast, Int.toNat_natCast]
      have HA := Lib.hid (fun (W : World) (hW : Below w.heap.size w W) => l2All_any n (.slice A l.length c) W hn)
      clear hgd hrr
      go_enter Try.func24, Try.ntmps24
      go_wp2_with fail
      refine HGD.out.mono ?_
      rintro e w1 ⟨rfl, b1⟩
      have HE1 := Lib.hid (btrans HB0.out b1)
      have HG1 := Lib.hid (HG0.out.below b1 HG0.out.lt)
      clear p0 p1 b1 HGD HB0 HG0
      obtain ⟨p0, p1, -, -⟩ := HG1.out.two
      go_wp2_with fail
      refine (HLN.out _).mono ?_
      rintro e w' ⟨rfl, rfl⟩
      go_wp2_with fail
      refine (HA.out w1 HE1.out).mono ?_
      rintro e w2 ⟨A2, c2, rfl, o2, b2⟩
      rw [← bits_all] at o2 ⊢
      have HE2 := Lib.hid (btrans HE1.out b2)
      have HG2 := Lib.hid (HG1.out.below b2 HG1.out.lt)
      have HO2 := Lib.hid (own_base (B' := w.heap.size) o2 HE1.out.size)
      have HM0 : Hid (MaxC (fullB n l rr) rkMin n 0 (2 ^ n - 1)) := ⟨by have := Nat.pow_pos (n := n) (show 0 < 2 by decide); omega, full_all n l rr, fun c hc => by omega⟩
      have HPW := Lib.hid (pow_le hn)
      have HBE := Lib.hid (fun (b : Nat) (hb : MaxC (fullB n l rr) rkMin n (2 ^ n) b) => bestC_is hn rkMin_inj hb)
      have HFL := Lib.hid (fun (c : Nat) (h : spN n l rr c < 2 ^ n) => full_len (n := n) (l := l) (r := rr) (c := c) hn h)
      have HTK : Hid (∀ k bst, MaxC (fullB n l rr) rkMin n k bst → k < 2 ^ n → fullB n l rr k = true → rkMin bst < rkMin k → MaxC (fullB n l rr) rkMin n (k + 1) k) := fun k bst h1 h2 h3 h4 => maxC_take h1 h2 h3 h4
      have HND : Hid (∀ c, c < 2 ^ n → nw (bitB c) n = ndN c) := fun c hc => nd_bits hn hc
      have HSP := Lib.hid (fun (k : Nat) (hk : k < 2 ^ n) (W : World) (u : Value) (hW : Below w.heap.size w W) (hu : Ints W u (nw (bitB k) n)) => l8Spread_any n rr k (.slice A l.length c) u l W (H.out.below hW) hl hu HOK.out.1 hn hk hr1)
      have HBT := Lib.hid (fun (bst k : Nat) (hb : MaxC (fullB n l rr) rkMin n k bst) => hb.1)
      clear p0 p1 b2 o2
      have hsh : IntKind.i64.wrap ((2 : Int) ^ n) = ((2 ^ n : Nat) : Int) := by
        have hpn := pow_le hn
        rw [show ((2 : Int) ^ n) = ((2 ^ n : Nat) : Int) from by simp]
        generalize 2 ^ n = z at *
        exact Go.IntWalk.i64_in _ (by omega)
      have hN256 := HPW.out
      generalize hNN : 2 ^ n = N at *
      have HNN := Lib.hid hNN
      clear hNN
      go_wp2_with fail
      go_loopg [6, 7] N (fun g bv cv wr => ∃ (k bst : Nat) (ow : Value), ow = bv ∧ k + g = N ∧ cv = .int .i64 (k : Int) ∧ Hid (MaxC (fullB n l rr) rkMin n k bst) ∧ wr.ownsRow w.heap.size 3 1 ow (nw (bitB bst) n).length (cellsI (nw (bitB bst) n)) ∧ Blk wr w.heap.size 28 #[.int .i64 (n : Int), .slice A l.length c] ∧ Below w.heap.size w wr)
      case atStart => exact ⟨0, N - 1, _, rfl, by omega, rfl, HM0, HO2.out, HG2.out, HE2.out⟩
      case round =>
        clear HM0 HO2 HG2 HE2
        obtain ⟨k, bst, ow, rfl, hkg, rfl, hmx, hrow, hgb, hB⟩ := hrel
        obtain ⟨A4, c4, rfl⟩ := own_form hrow
        obtain ⟨p0, p1, -, -⟩ := hgb.two
        have HR := Lib.hid hrow
        have HG := Lib.hid hgb
        have HB := Lib.hid hB
        have hbl := nw_len (bitB bst) n
        have HBN := Lib.hid (HBT.out bst k hmx.out)
        have HB2 := Lib.hid (HND.out bst HBN.out)
        clear hrow hgb hB
        cases gk with
        | zero =>
          obtain rfl : k = N := by omega
          have HV : Hid (lspN n l rr = bst) := HBE.out bst hmx.out
          go_wp2_with fail
          go_ret2
          have HR2 := HR.out
          rw [HB2.out] at HR2 ⊢
          rw [HV.out]
          exact RetI.yes HOK.out HR2 HB.out
        | succ g2 =>
          have hkN : k < N := by omega
          have hkN' : (k : Int) < (N : Int) := by omega
          have HBI := Lib.hid (l2Bits_any n k wr hn (by omega))
          have HNK := Lib.hid (HND.out k hkN)
          have hkl := nw_len (bitB k) n
          go_wp2_with fail
          refine HBI.out.mono ?_
          rintro e w3 ⟨A5, c5, rfl, o5, b5⟩
          have HB3 := Lib.hid (btrans HB.out b5)
          have HG3 := Lib.hid (HG.out.below b5 HG.out.lt)
          have HR3 := Lib.hid (own_below HR.out b5)
          have HO5 := Lib.hid (own_base (B' := w.heap.size) o5 HB.out.size)
          have HS3 := Lib.hid (HSP.out k hkN w3.drew (.slice A5 (nw (bitB k) n).length c5) HB3.out.drew (Reads.below (Reads.of_own o5) (Below.refl _ _).drew))
          clear p0 p1 b5 o5
          obtain ⟨p0, p1, -, -⟩ := HG3.out.two
          go_wp2_with fail
          refine wp_region_held_drew (S := (fun w' : World => w'.cell? ⟨w.heap.size, 0, none⟩ = some (.int .i64 (n : Int)) ∧ w'.cell? ⟨w.heap.size, 1, none⟩ = some (.slice A l.length c))) (by kernel_rfl) (by (try dsimp only); simp [*]) (fun hHeld => ?_)
          change wpAnyH _ _ _ _ _ _ #[false, false, false, false, false, false, false, false] _ _
          refine wpAnyH_take (i := 0) (oi := ⟨some 31, _, _, _, _, _⟩) (v := ?_) rfl (by kernel_rfl) (by kernel_rfl) (by kernel_rfl) (fun _ _ _ h => h) (Or.inl ⟨by rfl, ?_⟩) (by assumption) ?_
          rotate_left
          · (intro w hSw; (try dsimp only at hSw); go_simp; (try (with_reducible rfl)))
          try simp only [Act.put, List.setIfInBounds_toArray, List.set_cons_zero, List.set_cons_succ]
          refine wpAnyH_take (i := 1) (oi := ⟨some 32, _, _, _, _, _⟩) (v := ?_) rfl (by kernel_rfl) (by kernel_rfl) (by kernel_rfl) (fun _ _ _ h => h) (Or.inl ⟨by rfl, ?_⟩) (by assumption) ?_
          rotate_left
          · (intro w hSw; (try dsimp only at hSw); go_simp; (try (with_reducible rfl)))
          try simp only [Act.put, List.setIfInBounds_toArray, List.set_cons_zero, List.set_cons_succ]
          refine wpAnyH_take (i := 2) (oi := ⟨some 33, _, _, _, _, _⟩) (v := ?_) rfl (by kernel_rfl) (by kernel_rfl) (by kernel_rfl) (fun _ _ _ h => h) (Or.inl ⟨by rfl, ?_⟩) (by assumption) ?_
          rotate_left
          · (intro w hSw; (try dsimp only at hSw); go_simp; (try (with_reducible rfl)))
          try simp only [Act.put, List.setIfInBounds_toArray, List.set_cons_zero, List.set_cons_succ]
          refine wpAnyH_take (i := 5) (oi := ⟨some 36, _, _, _, _, _⟩) (v := ?_) rfl (by kernel_rfl) (by kernel_rfl) (by kernel_rfl) (fun _ _ _ h => h) (Or.inl ⟨by rfl, ?_⟩) (by assumption) ?_
          rotate_left
          · (intro w hSw; (try dsimp only at hSw); go_simp; (try (with_reducible rfl)))
          try simp only [Act.put, List.setIfInBounds_toArray, List.set_cons_zero, List.set_cons_succ]
          refine wpAnyH_take (i := 6) (oi := ⟨some 37, _, _, _, _, _⟩) (v := ?_) rfl (by kernel_rfl) (by kernel_rfl) (by kernel_rfl) (fun _ _ _ h => h) (Or.inl ⟨by rfl, ?_⟩) (by assumption) ?_
          rotate_left
          · (intro w hSw; (try dsimp only at hSw); go_simp; (try (with_reducible rfl)))
          try simp only [Act.put, List.setIfInBounds_toArray, List.set_cons_zero, List.set_cons_succ]
          refine wpAnyH_ready (rs := [3]) (by kernel_rfl) (by simp) ?_
          refine AllReadyH.cons (o := ⟨some 34, _, _, _, _, _⟩) rfl (fun K hK => ?_) AllReadyH.nil
          go_simp
          refine HS3.out.mono ?_; rintro e w4 ⟨hslt, A6, c6, rfl, o6, b6⟩; have d4 : Below w3.heap.size w3 w4 := btrans (Below.refl _ _).drew b6; obtain ⟨k0, k1, -, -⟩ := (HG3.out.below d4 HG3.out.lt).two
          go_wp2_with fail
          refine hK.out _ _ (by (try dsimp only); simp [*]) (fun hHeld => ?_)
          clear hK K
          try simp only [List.setIfInBounds_toArray, List.set_cons_zero, List.set_cons_succ]
          refine wpAnyH_take (i := 4) (oi := ⟨some 35, _, _, _, _, _⟩) (v := ?_) rfl (by kernel_rfl) (by kernel_rfl) (by kernel_rfl) (fun _ _ _ h => h) (Or.inl ⟨by rfl, ?_⟩) (by assumption) ?_
          rotate_left
          · (intro w hSw; (try dsimp only at hSw); go_simp; (try (with_reducible rfl)))
          try simp only [Act.put, List.setIfInBounds_toArray, List.set_cons_zero, List.set_cons_succ]
          refine wpAnyH_take (i := 7) (oi := ⟨some 38, _, _, _, _, _⟩) (v := ?_) rfl (by kernel_rfl) (by kernel_rfl) (by kernel_rfl) (fun _ _ _ h => h) (Or.inl ⟨by rfl, ?_⟩) (by assumption) ?_
          rotate_left
          · (intro w hSw; (try dsimp only at hSw); go_simp; (try (with_reducible rfl)))
          try simp only [Act.put, List.setIfInBounds_toArray, List.set_cons_zero, List.set_cons_succ]
          refine wpAnyH_done (by kernel_rfl) ?_ _
          have HB4 := Lib.hid (btrans HB3.out d4)
          have HG4 := Lib.hid (HG3.out.below d4 HG3.out.lt)
          have HR4 := Lib.hid (own_below HR3.out d4)
          have HO4 := Lib.hid (own_below HO5.out d4)
          have hfl := HFL.out k hslt
          have h12 : Hid ((nw (bitB k) n).length = onesN k ∧ (nw (bitB bst) n).length = onesN bst) := ⟨by rw [HNK.out]; rfl, by rw [HB2.out]; rfl⟩
          have hbm := better_min (a := k) (b := bst) (by omega) (by have := HBN.out; omega)
          clear p0 p1 d4 k0 k1 o6 b6 hslt hHeld HS3
          cases hfb : fullB n l rr k with
          | false =>
            have HN := Lib.hid (maxC_skip hmx.out hfb)
            rw [hfb] at hfl
            have hlt3 : (nw (bitB (spN n l rr k)) n).length < n := by
              have := of_decide_eq_false hfl.symm
              omega
            have hlt4 : ((nw (bitB (spN n l rr k)) n).length : Int) < (n : Int) := by omega
            clear hfl hfb hbm
            go_wp2_with fail
            go_roundg g2
            case measure => omega
            case rel => exact ⟨k + 1, bst, _, rfl, by omega, by go_num, HN, HR4.out, HG4.out, HB4.out⟩
          | true =>
            rw [hfb] at hfl
            have hlt3 : ¬ (nw (bitB (spN n l rr k)) n).length < n := of_decide_eq_true hfl.symm
            have hlt4 : ¬ ((nw (bitB (spN n l rr k)) n).length : Int) < (n : Int) := by omega
            have HTT := Lib.hid (fun (h : rkMin bst < rkMin k) => HTK.out k bst hmx.out hkN hfb h)
            have HLL := Lib.hid (fun (h : ¬ rkMin bst < rkMin k) => maxC_less hmx.out h)
            clear hfl hfb
            by_cases c1 : onesN k < onesN bst
            · have c2 : (nw (bitB k) n).length < (nw (bitB bst) n).length := by rw [h12.out.1, h12.out.2]; exact c1
              have c3 : ((nw (bitB k) n).length : Int) < ((nw (bitB bst) n).length : Int) := by omega
              have HN := Lib.hid (HTT.out (by rw [decide_eq_true c1, Bool.true_or] at hbm; exact of_decide_eq_true hbm.symm))
              clear hbm c1
              go_wp2_with fail
              go_roundg g2
              case measure => omega
              case rel => exact ⟨k + 1, k, _, rfl, by omega, by go_num, HN, HO4.out, HG4.out, HB4.out⟩
            · have c2 : ¬ (nw (bitB k) n).length < (nw (bitB bst) n).length := by rw [h12.out.1, h12.out.2]; exact c1
              have c3 : ¬ ((nw (bitB k) n).length : Int) < ((nw (bitB bst) n).length : Int) := by omega
              rw [decide_eq_false c1, Bool.false_or] at hbm
              by_cases c4 : onesN k = onesN bst
              · have c5 : Hid ((nw (bitB k) n).length = (nw (bitB bst) n).length) := by show _ = _; rw [h12.out.1, h12.out.2]; exact c4
                have c6 : (((nw (bitB k) n).length : Int) == ((nw (bitB bst) n).length : Int)) = true := by rw [c5.out]; simp
                have c7 : ((nw (bitB k) n).length == (nw (bitB bst) n).length) = true := by rw [c5.out]; simp
                rw [decide_eq_true c4, Bool.true_and] at hbm
                have HLS := Lib.hid (l4LessI_any _ _ (nw (bitB k) n) (nw (bitB bst) n) w4 (show Ints _ _ _ from Reads.of_own HO4.out) (show Ints _ _ _ from Reads.of_own HR4.out) c5.out (by omega))
                rw [HNK.out, HB2.out, hbm] at HLS
                rw [← HNK.out, ← HB2.out] at HLS
                clear c1 c4 hbm
                by_cases hlx : rkMin bst < rkMin k
                · rw [decide_eq_true hlx] at HLS
                  have HN := Lib.hid (HTT.out hlx)
                  clear hlx
                  go_wp2_with fail
                  refine HLS.out.mono ?_
                  rintro e w5 ⟨rfl, b7⟩
                  have HB5 := Lib.hid (btrans HB4.out b7)
                  have HG5 := Lib.hid (HG4.out.below b7 HG4.out.lt)
                  have HO7 := Lib.hid (own_below HO4.out b7)
                  clear b7
                  go_wp2_with fail
                  go_roundg g2
                  case measure => omega
                  case rel => exact ⟨k + 1, k, _, rfl, by omega, by go_num, HN, HO7.out, HG5.out, HB5.out⟩
                · rw [decide_eq_false hlx] at HLS
                  have HN := Lib.hid (HLL.out hlx)
                  clear hlx
                  go_wp2_with fail
                  refine HLS.out.mono ?_
                  rintro e w5 ⟨rfl, b7⟩
                  have HB5 := Lib.hid (btrans HB4.out b7)
                  have HG5 := Lib.hid (HG4.out.below b7 HG4.out.lt)
                  have HR7 := Lib.hid (own_below HR4.out b7)
                  clear b7
                  go_wp2_with fail
                  go_roundg g2
                  case measure => omega
                  case rel => exact ⟨k + 1, bst, _, rfl, by omega, by go_num, HN, HR7.out, HG5.out, HB5.out⟩
              · have c5 : (nw (bitB k) n).length ≠ (nw (bitB bst) n).length := by rw [h12.out.1, h12.out.2]; exact c4
                have c6 : (((nw (bitB k) n).length : Int) == ((nw (bitB bst) n).length : Int)) = false := by rw [beq_eq_false_iff_ne]; omega
                have c7 : ((nw (bitB k) n).length == (nw (bitB bst) n).length) = false := by rw [beq_eq_false_iff_ne]; exact c5
                rw [decide_eq_false c4, Bool.false_and] at hbm
                have HN := Lib.hid (HLL.out (of_decide_eq_false hbm.symm))
                clear c1 c4 hbm
                go_wp2_with fail
                go_roundg g2
                case measure => omega
                case rel => exact ⟨k + 1, bst, _, rfl, by omega, by go_num, HN, HR4.out, HG4.out, HB4.out⟩
    · have HLN := Lib.hid (fun (W : World) => l8Number_any r W)
      rw [inB_non hrr] at HLN
      have HNO : Hid (¬ NumOk s l r) := fun h => hrr h.2
      clear hgd hrr
      go_enter Try.func24, Try.ntmps24
      go_wp2_with fail
      refine HGD.out.mono ?_
      rintro e w1 ⟨rfl, b1⟩
      have HE1 := Lib.hid (btrans HB0.out b1)
      clear p0 p1 b1 HGD HB0 HG0
      go_wp2_with fail
      refine (HLN.out _).mono ?_
      rintro e w' ⟨rfl, rfl⟩
      go_wp2_with fail
      go_ret2
      exact RetI.no HNO.out (own_base (own_new0 w1 3 1) HE1.out.size) (HE1.out.alloc HE1.out.size _)
  · rw [goodB_no hgd] at HGD
    have HNO : Hid (¬ NumOk s l r) := fun h => hgd h.1
    clear hgd
    go_enter Try.func24, Try.ntmps24
    go_wp2_with fail
    refine HGD.out.mono ?_
    rintro e w1 ⟨rfl, b1⟩
    have HE1 := Lib.hid (btrans HB0.out b1)
    clear p0 p1 b1
    go_wp2_with fail
    go_ret2
    exact RetI.no HNO.out (own_base (own_new0 w1 3 1) HE1.out.size) (HE1.out.alloc HE1.out.size _)
theorem lsp_len (s : Int) (l : List Ed) (r : Int) : (inG (NumOk s l r) (ndN (lspN s.toNat l r.toNat))).length ≤ 1048576 := inG_len fun _ => by
  unfold ndN
  have := nw_len (bitB (lspN s.toNat l r.toNat)) 8
  omega
end Go.Proofs.Ytjcnngnahijceaa.ups
