/- Guards: the contracts of the model's LeastDominating. -/
import Derived.Handy
import Derived.Test.YthpodbhiopnnbaaK14
import Derived.Deep.DeepCutAuto
import Derived.Deep.RegionHeld3
import Derived.Deep.QuietTactic
namespace Go.Proofs.Ythpodbhiopnnbaa.ups
open Go.RowKit P2 words edges ints good adjs fns sets rets covs bags balls bitsI func costs
set_option linter.unusedVariables false

theorem code_nwD {n b : Nat} (hb : b < 2 ^ n) : codeL (nw (bitB b) n) = b := by
  have hs : ∀ x ∈ nw (bitB b) n, (0 : Int) ≤ x := fun x hx => by obtain ⟨j, _, _, rfl⟩ := mem_nw.1 hx; omega
  apply Nat.eq_of_testBit_eq
  intro i
  rw [code_bit hs, Bool.eq_iff_iff, decide_eq_true_iff, mem_nw]
  constructor
  · rintro ⟨j, _, hp, e⟩
    have : i = j := by omega
    subst this; exact hp
  · intro h
    refine ⟨i, ?_, h, rfl⟩
    by_cases e : i < n
    · exact e
    · rw [Nat.testBit_lt_two_pow (Nat.lt_of_lt_of_le hb (Nat.pow_le_pow_right (by decide) (by omega)))] at h
      cases h
set_option maxHeartbeats 8000000 in
set_option maxRecDepth 100000 in
theorem specLd_any (s : Int) (v : Value) (l : List Ed) (w : World) (h : Edges w v l) (hl : l.length ≤ 1048576) (hs1 : -9223372036854775808 ≤ s) (hs2 : s ≤ 9223372036854775807) :
    Calls Try.prog 16 #[.agg #[.int .i64 s, v]] w (RetI w (P2.Good s l) (ndN (ldN s.toNat l))) := by
  obtain ⟨A, c, rfl, -⟩ := h.form
  have H := Lib.hid h
  have b0 : Below w.heap.size w (w.alloc (.cells #[.int .i64 s, .slice A l.length c] 29)) := (Below.refl _ _).alloc (Nat.le_refl _) _
  have g0 := Blk.new w 29 #[.int .i64 s, .slice A l.length c]
  obtain ⟨p0, p1, -, -⟩ := g0.two
  have HGD := Lib.hid (l2Good_any s _ l _ (h.below b0) hl hs1 hs2)
  have HB0 := Lib.hid b0
  have HG0 := Lib.hid g0
  clear h b0 g0
  by_cases hgd : P2.Good s l
  · rw [goodB_yes hgd] at HGD
    have h0 := hgd.1
    have h8 := hgd.2.1
    have HOK := Lib.hid hgd
    obtain ⟨n, rfl⟩ : ∃ n : Nat, s = (n : Int) := ⟨s.toNat, by omega⟩
    have hn : n ≤ 8 := by omega
    rw [Int.toNat_natCast]
    clear hgd
    have HM0 : Hid (MaxC (domB n l) rkMin n 0 (2 ^ n - 1)) := ⟨by have := Nat.pow_pos (n := n) (show 0 < 2 by decide); omega, dom_full n l, fun c hc => by omega⟩
    have HA := Lib.hid (fun (W : World) => l2All_any n (.slice A l.length c) W hn)
    have HPW := Lib.hid (pow_le hn)
    have HP1 : Hid (1 ≤ 2 ^ n) := Nat.one_le_two_pow
    have HBE := Lib.hid (fun (b : Nat) (hb : MaxC (domB n l) rkMin n (2 ^ n) b) => (bestC_is hn rkMin_inj hb : ldN n l = b))
    have HTK : Hid (∀ k bst, MaxC (domB n l) rkMin n k bst → k < 2 ^ n → domB n l k = true → rkMin bst < rkMin k → MaxC (domB n l) rkMin n (k + 1) k) := fun k bst h1 h2 h3 h4 => maxC_take h1 h2 h3 h4
    have HND : Hid (∀ c, c < 2 ^ n → nw (bitB c) n = ndN c) := fun c hc => nd_bits hn hc
    have HCQ := Lib.hid (fun (k : Nat) (hk : k < 2 ^ n) (W : World) (hW : Below w.heap.size w W) (u : Value) (hu : Ints W u (nw (bitB k) n)) => (by have h_ := l10Dom_any n (.slice A l.length c) u l (nw (bitB k) n) W (H.out.below hW) hl hu (by have := nw_len (bitB k) n; omega) hn (fun x hx => by obtain ⟨j, hj, _, rfl⟩ := mem_nw.1 hx; omega); rw [code_nwD hk] at h_; exact h_ : Calls Try.prog 37 #[.agg #[.int .i64 (n : Int), .slice A l.length c], u] W fun e w' => e = .returned (.bool (domB n l k)) ∧ Below W.heap.size W w'))
    have HBT := Lib.hid (fun (bst k : Nat) (hb : MaxC (domB n l) rkMin n k bst) => hb.1)
    have hsh : IntKind.i64.wrap ((2 : Int) ^ n) = ((2 ^ n : Nat) : Int) := by
      have hpn := pow_le hn
      rw [show ((2 : Int) ^ n) = ((2 ^ n : Nat) : Int) from by simp]
      generalize 2 ^ n = z at *
      exact Go.IntWalk.i64_in _ (by omega)
    have hN256 := HPW.out
    have hN1 := HP1.out
    generalize hNN : 2 ^ n = N at *
    have HNN := Lib.hid hNN
    clear hNN
    go_enter Try.func16, Try.ntmps16
    go_wp2_with fail
    refine HGD.out.mono ?_
    rintro e w2 ⟨rfl, b2⟩
    have HE2 := Lib.hid (btrans HB0.out b2)
    have HG2 := Lib.hid (HG0.out.below b2 HG0.out.lt)
    clear p0 p1 b2 HGD HB0 HG0
    obtain ⟨p0, p1, -, -⟩ := HG2.out.two
    go_wp2_with fail
    refine (HA.out w2).mono ?_
    rintro e w3 ⟨A2, c2, rfl, o2, b2⟩
    rw [← bits_all, HNN.out] at o2 ⊢
    have HE3 := Lib.hid (btrans HE2.out b2)
    have HG3 := Lib.hid (HG2.out.below b2 HG2.out.lt)
    have HO3 := Lib.hid (own_base (B' := w.heap.size) o2 HE2.out.size)
    clear p0 p1 b2 o2 HE2 HG2
    obtain ⟨p0, p1, -, -⟩ := HG3.out.two
    go_wp2_with fail
    go_loopg [4, 5] N (fun g bv cv wr => ∃ (k bst : Nat) (ow : Value), ow = bv ∧ k + g = N ∧ cv = .int .i64 (k : Int) ∧ Hid (MaxC (domB n l) rkMin n k bst) ∧ wr.ownsRow w.heap.size 3 1 ow (nw (bitB bst) n).length (cellsI (nw (bitB bst) n)) ∧ Blk wr w.heap.size 29 #[.int .i64 (n : Int), .slice A l.length c] ∧ Below w.heap.size w wr)
    case atStart => exact ⟨0, N - 1, _, rfl, by omega, rfl, HM0, HO3.out, HG3.out, HE3.out⟩
    case round =>
      clear HM0 HO3 HG3 HE3
      obtain ⟨k, bst, ow, rfl, hkg, rfl, hmx, hrow, hgb, hB⟩ := hrel
      obtain ⟨A4, c4, rfl⟩ := own_form hrow
      obtain ⟨p0, p1, -, -⟩ := hgb.two
      have HR := Lib.hid hrow
      have HG := Lib.hid hgb
      have HB := Lib.hid hB
      have hbl := nw_len (bitB bst) n
      have HBN := Lib.hid (HBT.out bst k hmx.out)
      have HB2 := Lib.hid (HND.out bst HBN.out)
      clear hrow hgb hB
      cases gk with
      | zero =>
        obtain rfl : k = N := by omega
        have HV : Hid (ldN n l = bst) := HBE.out bst hmx.out
        go_wp2_with fail
        go_ret2
        have HR2 := HR.out
        rw [HB2.out] at HR2 ⊢
        rw [HV.out]
        exact RetI.yes HOK.out HR2 HB.out
      | succ g2 =>
        have hkN : k < N := by omega
        have hkN' : (k : Int) < (N : Int) := by omega
        have HBI := Lib.hid (l2Bits_any n k wr hn (by omega))
        have HNK := Lib.hid (HND.out k hkN)
        have hkl := nw_len (bitB k) n
        go_wp2_with fail
        refine HBI.out.mono ?_
        rintro e w3 ⟨A5, c5, rfl, o5, b5⟩
        have HB3 := Lib.hid (btrans HB.out b5)
        have HG3 := Lib.hid (HG.out.below b5 HG.out.lt)
        have HR3 := Lib.hid (own_below HR.out b5)
        have HO5 := Lib.hid (own_base (B' := w.heap.size) o5 HB.out.size)
        have hS3 := HCQ.out k hkN w3 HB3.out (.slice A5 (nw (bitB k) n).length c5) (Reads.of_own o5)
        have HS3 := Lib.hid hS3
        have h12 : Hid ((nw (bitB k) n).length = onesN k ∧ (nw (bitB bst) n).length = onesN bst) := ⟨by rw [HNK.out]; rfl, by rw [HB2.out]; rfl⟩
        have hbm := better_min (a := k) (b := bst) (by omega) (by have := HBN.out; omega)
        clear p0 p1 b5 o5 hS3
        obtain ⟨p0, p1, -, -⟩ := HG3.out.two
        cases hfb : domB n l k with
        | false =>
          have HN := Lib.hid (maxC_skip hmx.out hfb)
          rw [hfb] at HS3
          clear hfb hbm
          go_wp2_with fail
          refine HS3.out.mono ?_
          rintro e w4 ⟨rfl, b6⟩
          have HB4 := Lib.hid (btrans HB3.out b6)
          have HG4 := Lib.hid (HG3.out.below b6 HG3.out.lt)
          have HR4 := Lib.hid (own_below HR3.out b6)
          clear b6 p0 p1
          go_wp2_with fail
          go_roundg g2
          case measure => omega
          case rel => exact ⟨k + 1, bst, _, rfl, by omega, by go_num, HN, HR4.out, HG4.out, HB4.out⟩
        | true =>
          have HTT := Lib.hid (fun (h : rkMin bst < rkMin k) => HTK.out k bst hmx.out hkN hfb h)
          have HLL := Lib.hid (fun (h : ¬ rkMin bst < rkMin k) => maxC_less hmx.out h)
          rw [hfb] at HS3
          clear hfb
          go_wp2_with fail
          refine HS3.out.mono ?_
          rintro e w4 ⟨rfl, b6⟩
          have HB4 := Lib.hid (btrans HB3.out b6)
          have HG4 := Lib.hid (HG3.out.below b6 HG3.out.lt)
          have HR4 := Lib.hid (own_below HR3.out b6)
          have HO4 := Lib.hid (own_below HO5.out b6)
          clear b6 p0 p1
          by_cases c1 : onesN k < onesN bst
          · have c2 : (nw (bitB k) n).length < (nw (bitB bst) n).length := by rw [h12.out.1, h12.out.2]; exact c1
            have c3 : ((nw (bitB k) n).length : Int) < ((nw (bitB bst) n).length : Int) := by omega
            have HN := Lib.hid (HTT.out (by rw [decide_eq_true c1, Bool.true_or] at hbm; exact of_decide_eq_true hbm.symm))
            clear hbm c1
            go_wp2_with fail
            go_roundg g2
            case measure => omega
            case rel => exact ⟨k + 1, k, _, rfl, by omega, by go_num, HN, HO4.out, HG4.out, HB4.out⟩
          · have c2 : ¬ (nw (bitB k) n).length < (nw (bitB bst) n).length := by rw [h12.out.1, h12.out.2]; exact c1
            have c3 : ¬ ((nw (bitB k) n).length : Int) < ((nw (bitB bst) n).length : Int) := by omega
            rw [decide_eq_false c1, Bool.false_or] at hbm
            by_cases c4 : onesN k = onesN bst
            · have c5 : Hid ((nw (bitB k) n).length = (nw (bitB bst) n).length) := by show _ = _; rw [h12.out.1, h12.out.2]; exact c4
              have c6 : (((nw (bitB k) n).length : Int) == ((nw (bitB bst) n).length : Int)) = true := by rw [c5.out]; simp
              have c7 : ((nw (bitB k) n).length == (nw (bitB bst) n).length) = true := by rw [c5.out]; simp
              rw [decide_eq_true c4, Bool.true_and] at hbm
              have HLS := Lib.hid (l4LessI_any _ _ (nw (bitB k) n) (nw (bitB bst) n) w4 (show Ints _ _ _ from Reads.of_own HO4.out) (show Ints _ _ _ from Reads.of_own HR4.out) c5.out (by omega))
              rw [HNK.out, HB2.out, hbm] at HLS
              rw [← HNK.out, ← HB2.out] at HLS
              clear c1 c4 hbm
              by_cases hlx : rkMin bst < rkMin k
              · rw [decide_eq_true hlx] at HLS
                have HN := Lib.hid (HTT.out hlx)
                clear hlx
                go_wp2_with fail
                refine HLS.out.mono ?_
                rintro e w5 ⟨rfl, b7⟩
                have HB5 := Lib.hid (btrans HB4.out b7)
                have HG5 := Lib.hid (HG4.out.below b7 HG4.out.lt)
                have HO7 := Lib.hid (own_below HO4.out b7)
                clear b7
                go_wp2_with fail
                go_roundg g2
                case measure => omega
                case rel => exact ⟨k + 1, k, _, rfl, by omega, by go_num, HN, HO7.out, HG5.out, HB5.out⟩
              · rw [decide_eq_false hlx] at HLS
                have HN := Lib.hid (HLL.out hlx)
                clear hlx
                go_wp2_with fail
                refine HLS.out.mono ?_
                rintro e w5 ⟨rfl, b7⟩
                have HB5 := Lib.hid (btrans HB4.out b7)
                have HG5 := Lib.hid (HG4.out.below b7 HG4.out.lt)
                have HR7 := Lib.hid (own_below HR4.out b7)
                clear b7
                go_wp2_with fail
                go_roundg g2
                case measure => omega
                case rel => exact ⟨k + 1, bst, _, rfl, by omega, by go_num, HN, HR7.out, HG5.out, HB5.out⟩
            · have c5 : (nw (bitB k) n).length ≠ (nw (bitB bst) n).length := by rw [h12.out.1, h12.out.2]; exact c4
              have c6 : (((nw (bitB k) n).length : Int) == ((nw (bitB bst) n).length : Int)) = false := by rw [beq_eq_false_iff_ne]; omega
              have c7 : ((nw (bitB k) n).length == (nw (bitB bst) n).length) = false := by rw [beq_eq_false_iff_ne]; exact c5
              rw [decide_eq_false c4, Bool.false_and] at hbm
              have HN := Lib.hid (HLL.out (of_decide_eq_false hbm.symm))
              clear c1 c4 hbm
              go_wp2_with fail
              go_roundg g2
              case measure => omega
              case rel => exact ⟨k + 1, bst, _, rfl, by omega, by go_num, HN, HR4.out, HG4.out, HB4.out⟩
  · rw [goodB_no hgd] at HGD
    have HNO := Lib.hid hgd
    clear hgd
    go_enter Try.func16, Try.ntmps16
    go_wp2_with fail
    refine HGD.out.mono ?_
    rintro e w1 ⟨rfl, b1⟩
    have HE1 := Lib.hid (btrans HB0.out b1)
    clear p0 p1 b1
    go_wp2_with fail
    go_ret2
    exact RetI.no HNO.out (own_base (own_new0 w1 3 1) HE1.out.size) (HE1.out.alloc HE1.out.size _)
theorem ld_len (s : Int) (l : List Ed) : (inG (P2.Good s l) (ndN (ldN s.toNat l))).length ≤ 1048576 := inG_len fun _ => by
  unfold ndN
  have := nw_len (bitB (ldN s.toNat l)) 8
  omega
end Go.Proofs.Ythpodbhiopnnbaa.ups
