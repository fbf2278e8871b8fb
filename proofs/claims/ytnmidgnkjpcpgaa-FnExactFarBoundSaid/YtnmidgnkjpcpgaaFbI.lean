/- FarBound: the contracts of the program's function and of the model's. -/
import Derived.Handy
import Derived.Test.YtnmidgnkjpcpgaaBalS
import Derived.Test.YtnmidgnkjpcpgaaMinMax
import Derived.Deep.DeepCutAuto
import Derived.Deep.RegionHeld3
namespace Go.Proofs.Ytnmidgnkjpcpgaa.ups
open Go.RowKit P2 words edges ints good adjs fns sets rets covs bags bitsI func
set_option linter.unusedVariables false

noncomputable def fbK (l : List Ed) (n : Nat) : Nat → Int
  | 0 => 0
  | k + 1 => max (fbK l n k) (min (((k + 1 : Nat) : Int) + 1) (onesN (lfN l n (k + 1)) : Int))
theorem fbK_le (l : List Ed) (n : Nat) : ∀ k, 0 ≤ fbK l n k ∧ fbK l n k ≤ 8
  | 0 => by unfold fbK; omega
  | k + 1 => by
    have h1 := fbK_le l n k
    have h2 := ones_le (lfN l n (k + 1))
    unfold fbK
    omega
noncomputable def fbV (s : Int) (l : List Ed) : Int := szG (P2.Good s l) (fbK l s.toNat 8)
set_option maxHeartbeats 2000000 in
set_option maxRecDepth 100000 in
theorem implFb_any (s : Int) (v : Value) (l : List Ed) (w : World) (h : Edges w v l) (hl : l.length ≤ 1048576) :
    Calls Try.prog 34 #[.agg #[.int .i64 s, v]] w fun e w' => e = .returned (.tuple #[.int .i64 (fbV s l), .bool (goodB s l)]) ∧ Below w.heap.size w w' := by
  obtain ⟨A, c, rfl, -⟩ := h.form
  have H := Lib.hid h
  have b0 : Below w.heap.size w (w.alloc (.cells #[.int .i64 s, .slice A l.length c] 29)) := (Below.refl _ _).alloc (Nat.le_refl _) _
  have g0 := Blk.new w 29 #[.int .i64 s, .slice A l.length c]
  obtain ⟨p0, p1, -, -⟩ := g0.two
  have HG := Lib.hid (implIsGraph_any s _ l _ (h.below b0) hl)
  have HB0 := Lib.hid b0
  have HG0 := Lib.hid g0
  clear h b0 g0
  by_cases hgd : P2.Good s l
  · rw [goodB_yes hgd] at HG ⊢
    have h0 := hgd.1
    have h8 := hgd.2.1
    obtain ⟨n, rfl⟩ : ∃ n : Nat, s = (n : Int) := ⟨s.toNat, by omega⟩
    have hn : n ≤ 8 := by omega
    have HV : Hid (fbV (n : Int) l = fbK l n 8) := by show _ = _; unfold fbV; rw [szG_yes hgd, Int.toNat_natCast]
    have HGD := Lib.hid hgd
    clear hgd
    go_enter Try.func34, Try.ntmps34
    go_wp2_with fail
    refine HG.out.mono ?_
    rintro e w1 ⟨rfl, b1⟩
    have HE1 := Lib.hid (btrans HB0.out b1)
    have HG1 := Lib.hid (HG0.out.below b1 HG0.out.lt)
    clear p0 p1 b1 HG HB0 HG0
    obtain ⟨p0, p1, -, -⟩ := HG1.out.two
    have HCB := Lib.hid (closedBits_any n (.slice A l.length c) l w1 (H.out.below HE1.out) hl HGD.out hn)
    go_wp2_with fail
    refine HCB.out.mono ?_
    rintro e w2 ⟨A3, c3, rfl, i3, b3⟩
    have HE2 := Lib.hid (btrans HE1.out b3)
    have HLF := Lib.hid (fun (kk : Nat) (h1 : 1 ≤ kk) (h8 : kk ≤ 8) (W : World) (hW : Below w2.heap.size w2 W) => largestFar_any n kk _ l W (i3.below hW) HGD.out hn h1 h8)
    have HCT := Lib.hid (fun (d : Nat) (hd : d < 256) (W : World) => count_any d W hd)
    clear p0 p1 b3 i3 HCB
    go_wp2_with fail
    go_loopg [5, 6] 8 (fun g bv kv wr => ∃ k : Nat, k + g = 8 ∧ bv = .int .i64 (fbK l n k) ∧ kv = .int .i64 ((k : Int) + 1) ∧ Below w2.heap.size w2 wr)
    case atStart => exact ⟨0, by omega, rfl, rfl, Below.refl _ _⟩
    case round =>
      obtain ⟨k, hkg, rfl, rfl, hB⟩ := hrel
      have HB := Lib.hid hB
      have hfk := fbK_le l n k
      cases gk with
      | zero =>
        obtain rfl : k = 8 := by omega
        clear hB
        go_wp2_with fail
        go_ret2
        rw [HV.out]
        exact ⟨rfl, btrans HE2.out HB.out⟩
      | succ g2 =>
        have hk8 : (k : Int) + 1 ≤ 8 := by omega
        have HLL := HLF.out (k + 1) (by omega) (by omega) wr hB
        rw [show ((k + 1 : Nat) : Int) = (k : Int) + 1 from by omega] at HLL
        have HL2 := Lib.hid HLL
        have HK : Hid (fbK l n (k + 1) = max (fbK l n k) (min (((k + 1 : Nat) : Int) + 1) (onesN (lfN l n (k + 1)) : Int))) := rfl
        have hol := ones_le (lfN l n (k + 1))
        clear hB HLL
        generalize lfN l n (k + 1) = y at *
        generalize fbK l n k = f0 at *
        go_wp2_with fail
        refine HL2.out.mono ?_
        rintro e w3 ⟨hlt, rfl, b3⟩
        have HB3 := Lib.hid (HB.out.trans (b3.mono HB.out.size))
        have hy8 : y < 256 := Nat.lt_of_lt_of_le hlt (pow_le hn)
        clear b3 hlt
        go_wp2_with fail
        refine (HCT.out y hy8 _).mono ?_
        rintro e w' ⟨rfl, rfl⟩
        generalize onesN y = o at *
        go_wp2_with fail
        all_goals
          go_roundg g2
          case measure => omega
          case rel => exact ⟨k + 1, by omega, by rw [HK.out]; congr 1; omega, by go_num, HB3.out⟩
  · rw [goodB_no hgd] at HG ⊢
    have HV : Hid (fbV s l = 0) := szG_no hgd _
    clear hgd
    go_enter Try.func34, Try.ntmps34
    go_wp2_with fail
    refine HG.out.mono ?_
    rintro e w1 ⟨rfl, b1⟩
    have HE1 := Lib.hid (btrans HB0.out b1)
    clear p0 p1 b1
    go_wp2_with fail
    go_ret2
    rw [HV.out]
    exact ⟨rfl, HE1.out⟩
set_option maxHeartbeats 2000000 in
set_option maxRecDepth 100000 in
theorem specFb_any (s : Int) (v : Value) (l : List Ed) (w : World) (h : Edges w v l) (hl : l.length ≤ 1048576) (hs1 : -9223372036854775808 ≤ s) (hs2 : s ≤ 9223372036854775807) :
    Calls Try.prog 33 #[.agg #[.int .i64 s, v]] w fun e w' => e = .returned (.tuple #[.int .i64 (fbV s l), .bool (goodB s l)]) ∧ Below w.heap.size w w' := by
  obtain ⟨A, c, rfl, -⟩ := h.form
  have H := Lib.hid h
  have b0 : Below w.heap.size w (w.alloc (.cells #[.int .i64 s, .slice A l.length c] 29)) := (Below.refl _ _).alloc (Nat.le_refl _) _
  have g0 := Blk.new w 29 #[.int .i64 s, .slice A l.length c]
  obtain ⟨p0, p1, -, -⟩ := g0.two
  have HG := Lib.hid (l2Good_any s _ l _ (h.below b0) hl hs1 hs2)
  have HB0 := Lib.hid b0
  have HG0 := Lib.hid g0
  clear h b0 g0
  by_cases hgd : P2.Good s l
  · rw [goodB_yes hgd] at HG ⊢
    have h0 := hgd.1
    have h8 := hgd.2.1
    obtain ⟨n, rfl⟩ : ∃ n : Nat, s = (n : Int) := ⟨s.toNat, by omega⟩
    have hn : n ≤ 8 := by omega
    have HV : Hid (fbV (n : Int) l = fbK l n 8) := by show _ = _; unfold fbV; rw [szG_yes hgd, Int.toNat_natCast]
    have HGD := Lib.hid hgd
    clear hgd
    go_enter Try.func33, Try.ntmps33
    go_wp2_with fail
    refine HG.out.mono ?_
    rintro e w1 ⟨rfl, b1⟩
    have HE1 := Lib.hid (btrans HB0.out b1)
    have HG1 := Lib.hid (HG0.out.below b1 HG0.out.lt)
    clear p0 p1 b1 HG HB0 HG0
    go_wp2_with fail
    go_loopg [4, 5] 8 (fun g bv kv wr => ∃ k : Nat, k + g = 8 ∧ bv = .int .i64 (fbK l n k) ∧ kv = .int .i64 ((k : Int) + 1) ∧ Blk wr w.heap.size 29 #[.int .i64 (n : Int), .slice A l.length c] ∧ Below w.heap.size w wr)
    case atStart => exact ⟨0, by omega, rfl, rfl, HG1.out, HE1.out⟩
    case round =>
      clear HG1 HE1
      obtain ⟨k, hkg, rfl, rfl, hgb, hB⟩ := hrel
      obtain ⟨p0, p1, -, -⟩ := hgb.two
      have HB := Lib.hid hB
      have HG := Lib.hid hgb
      have hfk := fbK_le l n k
      cases gk with
      | zero =>
        obtain rfl : k = 8 := by omega
        clear hB hgb
        go_wp2_with fail
        go_ret2
        rw [HV.out]
        exact ⟨rfl, HB.out⟩
      | succ g2 =>
        have hk8 : (k : Int) + 1 ≤ 8 := by omega
        have HLL := l8Largest_any n (k + 1) (.slice A l.length c) l wr (H.out.below hB) hl HGD.out hn (by omega) (by omega)
        rw [show ((k + 1 : Nat) : Int) = (k : Int) + 1 from by omega] at HLL
        have HL2 := Lib.hid HLL
        have HK : Hid (fbK l n (k + 1) = max (fbK l n k) (min ((k : Int) + 1 + 1) (onesN (lfN l n (k + 1)) : Int))) := rfl
        have hol := ones_le (lfN l n (k + 1))
        have HON : Hid ((ndN (lfN l n (k + 1))).length = onesN (lfN l n (k + 1))) := rfl
        have hol2 : (ndN (lfN l n (k + 1))).length ≤ 8 := by rw [HON.out]; exact hol
        have HMI := Lib.hid (fun (a b : Int) (W : World) => minmax.l1Least_any a b W)
        have HMA := Lib.hid (fun (a b : Int) (W : World) => minmax.l1Most_any a b W)
        rw [← HON.out] at HK
        clear hB HLL hgb hol
        generalize lfN l n (k + 1) = y at *
        generalize fbK l n k = f0 at *
        generalize (ndN y) = ny at *
        go_wp2_with fail
        refine HL2.out.mono ?_
        rintro e w3 ⟨A5, c5, rfl, o5, b3⟩
        have HB3 := Lib.hid (btrans HB.out b3)
        have HG3 := Lib.hid (HG.out.below b3 HG.out.lt)
        clear b3 o5 p0 p1
        go_wp2_with fail
        refine (HMI.out _ _ _).mono ?_
        rintro e w' ⟨rfl, rfl⟩
        go_wp2_with fail
        refine (HMA.out _ _ _).mono ?_
        rintro e w' ⟨rfl, rfl⟩
        go_wp2_with fail
        go_roundg g2
        case measure => omega
        case rel => exact ⟨k + 1, by omega, by rw [HK.out], by go_num, HG3.out, HB3.out⟩
  · rw [goodB_no hgd] at HG ⊢
    have HV : Hid (fbV s l = 0) := szG_no hgd _
    clear hgd
    go_enter Try.func33, Try.ntmps33
    go_wp2_with fail
    refine HG.out.mono ?_
    rintro e w1 ⟨rfl, b1⟩
    have HE1 := Lib.hid (btrans HB0.out b1)
    clear p0 p1 b1
    go_wp2_with fail
    go_ret2
    rw [HV.out]
    exact ⟨rfl, HE1.out⟩
end Go.Proofs.Ytnmidgnkjpcpgaa.ups
