/- LeastSum: the contract of the model's. -/
import Derived.Handy
import Derived.Test.YtjcnngnahijceaaS02
import Derived.Test.YtjcnngnahijceaaS03
import Derived.Test.YtjcnngnahijceaaS04
import Derived.Test.YtjcnngnahijceaaCutI
import Derived.Test.YtjcnngnahijceaaMinMax
import Derived.Deep.DeepCutAuto
import Derived.Deep.RegionHeld3
import Derived.Deep.QuietTactic
import Derived.Test.YtjcnngnahijceaaOwn
import Derived.Test.YtjcnngnahijceaaOpen
import Derived.Test.YtjcnngnahijceaaRows
import Derived.ProofKit
import Derived.OpenShut
import Derived.ChangeOld
import Derived.Carry
namespace Go.Proofs.Ytjcnngnahijceaa.forc
open Go.RowKit P2 words edges ints good adjs fns sets rets covs bags balls bitsI ups func costs lays
set_option linter.unusedVariables false

set_option maxHeartbeats 8000000 in
set_option maxRecDepth 100000 in
theorem specLsum_any (s : Int) (v : Value) (l : List Ed) (w : World) (h : Edges w v l) (hl : l.length ≤ 1048576) (hs1 : -9223372036854775808 ≤ s) (hs2 : s ≤ 9223372036854775807) :
    Calls Try.prog 14 #[.agg #[.int .i64 s, v]] w fun e w' => e = .returned (.tuple #[.int .i64 (szG (P2.Good s l) (lsV s l)), .bool (okG (P2.Good s l))]) ∧ Below w.heap.size w w' := by
  obtain ⟨A, c, rfl, -⟩ := h.form
  have H := Lib.hid h
  have b0 : Below w.heap.size w (w.alloc (.cells #[.int .i64 s, .slice A l.length c] 28)) := (Below.refl _ _).alloc (Nat.le_refl _) _
  have HG0 := Lib.hid (Blk.new w 28 #[.int .i64 s, .slice A l.length c])
  obtain ⟨p0, p1, -, -⟩ := HG0.out.two
  have HGD := Lib.hid (l2Good_any s _ l _ (h.below b0) hl hs1 hs2)
  have HB0 := Lib.hid b0
  clear h b0
  by_cases hgd : P2.Good s l
  · rw [goodB_yes hgd] at HGD
    rw [szG_yes hgd, okG_yes hgd]
    have HOK := Lib.hid hgd
    have h0 := hgd.1
    have h8 := hgd.2.1
    obtain ⟨n, rfl⟩ : ∃ n : Nat, s = (n : Int) := ⟨s.toNat, by omega⟩
    have hn : n ≤ 8 := by omega
    have HV : Hid (lsV (n : Int) l = (lsN n l : Int)) := by show _ = _; unfold lsV; rw [Int.toNat_natCast]
    rw [HV.out]
    clear hgd HV
    have HL0 : Hid (LsP n l (fun c => c < 0) n) := (LsP.start n l).to fun c => ⟨fun h => h.elim, fun h => by omega⟩
    have HPW := Lib.hid (pow_le hn)
    have HIS := Lib.hid (fun v (h : LsP n l (fun c => c < 2 ^ n) v) => lsN_is h)
    have HRO := Lib.hid (fun (k : Nat) (hk : k < 2 ^ n) (W : World) (u : Value) (hW : Below w.heap.size w W) (hu : Ints W u (nw (bitB k) n)) => l9Rounds_any n k (.slice A l.length c) u l W (H.out.below hW) hl hu hn hk)
    have HFO := Lib.hid (fun (k : Nat) (hk : k < 2 ^ n) (W : World) (u : Value) (hW : Below w.heap.size w W) (hu : Ints W u (nw (bitB k) n)) => l9Forces_any n k (.slice A l.length c) u l W (H.out.below hW) hl hu hn hk)
    have HLN := Lib.hid (fun (k : Nat) (hk : k < 2 ^ n) => nw_ones hn hk)
    have HGR := Lib.hid (fun (k : Nat) (hk : k < 2 ^ n) => gr_num (l := l) hn hk)
    have HFB : Hid (∀ k, (rchN n l 0 k == 2 ^ n - 1) = fulB n l k) := fun k => rfl
    have hsh : IntKind.i64.wrap ((2 : Int) ^ n) = ((2 ^ n : Nat) : Int) := by
      have hpn := pow_le hn
      rw [show ((2 : Int) ^ n) = ((2 ^ n : Nat) : Int) from by simp]
      generalize 2 ^ n = z at *
      exact Go.IntWalk.i64_in _ (by omega)
    have hN256 := HPW.out
    generalize hNN : 2 ^ n = N at *
    clear hNN
    go_enter Try.func14, Try.ntmps14
    go_wp2_with fail
    refine HGD.out.mono ?_
    rintro e w1 ⟨rfl, b1⟩
    have HE1 := Lib.hid (btrans HB0.out b1)
    have HG1 := Lib.hid (HG0.out.below b1 HG0.out.lt)
    clear p0 p1 b1 HGD HB0 HG0
    obtain ⟨p0, p1, -, -⟩ := HG1.out.two
    go_wp2_with fail
    clear p0 p1
    go_loopg [4, 5] N (fun g bv cv wr => ∃ (k b : Nat), k + g = N ∧ bv = .int .i64 (b : Int) ∧ cv = .int .i64 (k : Int) ∧ Hid (LsP n l (fun c => c < k) b) ∧ Blk wr w.heap.size 28 #[.int .i64 (n : Int), .slice A l.length c] ∧ Below w.heap.size w wr)
    case atStart => exact ⟨0, n, by omega, rfl, rfl, HL0, HG1.out, HE1.out⟩
    case round =>
      clear HL0 HG1 HE1
      obtain ⟨k, b, hkg, rfl, rfl, hls, hgb, hB⟩ := hrel
      obtain ⟨p0, p1, -, -⟩ := hgb.two
      have HG := Lib.hid hgb
      have HB := Lib.hid hB
      clear hgb hB
      cases gk with
      | zero =>
        obtain rfl : k = N := by omega
        have HV : Hid (lsN n l = b) := HIS.out b hls.out
        go_wp2_with fail
        go_ret2
        rw [HV.out]
        exact ⟨rfl, HB.out⟩
      | succ g2 =>
        have hkN : k < N := by omega
        have hkN' : (k : Int) < (N : Int) := by omega
        have hbn := hls.out.1
        have HBI := Lib.hid (l2Bits_any n k wr hn (by omega))
        have HTK := Lib.hid (fun (hf : fulB n l k = true) => hls.out.take (T := fun c => c < k + 1) (fun c => by omega) hf)
        have HSK := Lib.hid (fun (hf : fulB n l k = false) => hls.out.skip (T := fun c => c < k + 1) (fun c => by omega) hf)
        have hlo := HLN.out k hkN
        have hgr := HGR.out k hkN
        have HRK := Lib.hid (HRO.out k hkN)
        have HFK := Lib.hid (HFO.out k hkN)
        rw [HFB.out k] at HFK
        have HSN : Hid (sumN n l k = onesN k + numR n l k) := rfl
        have ho8 := ones_le k
        have hm9 : numR n l k ≤ 9 := by have := (rnd_len n l false 8 k).2; show (rndL n l false 8 k).length - 1 ≤ 9; omega
        have HFL : Hid ((fstL n l k n).length ≤ 1048576) := by show _ ≤ _; rw [fstL_len]; omega
        have HGT := Lib.hid (fun (W : World) (u : Value) (hu : Ints W u (fstL n l k n)) => l7Greatest_any u (fstL n l k n) W hu HFL.out)
        rw [hgr] at HGT
        clear hls hgr HFL
        rw [← hlo] at HSN ho8
        clear hlo
        generalize numR n l k = m at *
        generalize fstL n l k n = F at *
        generalize nw (bitB k) n = M at *
        go_wp2_with fail
        refine HBI.out.mono ?_
        rintro e w3 ⟨A5, c5, rfl, o5, b5⟩
        have HB3 := Lib.hid (btrans HB.out b5)
        have HG3 := Lib.hid (HG.out.below b5 HG.out.lt)
        have HM3 : Hid (Ints w3 (.slice A5 M.length c5) M) := Reads.of_own o5
        have HFK3 := Lib.hid (HFK.out w3 _ HB3.out HM3.out)
        clear p0 p1 b5 o5 HG HB HBI
        obtain ⟨p0, p1, -, -⟩ := HG3.out.two
        cases hf : fulB n l k with
        | false =>
          have HN := Lib.hid (HSK.out hf)
          rw [hf] at HFK3
          clear hf
          go_wp2_with fail
          refine HFK3.out.mono ?_
          rintro e w4 ⟨rfl, b6⟩
          have HB4 := Lib.hid (btrans HB3.out b6)
          have HG4 := Lib.hid (HG3.out.below b6 HG3.out.lt)
          clear b6 p0 p1
          go_wp2_with fail
          go_roundg g2
          case measure => omega
          case rel => exact ⟨k + 1, b, by omega, rfl, by go_num, HN, HG4.out, HB4.out⟩
        | true =>
          have HN := Lib.hid (HTK.out hf)
          rw [hf] at HFK3
          rw [HSN.out] at HN
          have HL := Lib.hid (fun (W : World) => minmax.l1Least_any (b : Int) ((M.length + m : Nat) : Int) W)
          rw [show min (b : Int) ((M.length + m : Nat) : Int) = ((min b (M.length + m) : Nat) : Int) from by omega] at HL
          have hw6 : IntKind.i64.wrap ((M.length : Int) + (m : Int)) = ((M.length + m : Nat) : Int) := by rw [show (M.length : Int) + (m : Int) = ((M.length + m : Nat) : Int) from by omega]; exact IntWalk.i64_in _ (by omega)
          clear hf HSN
          generalize hbb : min b (M.length + m) = b2 at *
          have HBB := Lib.hid hbb
          clear hbb
          generalize hlm : M.length + m = lm at *
          have HLM := Lib.hid hlm
          clear hlm
          go_wp2_with fail
          refine HFK3.out.mono ?_
          rintro e w4 ⟨rfl, b6⟩
          have HB4 := Lib.hid (btrans HB3.out b6)
          have HG4 := Lib.hid (HG3.out.below b6 HG3.out.lt)
          have HM4 : Hid (Ints w4 (.slice A5 M.length c5) M) := HM3.out.below b6
          have HRK4 := Lib.hid (HRK.out w4 _ HB4.out HM4.out)
          clear b6 p0 p1
          obtain ⟨p0, p1, -, -⟩ := HG4.out.two
          go_wp2_with fail
          refine HRK4.out.mono ?_
          rintro e w5 ⟨A7, c7, rfl, o7, b7⟩
          have HB5 := Lib.hid (btrans HB4.out b7)
          have HG5 := Lib.hid (HG4.out.below b7 HG4.out.lt)
          have HGT5 := Lib.hid (HGT.out w5 _ (Reads.of_own o7))
          clear b7 o7 p0 p1
          go_wp2_with fail
          refine HGT5.out.mono ?_
          rintro e w' ⟨rfl, rfl⟩
          go_wp2_with fail
          refine (HL.out _).mono ?_
          rintro e w' ⟨rfl, rfl⟩
          go_wp2_with fail
          go_roundg g2
          case measure => omega
          case rel => exact ⟨k + 1, b2, by omega, rfl, by go_num, HN, HG5.out, HB5.out⟩
  · rw [goodB_no hgd] at HGD
    rw [szG_no hgd, okG_no hgd]
    clear hgd
    go_enter Try.func14, Try.ntmps14
    go_wp2_with fail
    refine HGD.out.mono ?_
    rintro e w1 ⟨rfl, b1⟩
    have HE1 := Lib.hid (btrans HB0.out b1)
    clear p0 p1 b1
    go_wp2_with fail
    go_ret2
    exact ⟨rfl, HE1.out⟩
end Go.Proofs.Ytjcnngnahijceaa.forc

/- FnExactLeastSum returns true for every Graph: the program's LeastSum and the model's return the same and write into nothing that was there. No conditions. -/
namespace Go.Proofs.Ytjcnngnahijceaa.exLsum
open Go.ChangeShapes Go.WideShapes Go.ChangeAt Go.RowKit P2 words edges ints owns good adjs fns rets sets bags ups forc _root_.Go.Proofs.Ytjcnngnahijceaa.opens
set_option linter.unusedVariables false

set_option maxHeartbeats 4000000 in
set_option maxRecDepth 100000 in
theorem core (s0 : Int) (A0 : Option Addr) (c0 : Nat) (l0 : List Ed) (w : World) (h0 : Edges w (.slice A0 l0.length c0) l0) (hl0 : l0.length ≤ 1048576)
    (HS : Hid (∀ (B0 : Option Addr) (d0 : Nat) (W : World), Edges W (.slice B0 l0.length d0) l0 → Calls Try.prog 14 #[.agg #[.int .i64 s0, .slice B0 l0.length d0]] W fun e W' => e = .returned (.tuple #[.int .i64 (szG (P2.Good s0 l0) (lsV s0 l0)), .bool (okG (P2.Good s0 l0))]) ∧ Below W.heap.size W W'))
    (HI : Hid (∀ (B0 : Option Addr) (d0 : Nat) (W : World), Edges W (.slice B0 l0.length d0) l0 → Calls Try.prog 16 #[.agg #[.int .i64 s0, .slice B0 l0.length d0]] W fun e W' => e = .returned (.tuple #[.int .i64 (szG (P2.Good s0 l0) (lsV s0 l0)), .bool (okG (P2.Good s0 l0))]) ∧ Below W.heap.size W W')) :
    Calls Try.prog 3 #[.agg #[.int .i64 s0, .slice A0 l0.length c0]] w fun e w' => e = .returned (.bool true) ∧ Below w.heap.size w w' := by
  have H0 := Lib.hid h0
  have b0_0 : Below w.heap.size w (w.alloc (.cells #[.int .i64 s0, .slice A0 l0.length c0] 24)) := (Below.refl _ _).alloc (Nat.le_refl _) _
  have e0_0 : Below w.heap.size w (w.alloc (.cells #[.int .i64 s0, .slice A0 l0.length c0] 24)) := b0_0
  have g0 := Blk.new w 24 #[.int .i64 s0, .slice A0 l0.length c0]
  have z0_0 := Lib.hid b0_0.size
  have yag := Lib.hid g0.lt
  have hself : ∀ b : Bool, (b != b) = false := fun b => by simp
  have hselfi : ∀ b : Int, (b != b) = false := fun b => by simp
  clear h0
  go_enter Try.func3, Try.ntmps3
  have hz0 : ((l0.length : Nat) : Int) ≤ 1048576 := by omega
  obtain ⟨pag0, pag1, -, -⟩ := g0.two
  go_wp2_with fail
  refine (szGraph_yes s0 (.slice A0 l0.length c0) l0 (1048576) (w.alloc (.cells #[.int .i64 s0, .slice A0 l0.length c0] 24)) (H0.out.below e0_0) (by omega) (by omega)).mono ?_
  rintro e w2 ⟨rfl, bw2⟩
  clear pag0 pag1
  have e0 := btrans e0_0 bw2
  have z0 := Lib.hid bw2.size
  replace g0 := g0.below bw2 g0.lt
  clear bw2
  obtain ⟨pag0, pag1, -, -⟩ := g0.two
  go_wp2_with fail
  refine (toGraph_any s0 (.slice A0 l0.length c0) l0 w2 (H0.out.below e0) hl0).mono ?_
  rintro e w3 ⟨Apg, cpg, rfl, opg, bw3⟩
  clear pag0 pag1
  have e1 := btrans e0 bw3
  have z1 := Lib.hid bw3.size
  replace g0 := g0.below bw3 g0.lt
  clear bw3 e0
  have opg_ := OwnR.new opg
  clear opg
  go_wp2_with fail
  refine (HS.out Apg cpg w3 opg_.reads).mono ?_
  rintro e w4 ⟨rfl, bw4⟩
  have e2 := btrans e1 bw4
  have z2 := Lib.hid bw4.size
  replace g0 := g0.below bw4 g0.lt
  replace opg_ := opg_.below bw4
  clear bw4 e1
  obtain ⟨pag0, pag1, -, -⟩ := g0.two
  go_wp2_with fail
  refine (toGraph_any s0 (.slice A0 l0.length c0) l0 w4 (H0.out.below e2) hl0).mono ?_
  rintro e w5 ⟨Axg, cxg, rfl, oxg, bw5⟩
  clear pag0 pag1
  have e3 := btrans e2 bw5
  have z3 := Lib.hid bw5.size
  replace g0 := g0.below bw5 g0.lt
  clear bw5 e2
  have oxg_ := OwnR.new oxg
  clear oxg
  have bxxg : Below w5.heap.size w5 (w5.alloc (.cells #[.int .i64 s0, .slice Axg l0.length cxg] 28)) := (Below.refl _ _).alloc (Nat.le_refl _) _
  have gxg := Blk.new w5 28 #[.int .i64 s0, .slice Axg l0.length cxg]
  have e4 := btrans e3 bxxg
  have z4 := Lib.hid bxxg.size
  replace g0 := g0.below bxxg g0.lt
  replace oxg_ := oxg_.below bxxg
  clear bxxg e3
  have yxg := Lib.hid gxg.lt
  obtain ⟨pxg0, pxg1, -, -⟩ := gxg.two
  go_wp2_with fail
  refine (HI.out Axg cxg (w5.alloc (.cells #[.int .i64 s0, .slice Axg l0.length cxg] 28)) oxg_.reads).mono ?_
  rintro e w6 ⟨rfl, bw6⟩
  clear pxg0 pxg1
  have e5 := btrans e4 bw6
  have z5 := Lib.hid bw6.size
  replace g0 := g0.below bw6 g0.lt
  replace gxg := gxg.below bw6 gxg.lt
  replace oxg_ := oxg_.below bw6
  clear bw6 e4
  obtain ⟨pag0, pag1, -, -⟩ := g0.two
  obtain ⟨pxg0, pxg1, -, -⟩ := gxg.two
  have HA := Lib.hid (H0.out.below e5)
  have HX := Lib.hid (oxg_.reads)
  go_wp2_with fail
  go_region_held3 (fun w' => w'.cell? ⟨w.heap.size, 0, none⟩ = some (.int .i64 s0) ∧ w'.cell? ⟨w.heap.size, 1, none⟩ = some (.slice A0 l0.length c0) ∧ w'.cell? ⟨w5.heap.size, 0, none⟩ = some (.int .i64 s0) ∧ w'.cell? ⟨w5.heap.size, 1, none⟩ = some (.slice Axg l0.length cxg)) (go_keep)
    (first | (go_at_call 15; refine (toGraph_k s0 (.slice A0 l0.length c0) l0 w6.drew HA.out hl0 (p := ⟨w.heap.size, 0, none⟩) (q := ⟨w.heap.size, 1, none⟩) (r := ⟨w5.heap.size, 0, none⟩) (t := ⟨w5.heap.size, 1, none⟩) (a := .int .i64 s0) (b := .slice A0 l0.length c0) (c := .int .i64 s0) (d := .slice Axg l0.length cxg) ?_ ?_ ?_ ?_).mono ?_; (simp [*]); (simp [*]); (simp [*]); (simp [*]); rintro e w7 ⟨⟨Ay, cy, rfl, oy⟩, k0, k1, k2, k3, bw7⟩)
           | (go_at_call 17; refine (eqGraph_k s0 _ _ l0 _ (Reads.below (w := w6.drew) HX.out bw7) (Reads.of_own oy) hl0 (p := ⟨w.heap.size, 0, none⟩) (q := ⟨w.heap.size, 1, none⟩) (r := ⟨w5.heap.size, 0, none⟩) (t := ⟨w5.heap.size, 1, none⟩) (a := .int .i64 s0) (b := .slice A0 l0.length c0) (c := .int .i64 s0) (d := .slice Axg l0.length cxg) ?_ ?_ ?_ ?_).mono ?_; (simp [*]); (simp [*]); (simp [*]); (simp [*]); rintro e w8 ⟨rfl, m0, m1, m2, m3, bw8⟩))
  clear k0 k1 k2 k3 m0 m1 m2 m3 HA HX oy
  clear pag0 pag1 pxg0 pxg1
  have cw7 : Below w6.heap.size w6 w7 := (Below.refl _ _).drew.trans bw7
  clear bw7
  have e6 := btrans e5 cw7
  have z6 := Lib.hid cw7.size
  replace g0 := g0.below cw7 g0.lt
  replace gxg := gxg.below cw7 gxg.lt
  replace oxg_ := oxg_.below cw7
  clear cw7 e5
  have e7 := btrans e6 bw8
  have z7 := Lib.hid bw8.size
  replace g0 := g0.below bw8 g0.lt
  replace gxg := gxg.below bw8 gxg.lt
  replace oxg_ := oxg_.below bw8
  clear bw8 e6
  go_wp2_with fail
  go_ret
  exact ⟨rfl, e7⟩

set_option maxHeartbeats 1000000 in
set_option maxRecDepth 100000 in
theorem walk (s0 : Int) (u0 : Value) (l0 : List Ed) (w : World) (w0 : IsGr w s0 u0 l0) :
    Calls Try.prog 3 #[.agg #[.int .i64 s0, u0]] w fun e w' => e = .returned (.bool true) ∧ Below w.heap.size w w' := by
  obtain ⟨h0, hm0, hs0, ht0⟩ := w0
  obtain ⟨A0, c0, rfl, -⟩ := h0.form
  unfold maxLen at hm0
  have b0_0 : Below w.heap.size w (w.alloc (.cells #[.int .i64 s0, .slice A0 l0.length c0] 24)) := (Below.refl _ _).alloc (Nat.le_refl _) _
  have e0_0 : Below w.heap.size w (w.alloc (.cells #[.int .i64 s0, .slice A0 l0.length c0] 24)) := b0_0
  have g0 := Blk.new w 24 #[.int .i64 s0, .slice A0 l0.length c0]
  by_cases hl0 : l0.length ≤ 1048576
  rotate_left
  · have hlt : (1048576 : Int) < (l0.length : Int) := by omega
    have HZ := Lib.hid (szGraph_no s0 (.slice A0 l0.length c0) l0 1048576 _ (h0.below e0_0) hlt (by omega) (by omega))
    clear h0
    obtain ⟨p0, p1, -, -⟩ := g0.two
    go_enter Try.func3, Try.ntmps3
    go_wp2_with fail
    refine HZ.out.mono ?_
    rintro e w1 ⟨rfl, b1⟩
    go_wp2_with fail
    go_ret
    exact ⟨rfl, btrans e0_0 b1⟩
  exact core s0 A0 c0 l0 w h0 hl0 (Lib.hid (fun B0 d0 W k0 => specLsum_any s0 _ l0 W k0 hl0 hs0 ht0)) (Lib.hid (fun B0 d0 W k0 => implLsum_any s0 _ l0 W k0 hl0))

theorem own : ownKnob Try.prog.godebug = none := by kernel_rfl
theorem laidOut : laidOutB Try.prog = true := by kernel_rfl

set_option maxHeartbeats 1000000 in
set_option maxRecDepth 100000 in
theorem lifted (os : Os) (started : os.Started) (H : Type) (enc : TypeId × Value → H) :
    ReturnsInHanded {} Try.checked os 3 .any (Rows.fnExactLeastSumSpec.pre6 enc Try.prog Try.f3 Rows.fnExactLeastSumRow.domain false) (Rows.fnExactLeastSumSpec.post enc Try.prog Try.f3 false true false false) := by
  refine returnsInHanded_of_change (C := Try.checked) own started (by kernel_rfl) Try.func3
    (ChangeSpec.witness6 (enc := enc) (C := Try.checked) false ⟨#[], #[.agg #[.int .i64 0, .slice none 0 0]], []⟩ 8 (by kernel_rfl) (by kernel_rfl) (by kernel_rfl) (by kernel_rfl)) ?_
  intro W base args ds gs before hval0 hW hcnd _
  have hval : ∀ (j : Nat) t v, Try.f3.params[j]? = some t → args[j]? = some v → Value.okWide Try.prog W .any base t v := hval0
  have hW' := hW
  obtain ⟨p, q, hA0, hV, rfl, hfz, hnd⟩ := hW
  have hA : DataW.TrodAll enc Try.prog W 0 (fun _ => true) true Try.f3.params.toList args.toList ds p := hA0
  rw [Try.params3] at hA hval
  obtain ⟨v0, vs0, d0, ds0, p0, q0, hargs, rfl, rfl, h0, r0⟩ := trodAll_cons hA
  obtain ⟨rfl, rfl, rfl⟩ := trodAll_nil r0
  obtain rfl : args = #[v0] := by cases args; simp_all
  obtain ⟨rfl, rfl⟩ := trodVars_none hV
  have k0 := h0
  have lt0 : ∀ x ∈ p0, x.block < W.heap.size := by obtain ⟨m, hm⟩ := k0; exact DataW.trod_lt m _ _ _ hm
  obtain ⟨s0, u0, l0, rfl, w0⟩ := opens.open_graph (hval 0 24 v0 rfl rfl) h0
  clear hA0 hval0
  refine (walk s0 u0 l0 W w0).mono fun e W' ⟨he, bel⟩ => ?_
  subst he
  exact ⟨_, rfl, _, _, _, [], _, [], hW', trodAll_mk1 (shut_bool Try.underlying4 _), (trodAll_cons_mk (Below.trod laidOut (by kernel_rfl) (of_decide_eq_true (by kernel_rfl)) k0 bel lt0) trodAll_mk0), rfl, bel.frame _, fun h => by cases h⟩

theorem over : Rows.fnExactLeastSumRow.holds Try.pinned (OpenSpec.ofChange Rows.fnExactLeastSumSpec) :=
  OpenClaim.holds_of_wide 3 Try.f3 rfl rfl rfl rfl rfl rfl rfl ⟨rfl, rfl, rfl, rfl, rfl⟩ rfl rfl rfl rfl rfl (by kernel_rfl) Try.func3 (by kernel_rfl)
    (of_decide_eq_true (by kernel_rfl)) (by unfold Func.isWrapper; first | (rw [if_pos (by decide +kernel)]; kernel_rfl) | (rw [if_neg (by decide +kernel)]; exact ⟨rfl, rfl⟩))
    (fun os started H enc _ => lifted os started H enc)

theorem fnExactLeastSum_holds : Rows.FnExactLeastSumSaid := over
end Go.Proofs.Ytjcnngnahijceaa.exLsum
