/- Forcing: the contracts of the program's forcedBy, after, rounds and last. -/
import Derived.Handy
import Derived.Test.YtfphpilabfpmjaaForcM
import Derived.Test.YtfphpilabfpmjaaSpreI
import Derived.Test.YtfphpilabfpmjaaGridR
import Derived.Deep.DeepCutAuto
import Derived.Deep.RegionHeld3
import Derived.Deep.QuietTactic
namespace Go.Proofs.Ytfphpilabfpmjaa.forc
open Go.RowKit P2 words edges ints good adjs fns sets rets covs bags bitsI ups func gridr
set_option linter.unusedVariables false

theorem lef_walk {n c x : Nat} {l : List Ed} (hg : P2.Good (n : Int) l) (hn : n ≤ 8) (hc : c < 2 ^ n) (hx : x < n) : bits .andNot .u64 (outN l n c x : Int) (IntKind.u64.wrap ((2 : Int) ^ x)) = (lefN n l c x : Int) := by
  have ho : outN l n c x < 256 := numOf_lt _ hn
  rw [wrap_pow (show x ≤ 8 by omega), ← num_one hx]
  refine andNot_num _ _ n (by omega) hn _ fun z hz => ?_
  unfold outN lefB
  rw [numOf_bit, cloB_bit hg]
  by_cases e : z = x
  · subst e
    rw [adj_self hg]; simp
    intro h; omega
  · have h9 : (x == z) = false := by simp; omega
    have h8 : decide (z = x) = false := decide_eq_false e
    rw [h9, h8]; simp
set_option maxHeartbeats 2000000 in
set_option maxRecDepth 100000 in
theorem forcedBy_any (n c x : Nat) (sk : Bool) (v : Value) (l : List Ed) (w : World) (h : Nums w v (clos l n)) (hg : P2.Good (n : Int) l) (hn : n ≤ 8) (hc : c < 2 ^ n) (hx : x < n) :
    Calls Try.prog 92 #[.agg #[.int .u64 (c : Int), .bool sk], v, .int .i64 (x : Int)] w fun e w' => e = .returned (.int .u64 (frcN n l sk c x : Int)) ∧ Below w.heap.size w w' := by
  obtain ⟨A, cc, rfl, hcl⟩ := h.form
  obtain ⟨g6, o6, rfl, c6⟩ := hcl x _ (clos_at hx)
  have hlen := clos_len l n
  rw [hlen]
  have hx' : (x : Int) < (n : Int) := by omega
  have hw1 := out_walk hg hn hc hx
  have hw2 := lef_walk hg hn hc hx
  have b0 : Below w.heap.size w (w.alloc (.cells #[.int .u64 (c : Int), .bool sk] 55)) := (Below.refl _ _).alloc (Nat.le_refl _) _
  have HB0 := Lib.hid b0
  have q6 := nearv.cell_keep c6 b0
  obtain ⟨p0, p1, -, -⟩ := (Blk.new w 55 #[.int .u64 (c : Int), .bool sk]).two
  have HO := Lib.hid (fun (W : World) => count_any (lefN n l c x) W (numOf_lt _ hn))
  have HH := Lib.hid (fun (W : World) => has_any c x W (by have := pow_le hn; omega) (by omega))
  by_cases hq : onesN (lefN n l c x) = 1
  · rw [hq] at HO
    cases sk with
    | true =>
      have HV : Hid (frcN n l true c x = lefN n l c x) := frc_yes (by unfold frcT; rw [hq]; rfl)
      clear hcl h hg hlen hc hq c6 b0 HH
      rw [HV.out]
      clear HV
      generalize lefN n l c x = y1 at *
      generalize outN l n c x = y2 at *
      generalize cloB l x = y3 at *
      go_enter Try.func92, Try.ntmps92
      go_wp2_with fail
      go_quiet (fail)
      go_wp2_with fail
      refine (HO.out _).mono ?_
      rintro e w' ⟨rfl, rfl⟩
      go_wp2_with fail
      go_ret
      exact ⟨rfl, below_drewN HB0.out _⟩
    | false =>
      cases hb : c.testBit x with
      | true =>
        have HV : Hid (frcN n l false c x = lefN n l c x) := frc_yes (by unfold frcT; rw [hq, hb]; rfl)
        rw [hb] at HH
        clear hcl h hg hlen hc hq c6 b0 hb
        rw [HV.out]
        clear HV
        generalize lefN n l c x = y1 at *
        generalize outN l n c x = y2 at *
        generalize cloB l x = y3 at *
        go_enter Try.func92, Try.ntmps92
        go_wp2_with fail
        go_quiet (fail)
        go_wp2_with fail
        refine (HO.out _).mono ?_
        rintro e w' ⟨rfl, rfl⟩
        go_wp2_with fail
        refine (HH.out _).mono ?_
        rintro e w' ⟨rfl, rfl⟩
        go_wp2_with fail
        go_ret
        exact ⟨rfl, below_drewN HB0.out _⟩
      | false =>
        have HV : Hid (frcN n l false c x = 0) := frc_no (by unfold frcT; rw [hb]; simp)
        rw [hb] at HH
        clear hcl h hg hlen hc hq c6 b0 hb
        rw [HV.out]
        clear HV
        generalize lefN n l c x = y1 at *
        generalize outN l n c x = y2 at *
        generalize cloB l x = y3 at *
        go_enter Try.func92, Try.ntmps92
        go_wp2_with fail
        go_quiet (fail)
        go_wp2_with fail
        refine (HO.out _).mono ?_
        rintro e w' ⟨rfl, rfl⟩
        go_wp2_with fail
        refine (HH.out _).mono ?_
        rintro e w' ⟨rfl, rfl⟩
        go_wp2_with fail
        go_ret
        exact ⟨rfl, below_drewN HB0.out _⟩
  · have hq' : (((onesN (lefN n l c x) : Nat) : Int) != 1) = true := by simp; omega
    have HV : Hid (frcN n l sk c x = 0) := frc_no (by unfold frcT; rw [beq_eq_false_iff_ne.2 hq]; rfl)
    clear hcl h hg hlen hc hq c6 b0 HH
    rw [HV.out]
    clear HV
    generalize onesN (lefN n l c x) = y0 at *
    generalize lefN n l c x = y1 at *
    generalize outN l n c x = y2 at *
    generalize cloB l x = y3 at *
    go_enter Try.func92, Try.ntmps92
    go_wp2_with fail
    go_quiet (fail)
    go_wp2_with fail
    refine (HO.out _).mono ?_
    rintro e w' ⟨rfl, rfl⟩
    go_wp2_with fail
    go_ret
    exact ⟨rfl, below_drewN HB0.out _⟩
set_option maxHeartbeats 4000000 in
set_option maxRecDepth 100000 in
theorem after_any (n c : Nat) (sk : Bool) (v : Value) (l : List Ed) (w : World) (h : Nums w v (clos l n)) (hg : P2.Good (n : Int) l) (hn : n ≤ 8) (hc : c < 2 ^ n) :
    Calls Try.prog 58 #[.agg #[.int .u64 (c : Int), .bool sk], v] w fun e w' => e = .returned (.agg #[.int .u64 (onN n l sk c : Int), .bool sk]) ∧ Below w.heap.size w w' := by
  obtain ⟨A, cc, rfl, -⟩ := h.form
  have hlen := clos_len l n
  have HFB := Lib.hid (fun (W : World) (hW : Below w.heap.size w W) (x : Nat) (hx : x < n) => forcedBy_any n c x sk (.slice A (clos l n).length cc) l W (h.below hW) hg hn hc hx)
  rw [hlen] at HFB ⊢
  have HOR : Hid (∀ k, k < n → bits .or .u64 (onK n l sk c k : Int) (frcN n l sk c k : Int) = (onK n l sk c (k + 1) : Int)) := fun k hk =>
    bits_or_u64_nat _ _ (by have := onK_lt (l := l) (sk := sk) hc k; have := pow_le hn; omega) (by have := frc_lt n l sk c k; have := pow_le hn; omega)
  clear h hg hlen
  go_enter Try.func58, Try.ntmps58
  go_wp2_with fail
  have g1 := ((Blk.new w 55 #[.int .u64 (c : Int), .bool sk]).alloc (.cells #[.int .u64 0, .bool false] 55)).alloc (.cells #[.int .u64 (c : Int), .bool sk] 55)
  have g2 := (Blk.new (w.alloc (.cells #[.int .u64 (c : Int), .bool sk] 55)) 55 #[.int .u64 0, .bool false]).alloc (.cells #[.int .u64 (c : Int), .bool sk] 55)
  have g3 := Blk.new ((w.alloc (.cells #[.int .u64 (c : Int), .bool sk] 55)).alloc (.cells #[.int .u64 0, .bool false] 55)) 55 #[.int .u64 (c : Int), .bool sk]
  rw [World.size_alloc] at g2
  rw [World.size_alloc, World.size_alloc] at g3
  have HG1 := Lib.hid g1
  have HG2 := Lib.hid g2
  have HG3 := Lib.hid g3
  have HB0 : Hid (Below w.heap.size w (((w.alloc (.cells #[.int .u64 (c : Int), .bool sk] 55)).alloc (.cells #[.int .u64 0, .bool false] 55)).alloc (.cells #[.int .u64 (c : Int), .bool sk] 55))) := (((Below.refl _ _).alloc (Nat.le_refl _) _).alloc (by simp) _).alloc (by simp; omega) _
  clear g1 g2 g3
  go_loopg [10] n (fun g iv wr => ∃ k : Nat, k + g = n ∧ iv = .int .i64 (k : Int) ∧ Blk wr w.heap.size 55 #[.int .u64 (c : Int), .bool sk] ∧ Blk wr (w.heap.size + 1) 55 #[.int .u64 0, .bool false] ∧ Blk wr (w.heap.size + 1 + 1) 55 #[.int .u64 (onK n l sk c k : Int), .bool sk] ∧ Below w.heap.size w wr)
  case atStart => exact ⟨0, by omega, rfl, HG1.out, HG2.out, HG3.out, HB0.out⟩
  case round =>
    clear HG1 HG2 HG3 HB0
    obtain ⟨k, hkg, rfl, hg1, hg2, hg3, hB⟩ := hrel
    have HG1 := Lib.hid hg1
    have HG2 := Lib.hid hg2
    have HG3 := Lib.hid hg3
    have HB := Lib.hid hB
    obtain ⟨p0, p1, -, -⟩ := hg1.two
    obtain ⟨m0, m1, y0, y1⟩ := hg2.two
    obtain ⟨k0, k1, z0, z1⟩ := hg3.two
    cases gk with
    | zero =>
      obtain rfl : k = n := by omega
      have HV : Hid (onK k l sk c k = onN k l sk c) := rfl
      clear hg1 hg2 hg3 hB
      go_wp2_with fail
      have HG6 : Hid (Blk ((wr.setCell ⟨w.heap.size + 1, 0, none⟩ (.int .u64 (onK k l sk c k : Int))).setCell ⟨w.heap.size + 1, 1, none⟩ (.bool sk)) (w.heap.size + 1) 55 #[.int .u64 (onK k l sk c k : Int), .bool sk]) := by
        have h_ := (HG2.out.set_ 0 (.int .u64 (onK k l sk c k : Int))).set_ 1 (.bool sk)
        show Blk _ _ _ _
        simpa using h_
      have HB6 := Lib.hid ((HB.out.setCell (p := ⟨w.heap.size + 1, 0, none⟩) (by simp) (.int .u64 (onK k l sk c k : Int))).setCell (p := ⟨w.heap.size + 1, 1, none⟩) (by simp) (.bool sk))
      obtain ⟨q0, q1, -, -⟩ := HG6.out.two
      refine bodyPost_ret (v := .agg #[.int .u64 (onK k l sk c k : Int), .bool sk]) (by simp [results, Try.results58, go_sem, q0, q1]) rfl ⟨by rw [HV.out], HB6.out⟩
    | succ g2 =>
      have hkn : k < n := by omega
      have hkn' : (k : Int) < (n : Int) := by omega
      have HF := Lib.hid (HFB.out wr.drew HB.out.drew k hkn)
      have hor := HOR.out k hkn
      clear hg1 hg2 hg3 hB
      generalize hq1 : onK n l sk c (k + 1) = N1 at *
      have HQ1 := Lib.hid hq1
      clear hq1
      generalize onK n l sk c k = N0 at *
      generalize frcN n l sk c k = N2 at *
      go_wp2_with fail
      go_region_with (go_at_call 92; (with_reducible refine HF.out.mono ?_); rintro e w3 ⟨rfl, b3⟩; have d3 : Below wr.heap.size wr w3 := btrans (Below.refl _ _).drew b3; obtain ⟨j0, j1, x0, x1⟩ := (HG3.out.below d3 HG3.out.lt).two; obtain ⟨i0, i1, -, -⟩ := (HG1.out.below d3 HG1.out.lt).two)
      all_goals
        have HG6 : Hid (Blk (w3.setCell ⟨w.heap.size + 1 + 1, 0, none⟩ (.int .u64 (N1 : Int))) (w.heap.size + 1 + 1) 55 #[.int .u64 (N1 : Int), .bool sk]) := by
          have h_ := (HG3.out.below d3 HG3.out.lt).set_ 0 (.int .u64 (N1 : Int))
          show Blk _ _ _ _
          simpa using h_
        have HG7 := Lib.hid ((HG1.out.below d3 HG1.out.lt).far (p := ⟨w.heap.size + 1 + 1, 0, none⟩) (by simp; omega) (.int .u64 (N1 : Int)))
        have HG8 := Lib.hid ((HG2.out.below d3 HG2.out.lt).far (p := ⟨w.heap.size + 1 + 1, 0, none⟩) (by simp) (.int .u64 (N1 : Int)))
        have HB6 := Lib.hid ((btrans HB.out d3).setCell (p := ⟨w.heap.size + 1 + 1, 0, none⟩) (by simp; omega) (.int .u64 (N1 : Int)))
        go_wp2_with fail
        go_roundg g2
        case measure => omega
        case rel => exact ⟨k + 1, by omega, by go_num, HG7.out, HG8.out, by rw [HQ1.out]; exact HG6.out, HB6.out⟩
end Go.Proofs.Ytfphpilabfpmjaa.forc
