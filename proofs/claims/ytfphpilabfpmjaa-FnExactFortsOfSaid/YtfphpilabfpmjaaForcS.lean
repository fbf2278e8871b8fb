/- Forcing: the contracts of the model's l9Both, l9Open, l9Once and l9All. -/
import Derived.Handy
import Derived.Test.YtfphpilabfpmjaaForcM
import Derived.Test.YtfphpilabfpmjaaAmong
import Derived.Test.YtfphpilabfpmjaaSpreS
import Derived.Test.YtfphpilabfpmjaaTimeT
import Derived.Test.YtfphpilabfpmjaaGoodS
import Derived.Deep.DeepCutAuto
import Derived.Deep.RegionHeld3
namespace Go.Proofs.Ytfphpilabfpmjaa.forc
open Go.RowKit P2 words edges ints good adjs fns sets rets covs bags balls bitsI ups func costs
set_option linter.unusedVariables false

theorem amg_lef {n c : Nat} {l : List Ed} (x : Nat) : amgL n l (nw (bitB c) n) (x : Int) = nw (lefB l c x) n := by
  unfold amgL
  refine reach.nw_congr fun z hz => ?_
  unfold lefB goneB
  rw [Bool.and_comm]
  congr 2
  rw [Bool.eq_iff_iff, decide_eq_true_iff, mem_nw]
  constructor
  · rintro ⟨j, hj, hp, e⟩
    have : z = j := by omega
    subst this; exact hp
  · intro h; exact ⟨z, hz, h, rfl⟩
theorem lef_one {n c x : Nat} {l : List Ed} (hn : n ≤ 8) (h : onesN (lefN n l c x) = 1) : ∃ y, y < n ∧ lefN n l c x = 2 ^ y ∧ nw (lefB l c x) n = [(y : Int)] := by
  obtain ⟨y, hy, e⟩ := one_bit (c := lefN n l c x) (numOf_lt _ hn) h
  have hb : (lefN n l c x).testBit y = true := by rw [e, Nat.testBit_two_pow]; simp
  unfold lefN at hb
  rw [numOf_bit, Bool.and_eq_true, decide_eq_true_iff] at hb
  refine ⟨y, hb.1, e, ?_⟩
  unfold lefN at h
  rw [ones_num _ hn] at h
  obtain ⟨z, hz⟩ := List.length_eq_one_iff.1 h
  have : (y : Int) ∈ nw (lefB l c x) n := mem_nw.2 ⟨y, hb.1, hb.2, rfl⟩
  rw [hz, List.mem_singleton] at this
  rw [hz, this]
theorem l9Both_any (s : Int) (v u : Value) (l : List Ed) (xs : List Int) (w : World) (h : Edges w v l) (hl : l.length ≤ 1048576) (hu : Ints w u xs) (hxl : xs.length ≤ 1048576) (hs1 : -9223372036854775808 ≤ s) (hs2 : s ≤ 9223372036854775807) :
    Calls Try.prog 51 #[.agg #[.int .i64 s, v], u] w fun e w' => e = .returned (.bool (okG (SetOk s l xs))) ∧ Below w.heap.size w w' := by
  obtain ⟨A, c, rfl, -⟩ := h.form
  have HU := Lib.hid hu
  have b0 : Below w.heap.size w (w.alloc (.cells #[.int .i64 s, .slice A l.length c] 29)) := (Below.refl _ _).alloc (Nat.le_refl _) _
  have g0 := Blk.new w 29 #[.int .i64 s, .slice A l.length c]
  obtain ⟨p0, p1, -, -⟩ := g0.two
  have HGD := Lib.hid (l2Good_any s _ l _ (h.below b0) hl hs1 hs2)
  have HB0 := Lib.hid b0
  have HG0 := Lib.hid g0
  clear h hu b0 g0
  by_cases hgd : P2.Good s l
  · rw [goodB_yes hgd] at HGD
    have HS := Lib.hid (fun (W : World) (hW : Below w.heap.size w W) => l2Set_any s (.slice A l.length c) u l xs W (HU.out.below hW) hxl hgd.1 hgd.2.1)
    have HV : Hid (okG (RisesIn xs 0 (s - 1)) = okG (SetOk s l xs)) := by
      show _ = _
      by_cases hso : SetOk s l xs
      · rw [okG_yes hso, okG_yes ((setOk_iff hgd).2 hso)]
      · rw [okG_no hso, okG_no (fun h => hso ((setOk_iff hgd).1 h))]
    rw [HV.out] at HS
    clear hgd HV
    go_enter Try.func51, Try.ntmps51
    go_wp2_with fail
    refine HGD.out.mono ?_
    rintro e w1 ⟨rfl, b1⟩
    have HE1 := Lib.hid (btrans HB0.out b1)
    have HG1 := Lib.hid (HG0.out.below b1 HG0.out.lt)
    have HSS := Lib.hid (HS.out w1 HE1.out)
    clear p0 p1 b1 HGD HS HB0 HG0
    obtain ⟨p0, p1, -, -⟩ := HG1.out.two
    go_wp2_with fail
    refine HSS.out.mono ?_
    rintro e w2 ⟨rfl, b2⟩
    have HE2 := Lib.hid (btrans HE1.out b2)
    clear p0 p1 b2
    go_wp2_with fail
    go_ret
    exact ⟨rfl, HE2.out⟩
  · rw [goodB_no hgd] at HGD
    have HV : Hid (okG (SetOk s l xs) = false) := okG_no fun h => hgd h.1
    clear hgd
    go_enter Try.func51, Try.ntmps51
    go_wp2_with fail
    refine HGD.out.mono ?_
    rintro e w1 ⟨rfl, b1⟩
    have HE1 := Lib.hid (btrans HB0.out b1)
    clear p0 p1 b1
    go_wp2_with fail
    go_ret
    exact ⟨ret_bool HV.out.symm, HE1.out⟩
theorem l9Open_any (n c x : Nat) (v u : Value) (l : List Ed) (w : World) (h : Edges w v l) (hl : l.length ≤ 1048576) (hu : Ints w u (nw (bitB c) n)) (hn : n ≤ 8) :
    Calls Try.prog 87 #[.agg #[.int .i64 (n : Int), v], u, .int .i64 (x : Int)] w (RowI w (nw (lefB l c x) n)) := by
  obtain ⟨A, cc, rfl, -⟩ := h.form
  have b0 : Below w.heap.size w (w.alloc (.cells #[.int .i64 (n : Int), .slice A l.length cc] 29)) := (Below.refl _ _).alloc (Nat.le_refl _) _
  obtain ⟨p0, p1, -, -⟩ := (Blk.new w 29 #[.int .i64 (n : Int), .slice A l.length cc]).two
  have HA := Lib.hid (l5Among_any n (x : Int) (.slice A l.length cc) u l (nw (bitB c) n) _ (h.below b0) hl (hu.below b0) (by have := nw_len (bitB c) n; omega) hn)
  rw [amg_lef] at HA
  have HB0 := Lib.hid b0
  clear h hu b0
  go_enter Try.func87, Try.ntmps87
  go_wp2_with fail
  refine HA.out.mono ?_
  rintro e w1 ⟨A1, c1, rfl, o1, b1⟩
  go_wp2_with fail
  go_ret
  exact ⟨A1, c1, rfl, own_base o1 HB0.out.size, btrans HB0.out b1⟩
theorem put_two {n d y : Nat} {L : List Int} (h : PutI (nw (bitB d) n) (y : Int) L) (hy : y < n) : L = nw (bitB (d ||| 2 ^ y)) n := put_bits h hy
set_option maxHeartbeats 4000000 in
set_option maxRecDepth 100000 in
theorem l9Once_any (n c : Nat) (sk : Bool) (v u : Value) (l : List Ed) (w : World) (h : Edges w v l) (hl : l.length ≤ 1048576) (hu : Ints w u (nw (bitB c) n)) (hn : n ≤ 8) :
    Calls Try.prog 52 #[.agg #[.int .i64 (n : Int), v], u, .bool sk] w (RowI w (nw (bitB (onN n l sk c)) n)) := by
  obtain ⟨A, cc, rfl, -⟩ := h.form
  have H := Lib.hid h
  have HU := Lib.hid hu
  have b0 : Below w.heap.size w (w.alloc (.cells #[.int .i64 (n : Int), .slice A l.length cc] 29)) := (Below.refl _ _).alloc (Nat.le_refl _) _
  have HB0 := Lib.hid b0
  have HG0 := Lib.hid (Blk.new w 29 #[.int .i64 (n : Int), .slice A l.length cc])
  have HOW := Lib.hid (times.l1Own_any u _ _ (hu.below b0) (by have := nw_len (bitB c) n; omega))
  have HMEM : Hid (∀ x : Nat, x < n → decide ((x : Int) ∈ nw (bitB c) n) = c.testBit x) := fun x hx => by
    rw [Bool.eq_iff_iff, decide_eq_true_iff, mem_nw]
    constructor
    · rintro ⟨j, hj, hp, e⟩
      have : x = j := by omega
      subst this; exact hp
    · intro h; exact ⟨x, hx, h, rfl⟩
  clear h hu b0
  go_enter Try.func52, Try.ntmps52
  go_wp2_with fail
  refine HOW.out.mono ?_
  rintro e w1 ⟨A1, c1, rfl, o1, b1⟩
  have HE1 := Lib.hid (btrans HB0.out b1)
  have HG1 := Lib.hid (HG0.out.below b1 HG0.out.lt)
  have HO1 := Lib.hid (own_base (B' := w.heap.size) o1 HB0.out.size)
  clear o1 b1
  go_wp2_with fail
  go_loopg [7, 8] n (fun g ov xv wr => ∃ (x : Nat) (ow : Value), ow = ov ∧ x + g = n ∧ xv = .int .i64 (x : Int) ∧ wr.ownsRow w.heap.size 3 1 ow (nw (bitB (onK n l sk c x)) n).length (cellsI (nw (bitB (onK n l sk c x)) n)) ∧ Blk wr w.heap.size 29 #[.int .i64 (n : Int), .slice A l.length cc] ∧ Below w.heap.size w wr)
  case atStart => exact ⟨0, _, rfl, by omega, rfl, HO1.out, HG1.out, HE1.out⟩
  case round =>
    clear HO1 HG1 HE1 HOW HB0 HG0
    obtain ⟨x, ow, rfl, hxg, rfl, hrow, hgb, hB⟩ := hrel
    obtain ⟨A4, c4, rfl⟩ := own_form hrow
    obtain ⟨p0, p1, -, -⟩ := hgb.two
    have HR := Lib.hid hrow
    have HG := Lib.hid hgb
    have HB := Lib.hid hB
    cases gk with
    | zero =>
      obtain rfl : x = n := by omega
      clear hrow hgb hB
      go_wp2_with fail
      go_ret
      exact ⟨A4, c4, rfl, HR.out, HB.out⟩
    | succ g2 =>
      have hxn : x < n := by omega
      have hxn' : (x : Int) < (n : Int) := by omega
      have HOP := Lib.hid (l9Open_any n c x (.slice A l.length cc) u l wr (H.out.below hB) hl (HU.out.below hB) hn)
      have HHS := Lib.hid (fun (W : World) (hW : Below w.heap.size w W) => l1Has_any u (nw (bitB c) n) (x : Int) W (HU.out.below hW) (by have := nw_len (bitB c) n; omega))
      rw [HMEM.out x hxn] at HHS
      have hml := nw_len (bitB (onK n l sk c x)) n
      have HASC := Lib.hid (nw_asc (bitB (onK n l sk c x)) n)
      have hol := ones_num (lefB l c x) hn
      clear hrow hgb hB
      cases hsk : sk with
      | true =>
        subst hsk
        by_cases hq : onesN (lefN n l c x) = 1
        · obtain ⟨y, hy, hl2, hl1⟩ := lef_one hn hq
          rw [hl1] at HOP
          have HPB := Lib.hid (fun L (h : PutI (nw (bitB (onK n l true c x)) n) (y : Int) L) => put_two h hy)
          clear hol hl1
          have HN : Hid (onK n l true c (x + 1) = onK n l true c x ||| 2 ^ y) := by
            show onK n l true c x ||| frcN n l true c x = _
            rw [frc_yes (by unfold frcT; rw [hq]; rfl), hl2]
          clear hq hl2
          generalize nw (bitB (onK n l true c x)) n = M at *
          go_wp2_with fail
          refine HOP.out.mono ?_
          rintro e w2 ⟨A5, c5, rfl, o5, b5⟩
          have HB2 := Lib.hid (btrans HB.out b5)
          have HG2 := Lib.hid (HG.out.below b5 HG.out.lt)
          have HR2 := Lib.hid (own_below HR.out b5)
          have HHS2 := Lib.hid (HHS.out w2 HB2.out)
          obtain ⟨_, _, hf5, hcc⟩ := (show Ints w2 (.slice A5 [(y : Int)].length c5) [(y : Int)] from Reads.of_own o5).form
          cases hf5
          obtain ⟨g9, o9, rfl, c9⟩ := hcc 0 _ rfl
          rw [Nat.add_zero] at c9
          have HPT := Lib.hid (l1Put_own _ M (y : Int) w2 w.heap.size HR2.out HB2.out.size (by omega) HASC.out)
          clear p0 p1 b5 o5 hcc HOP HHS
          go_wp2_with fail
          refine HPT.out.mono ?_
          rintro e w3 ⟨L, A7, c7, rfl, hpi, o7, b7⟩
          have HLB := Lib.hid (HPB.out L hpi)
          have HB3 := Lib.hid (btrans HB2.out b7)
          have HG3 := Lib.hid (HG2.out.below b7 HG2.out.lt)
          have HO7 := Lib.hid o7
          clear hpi o7 b7
          go_wp2_with fail
          go_roundg g2
          case measure => omega
          case rel => exact ⟨x + 1, _, rfl, by omega, by go_num, by rw [HN.out, ← HLB.out]; exact HO7.out, HG3.out, HB3.out⟩
        · have HN : Hid (onK n l true c (x + 1) = onK n l true c x) := by
            show onK n l true c x ||| frcN n l true c x = _
            rw [frc_no (by unfold frcT; rw [beq_eq_false_iff_ne.2 hq]; rfl), Nat.or_zero]
          have hq' : (((nw (lefB l c x) n).length : Int) == 1) = false := by rw [beq_eq_false_iff_ne, ← hol]; intro h; exact hq (by unfold lefN; omega)
          clear hq hol
          generalize nw (lefB l c x) n = M2 at *
          go_wp2_with fail
          refine HOP.out.mono ?_
          rintro e w2 ⟨A5, c5, rfl, o5, b5⟩
          have HB2 := Lib.hid (btrans HB.out b5)
          have HG2 := Lib.hid (HG.out.below b5 HG.out.lt)
          have HR2 := Lib.hid (own_below HR.out b5)
          clear p0 p1 b5 o5 HOP HHS
          go_wp2_with fail
          go_roundg g2
          case measure => omega
          case rel => exact ⟨x + 1, _, rfl, by omega, by go_num, by rw [HN.out]; exact HR2.out, HG2.out, HB2.out⟩
      | false =>
        subst hsk
        by_cases hq : onesN (lefN n l c x) = 1
        · obtain ⟨y, hy, hl2, hl1⟩ := lef_one hn hq
          rw [hl1] at HOP
          have HPB := Lib.hid (fun L (h : PutI (nw (bitB (onK n l false c x)) n) (y : Int) L) => put_two h hy)
          clear hol hl1
          cases hb : c.testBit x with
          | true =>
            rw [hb] at HHS
            have HN : Hid (onK n l false c (x + 1) = onK n l false c x ||| 2 ^ y) := by
              show onK n l false c x ||| frcN n l false c x = _
              rw [frc_yes (by unfold frcT; rw [hq]; rw [hb]; rfl), hl2]
            clear hq hl2 hb
            generalize nw (bitB (onK n l false c x)) n = M at *
            go_wp2_with fail
            refine HOP.out.mono ?_
            rintro e w2 ⟨A5, c5, rfl, o5, b5⟩
            have HB2 := Lib.hid (btrans HB.out b5)
            have HG2 := Lib.hid (HG.out.below b5 HG.out.lt)
            have HR2 := Lib.hid (own_below HR.out b5)
            have HHS2 := Lib.hid (HHS.out w2 HB2.out)
            obtain ⟨_, _, hf5, hcc⟩ := (show Ints w2 (.slice A5 [(y : Int)].length c5) [(y : Int)] from Reads.of_own o5).form
            cases hf5
            obtain ⟨g9, o9, rfl, c9⟩ := hcc 0 _ rfl
            rw [Nat.add_zero] at c9
            have HPT := Lib.hid (l1Put_own _ M (y : Int) w2 w.heap.size HR2.out HB2.out.size (by omega) HASC.out)
            clear p0 p1 b5 o5 hcc HOP HHS
            go_wp2_with fail
            refine HHS2.out.mono ?_
            rintro e w' ⟨rfl, rfl⟩
            go_wp2_with fail
            refine HPT.out.mono ?_
            rintro e w3 ⟨L, A7, c7, rfl, hpi, o7, b7⟩
            have HLB := Lib.hid (HPB.out L hpi)
            have HB3 := Lib.hid (btrans HB2.out b7)
            have HG3 := Lib.hid (HG2.out.below b7 HG2.out.lt)
            have HO7 := Lib.hid o7
            clear hpi o7 b7
            go_wp2_with fail
            go_roundg g2
            case measure => omega
            case rel => exact ⟨x + 1, _, rfl, by omega, by go_num, by rw [HN.out, ← HLB.out]; exact HO7.out, HG3.out, HB3.out⟩
          | false =>
            rw [hb] at HHS
            have HN : Hid (onK n l false c (x + 1) = onK n l false c x) := by
              show onK n l false c x ||| frcN n l false c x = _
              rw [frc_no (by unfold frcT; rw [hb]; simp), Nat.or_zero]
            clear hq hb hl2
            go_wp2_with fail
            refine HOP.out.mono ?_
            rintro e w2 ⟨A5, c5, rfl, o5, b5⟩
            have HB2 := Lib.hid (btrans HB.out b5)
            have HG2 := Lib.hid (HG.out.below b5 HG.out.lt)
            have HR2 := Lib.hid (own_below HR.out b5)
            have HHS2 := Lib.hid (HHS.out w2 HB2.out)
            clear p0 p1 b5 o5 HOP HHS
            go_wp2_with fail
            refine HHS2.out.mono ?_
            rintro e w' ⟨rfl, rfl⟩
            go_wp2_with fail
            go_roundg g2
            case measure => omega
            case rel => exact ⟨x + 1, _, rfl, by omega, by go_num, by rw [HN.out]; exact HR2.out, HG2.out, HB2.out⟩
        · have HN : Hid (onK n l false c (x + 1) = onK n l false c x) := by
            show onK n l false c x ||| frcN n l false c x = _
            rw [frc_no (by unfold frcT; rw [beq_eq_false_iff_ne.2 hq]; rfl), Nat.or_zero]
          have hq' : (((nw (lefB l c x) n).length : Int) == 1) = false := by rw [beq_eq_false_iff_ne, ← hol]; intro h; exact hq (by unfold lefN; omega)
          clear hq hol
          generalize nw (lefB l c x) n = M2 at *
          go_wp2_with fail
          refine HOP.out.mono ?_
          rintro e w2 ⟨A5, c5, rfl, o5, b5⟩
          have HB2 := Lib.hid (btrans HB.out b5)
          have HG2 := Lib.hid (HG.out.below b5 HG.out.lt)
          have HR2 := Lib.hid (own_below HR.out b5)
          clear p0 p1 b5 o5 HOP HHS
          go_wp2_with fail
          go_roundg g2
          case measure => omega
          case rel => exact ⟨x + 1, _, rfl, by omega, by go_num, by rw [HN.out]; exact HR2.out, HG2.out, HB2.out⟩
theorem nw_ones {n c : Nat} (hn : n ≤ 8) (hc : c < 2 ^ n) : (nw (bitB c) n).length = onesN c := by rw [nd_bits hn hc]; rfl
set_option maxHeartbeats 4000000 in
set_option maxRecDepth 100000 in
theorem l9All_any (n c : Nat) (sk : Bool) (v u : Value) (l : List Ed) (w : World) (h : Edges w v l) (hl : l.length ≤ 1048576) (hu : Ints w u (nw (bitB c) n)) (hn : n ≤ 8) (hc : c < 2 ^ n) :
    Calls Try.prog 62 #[.agg #[.int .i64 (n : Int), v], u, .bool sk] w (RowI w (nw (bitB (lastN n l sk c)) n)) := by
  obtain ⟨A, cc, rfl, -⟩ := h.form
  have H := Lib.hid h
  have b0 : Below w.heap.size w (w.alloc (.cells #[.int .i64 (n : Int), .slice A l.length cc] 29)) := (Below.refl _ _).alloc (Nat.le_refl _) _
  have HB0 := Lib.hid b0
  have HG0 := Lib.hid (Blk.new w 29 #[.int .i64 (n : Int), .slice A l.length cc])
  have HOW := Lib.hid (times.l1Own_any u _ _ (hu.below b0) (by have := nw_len (bitB c) n; omega))
  have H0 : Hid (lastF n l sk 8 c = lastN n l sk c) := rfl
  have HC := Lib.hid hc
  clear h hu b0 hc
  go_enter Try.func62, Try.ntmps62
  go_wp2_with fail
  refine HOW.out.mono ?_
  rintro e w1 ⟨A1, c1, rfl, o1, b1⟩
  have HE1 := Lib.hid (btrans HB0.out b1)
  have HG1 := Lib.hid (HG0.out.below b1 HG0.out.lt)
  have HO1 := Lib.hid (own_base (B' := w.heap.size) o1 HB0.out.size)
  clear o1 b1
  go_wp2_with fail
  go_loopg [7] 8 (fun g ov wr => ∃ (d : Nat) (ow : Value), ow = ov ∧ Hid (d < 2 ^ n) ∧ 8 ≤ onesN d + g ∧ Hid (lastF n l sk g d = lastN n l sk c) ∧ wr.ownsRow w.heap.size 3 1 ow (nw (bitB d) n).length (cellsI (nw (bitB d) n)) ∧ Blk wr w.heap.size 29 #[.int .i64 (n : Int), .slice A l.length cc] ∧ Below w.heap.size w wr)
  case atStart => exact ⟨c, _, rfl, HC, by omega, H0, HO1.out, HG1.out, HE1.out⟩
  case round =>
    clear HO1 HG1 HE1 HOW HB0 HG0 H0
    obtain ⟨d, ow, rfl, hdn, hms, hlf, hrow, hgb, hB⟩ := hrel
    obtain ⟨A4, c4, rfl⟩ := own_form hrow
    obtain ⟨p0, p1, -, -⟩ := hgb.two
    have HR := Lib.hid hrow
    have HG := Lib.hid hgb
    have HB := Lib.hid hB
    have HON := Lib.hid (l9Once_any n d sk (.slice A l.length cc) (.slice A4 (nw (bitB d) n).length c4) l wr (H.out.below hB) hl (show Ints _ _ _ from Reads.of_own hrow) hn)
    have hl1 := nw_ones hn hdn.out
    have hl2 := nw_ones (c := onN n l sk d) hn (on_lt hdn.out)
    clear hrow hgb hB
    by_cases he : onN n l sk d = d
    · have HV : Hid (lastN n l sk c = d) := hlf.out.symm.trans (rnd_stop he).2
      rw [he] at HON
      clear he hl1 hl2 hms
      go_wp2_with fail
      refine HON.out.mono ?_
      rintro e w2 ⟨A5, c5, rfl, o5, b5⟩
      have HB2 := Lib.hid (btrans HB.out b5)
      have HR2 := Lib.hid (own_below HR.out b5)
      clear p0 p1 b5 o5 HON
      go_wp2_with fail
      go_ret
      rw [HV.out]
      exact ⟨A4, c4, rfl, HR2.out, HB2.out⟩
    · obtain ⟨g2, rfl, hms2⟩ := rnd_fuel hn hdn.out hms he
      have HL : Hid (lastF n l sk g2 (onN n l sk d) = lastN n l sk c) := (rnd_go he).2.symm.trans hlf.out
      have HD : Hid (onN n l sk d < 2 ^ n) := on_lt hdn.out
      have HMS := Lib.hid hms2
      have hm := on_more hn hdn.out he
      have hne : (((nw (bitB (onN n l sk d)) n).length : Int) == ((nw (bitB d) n).length : Int)) = false := by rw [beq_eq_false_iff_ne]; omega
      have hne2 : ((nw (bitB (onN n l sk d)) n).length == (nw (bitB d) n).length) = false := by rw [beq_eq_false_iff_ne]; omega
      clear he hl1 hl2 hms hms2 hm
      generalize hN : onN n l sk d = d2 at *
      clear hN
      go_wp2_with fail
      refine HON.out.mono ?_
      rintro e w2 ⟨A5, c5, rfl, o5, b5⟩
      have HB2 := Lib.hid (btrans HB.out b5)
      have HG2 := Lib.hid (HG.out.below b5 HG.out.lt)
      have HR2 := Lib.hid (own_base (B' := w.heap.size) o5 HB.out.size)
      clear p0 p1 b5 o5 HON
      go_wp2_with fail
      go_roundg g2
      case measure => omega
      case rel => exact ⟨d2, _, rfl, HD, HMS.out, HL, HR2.out, HG2.out, HB2.out⟩
end Go.Proofs.Ytfphpilabfpmjaa.forc
