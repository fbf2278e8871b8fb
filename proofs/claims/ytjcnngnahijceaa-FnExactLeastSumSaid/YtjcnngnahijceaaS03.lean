/- Forcing: the contracts of the model's l9Both, l9Open, l9Once and l9All. -/
import Derived.Handy
import Derived.Test.YtjcnngnahijceaaS01
import Derived.Test.YtjcnngnahijceaaAmong
import Derived.Test.YtjcnngnahijceaaSpreS
import Derived.Test.YtjcnngnahijceaaTimeT
import Derived.Test.YtjcnngnahijceaaGoodS
import Derived.Deep.DeepCutAuto
import Derived.Deep.RegionHeld3
import Derived.Test.YtjcnngnahijceaaS02
import Derived.Deep.QuietTactic
namespace Go.Proofs.Ytjcnngnahijceaa.forc
open Go.RowKit P2 words edges ints good adjs fns sets rets covs bags balls bitsI ups func costs
set_option linter.unusedVariables false

theorem amg_lef {n c : Nat} {l : List Ed} (x : Nat) : amgL n l (nw (bitB c) n) (x : Int) = nw (lefB l c x) n := by
  unfold amgL
  refine reach.nw_congr fun z hz => ?_
  unfold lefB goneB
  rw [Bool.and_comm]
  congr 2
  rw [Bool.eq_iff_iff, decide_eq_true_iff, mem_nw]
  constructor
  · rintro ⟨j, hj, hp, e⟩
    have : z = j := by omega
    subst this; exact hp
  · intro h; exact ⟨z, hz, h, rfl⟩
theorem lef_one {n c x : Nat} {l : List Ed} (hn : n ≤ 8) (h : onesN (lefN n l c x) = 1) : ∃ y, y < n ∧ lefN n l c x = 2 ^ y ∧ nw (lefB l c x) n = [(y : Int)] := by
  obtain ⟨y, hy, e⟩ := one_bit (c := lefN n l c x) (numOf_lt _ hn) h
  have hb : (lefN n l c x).testBit y = true := by rw [e, Nat.testBit_two_pow]; simp
  unfold lefN at hb
  rw [numOf_bit, Bool.and_eq_true, decide_eq_true_iff] at hb
  refine ⟨y, hb.1, e, ?_⟩
  unfold lefN at h
  rw [ones_num _ hn] at h
  obtain ⟨z, hz⟩ := List.length_eq_one_iff.1 h
  have : (y : Int) ∈ nw (lefB l c x) n := mem_nw.2 ⟨y, hb.1, hb.2, rfl⟩
  rw [hz, List.mem_singleton] at this
  rw [hz, this]
theorem l9Open_any (n c x : Nat) (v u : Value) (l : List Ed) (w : World) (h : Edges w v l) (hl : l.length ≤ 1048576) (hu : Ints w u (nw (bitB c) n)) (hn : n ≤ 8) :
    Calls Try.prog 151 #[.agg #[.int .i64 (n : Int), v], u, .int .i64 (x : Int)] w (RowI w (nw (lefB l c x) n)) := by
  obtain ⟨A, cc, rfl, -⟩ := h.form
  have b0 : Below w.heap.size w (w.alloc (.cells #[.int .i64 (n : Int), .slice A l.length cc] 28)) := (Below.refl _ _).alloc (Nat.le_refl _) _
  obtain ⟨p0, p1, -, -⟩ := (Blk.new w 28 #[.int .i64 (n : Int), .slice A l.length cc]).two
  have HA := Lib.hid (l5Among_any n (x : Int) (.slice A l.length cc) u l (nw (bitB c) n) _ (h.below b0) hl (hu.below b0) (by have := nw_len (bitB c) n; omega) hn)
  rw [amg_lef] at HA
  have HB0 := Lib.hid b0
  clear h hu b0
  go_enter Try.func151, Try.ntmps151
  go_wp2_with fail
  refine HA.out.mono ?_
  rintro e w1 ⟨A1, c1, rfl, o1, b1⟩
  go_wp2_with fail
  go_ret
  exact ⟨A1, c1, rfl, own_base o1 HB0.out.size, btrans HB0.out b1⟩
theorem put_two {n d y : Nat} {L : List Int} (h : PutI (nw (bitB d) n) (y : Int) L) (hy : y < n) : L = nw (bitB (d ||| 2 ^ y)) n := put_bits h hy
set_option maxHeartbeats 4000000 in
set_option maxRecDepth 100000 in
theorem l9Once_any (n c : Nat) (sk : Bool) (v u : Value) (l : List Ed) (w : World) (h : Edges w v l) (hl : l.length ≤ 1048576) (hu : Ints w u (nw (bitB c) n)) (hn : n ≤ 8) :
    Calls Try.prog 103 #[.agg #[.int .i64 (n : Int), v], u, .bool sk] w (RowI w (nw (bitB (onN n l sk c)) n)) := by
  obtain ⟨A, cc, rfl, -⟩ := h.form
  have H := Lib.hid h
  have HU := Lib.hid hu
  have b0 : Below w.heap.size w (w.alloc (.cells #[.int .i64 (n : Int), .slice A l.length cc] 28)) := (Below.refl _ _).alloc (Nat.le_refl _) _
  have HB0 := Lib.hid b0
  have HG0 := Lib.hid (Blk.new w 28 #[.int .i64 (n : Int), .slice A l.length cc])
  have HOW := Lib.hid (times.l1Own_any u _ _ (hu.below b0) (by have := nw_len (bitB c) n; omega))
  have HMEM : Hid (∀ x : Nat, x < n → decide ((x : Int) ∈ nw (bitB c) n) = c.testBit x) := fun x hx => by
    rw [Bool.eq_iff_iff, decide_eq_true_iff, mem_nw]
    constructor
    · rintro ⟨j, hj, hp, e⟩
      have : x = j := by omega
      subst this; exact hp
    · intro h; exact ⟨x, hx, h, rfl⟩
  clear h hu b0
  go_enter Try.func103, Try.ntmps103
  go_wp2_with fail
  refine HOW.out.mono ?_
  rintro e w1 ⟨A1, c1, rfl, o1, b1⟩
  have HE1 := Lib.hid (btrans HB0.out b1)
  have HG1 := Lib.hid (HG0.out.below b1 HG0.out.lt)
  have HO1 := Lib.hid (own_base (B' := w.heap.size) o1 HB0.out.size)
  clear o1 b1
  go_wp2_with fail
  go_loopg [7, 8] n (fun g ov xv wr => ∃ (x : Nat) (ow : Value), ow = ov ∧ x + g = n ∧ xv = .int .i64 (x : Int) ∧ wr.ownsRow w.heap.size 3 1 ow (nw (bitB (onK n l sk c x)) n).length (cellsI (nw (bitB (onK n l sk c x)) n)) ∧ Blk wr w.heap.size 28 #[.int .i64 (n : Int), .slice A l.length cc] ∧ Below w.heap.size w wr)
  case atStart => exact ⟨0, _, rfl, by omega, rfl, HO1.out, HG1.out, HE1.out⟩
  case round =>
    clear HO1 HG1 HE1 HOW HB0 HG0
    obtain ⟨x, ow, rfl, hxg, rfl, hrow, hgb, hB⟩ := hrel
    obtain ⟨A4, c4, rfl⟩ := own_form hrow
    obtain ⟨p0, p1, -, -⟩ := hgb.two
    have HR := Lib.hid hrow
    have HG := Lib.hid hgb
    have HB := Lib.hid hB
    cases gk with
    | zero =>
      obtain rfl : x = n := by omega
      clear hrow hgb hB
      go_wp2_with fail
      go_ret
      exact ⟨A4, c4, rfl, HR.out, HB.out⟩
    | succ g2 =>
      have hxn : x < n := by omega
      have hxn' : (x : Int) < (n : Int) := by omega
      have HOP := Lib.hid (l9Open_any n c x (.slice A l.length cc) u l wr (H.out.below hB) hl (HU.out.below hB) hn)
      have HHS := Lib.hid (fun (W : World) (hW : Below w.heap.size w W) => l1Has_any u (nw (bitB c) n) (x : Int) W (HU.out.below hW) (by have := nw_len (bitB c) n; omega))
      rw [HMEM.out x hxn] at HHS
      have hml := nw_len (bitB (onK n l sk c x)) n
      have HASC := Lib.hid (nw_asc (bitB (onK n l sk c x)) n)
      have hol := ones_num (lefB l c x) hn
      clear hrow hgb hB
      cases hsk : sk with
      | true =>
        subst hsk
        by_cases hq : onesN (lefN n l c x) = 1
        · obtain ⟨y, hy, hl2, hl1⟩ := lef_one hn hq
          rw [hl1] at HOP
          have HPB := Lib.hid (fun L (h : PutI (nw (bitB (onK n l true c x)) n) (y : Int) L) => put_two h hy)
          clear hol hl1
          have HN : Hid (onK n l true c (x + 1) = onK n l true c x ||| 2 ^ y) := by
            show onK n l true c x ||| frcN n l true c x = _
            rw [frc_yes (by unfold frcT; rw [hq]; rfl), hl2]
          clear hq hl2
          generalize nw (bitB (onK n l true c x)) n = M at *
          go_wp2_with fail
          refine HOP.out.mono ?_
          rintro e w2 ⟨A5, c5, rfl, o5, b5⟩
          have HB2 := Lib.hid (btrans HB.out b5)
          have HG2 := Lib.hid (HG.out.below b5 HG.out.lt)
          have HR2 := Lib.hid (own_below HR.out b5)
          have HHS2 := Lib.hid (HHS.out w2 HB2.out)
          obtain ⟨_, _, hf5, hcc⟩ := (show Ints w2 (.slice A5 [(y : Int)].length c5) [(y : Int)] from Reads.of_own o5).form
          cases hf5
          obtain ⟨g9, o9, rfl, c9⟩ := hcc 0 _ rfl
          rw [Nat.add_zero] at c9
          have HPT := Lib.hid (l1Put_own _ M (y : Int) w2 w.heap.size HR2.out HB2.out.size (by omega) HASC.out)
          clear p0 p1 b5 o5 hcc HOP HHS
          go_wp2_with fail
          refine HPT.out.mono ?_
          rintro e w3 ⟨L, A7, c7, rfl, hpi, o7, b7⟩
          have HLB := Lib.hid (HPB.out L hpi)
          have HB3 := Lib.hid (btrans HB2.out b7)
          have HG3 := Lib.hid (HG2.out.below b7 HG2.out.lt)
          have HO7 := Lib.hid o7
          clear hpi o7 b7
          go_wp2_with fail
          go_roundg g2
          case measure => omega
          case rel => exact ⟨x + 1, _, rfl, by omega, by go_num, by rw [HN.out, ← HLB.out]; exact HO7.out, HG3.out, HB3.out⟩
        · have HN : Hid (onK n l true c (x + 1) = onK n l true c x) := by
            show onK n l true c x ||| frcN n l true c x = _
            rw [frc_no (by unfold frcT; rw [beq_eq_false_iff_ne.2 hq]; rfl), Nat.or_zero]
          have hq' : (((nw (lefB l c x) n).length : Int) == 1) = false := by rw [beq_eq_false_iff_ne, ← hol]; intro h; exact hq (by unfold lefN; omega)
          clear hq hol
          generalize nw (lefB l c x) n = M2 at *
          go_wp2_with fail
          refine HOP.out.mono ?_
          rintro e w2 ⟨A5, c5, rfl, o5, b5⟩
          have HB2 := Lib.hid (btrans HB.out b5)
          have HG2 := Lib.hid (HG.out.below b5 HG.out.lt)
          have HR2 := Lib.hid (own_below HR.out b5)
          clear p0 p1 b5 o5 HOP HHS
          go_wp2_with fail
          go_roundg g2
          case measure => omega
          case rel => exact ⟨x + 1, _, rfl, by omega, by go_num, by rw [HN.out]; exact HR2.out, HG2.out, HB2.out⟩
      | false =>
        subst hsk
        by_cases hq : onesN (lefN n l c x) = 1
        · obtain ⟨y, hy, hl2, hl1⟩ := lef_one hn hq
          rw [hl1] at HOP
          have HPB := Lib.hid (fun L (h : PutI (nw (bitB (onK n l false c x)) n) (y : Int) L) => put_two h hy)
          clear hol hl1
          cases hb : c.testBit x with
          | true =>
            rw [hb] at HHS
            have HN : Hid (onK n l false c (x + 1) = onK n l false c x ||| 2 ^ y) := by
              show onK n l false c x ||| frcN n l false c x = _
              rw [frc_yes (by unfold frcT; rw [hq]; rw [hb]; rfl), hl2]
            clear hq hl2 hb
            generalize nw (bitB (onK n l false c x)) n = M at *
            go_wp2_with fail
            refine HOP.out.mono ?_
            rintro e w2 ⟨A5, c5, rfl, o5, b5⟩
            have HB2 := Lib.hid (btrans HB.out b5)
            have HG2 := Lib.hid (HG.out.below b5 HG.out.lt)
            have HR2 := Lib.hid (own_below HR.out b5)
            have HHS2 := Lib.hid (HHS.out w2 HB2.out)
            obtain ⟨_, _, hf5, hcc⟩ := (show Ints w2 (.slice A5 [(y : Int)].length c5) [(y : Int)] from Reads.of_own o5).form
            cases hf5
            obtain ⟨g9, o9, rfl, c9⟩ := hcc 0 _ rfl
            rw [Nat.add_zero] at c9
            have HPT := Lib.hid (l1Put_own _ M (y : Int) w2 w.heap.size HR2.out HB2.out.size (by omega) HASC.out)
            clear p0 p1 b5 o5 hcc HOP HHS
            go_wp2_with fail
            refine HHS2.out.mono ?_
            rintro e w' ⟨rfl, rfl⟩
            go_wp2_with fail
            refine HPT.out.mono ?_
            rintro e w3 ⟨L, A7, c7, rfl, hpi, o7, b7⟩
            have HLB := Lib.hid (HPB.out L hpi)
            have HB3 := Lib.hid (btrans HB2.out b7)
            have HG3 := Lib.hid (HG2.out.below b7 HG2.out.lt)
            have HO7 := Lib.hid o7
            clear hpi o7 b7
            go_wp2_with fail
            go_roundg g2
            case measure => omega
            case rel => exact ⟨x + 1, _, rfl, by omega, by go_num, by rw [HN.out, ← HLB.out]; exact HO7.out, HG3.out, HB3.out⟩
          | false =>
            rw [hb] at HHS
            have HN : Hid (onK n l false c (x + 1) = onK n l false c x) := by
              show onK n l false c x ||| frcN n l false c x = _
              rw [frc_no (by unfold frcT; rw [hb]; simp), Nat.or_zero]
            clear hq hb hl2
            go_wp2_with fail
            refine HOP.out.mono ?_
            rintro e w2 ⟨A5, c5, rfl, o5, b5⟩
            have HB2 := Lib.hid (btrans HB.out b5)
            have HG2 := Lib.hid (HG.out.below b5 HG.out.lt)
            have HR2 := Lib.hid (own_below HR.out b5)
            have HHS2 := Lib.hid (HHS.out w2 HB2.out)
            clear p0 p1 b5 o5 HOP HHS
            go_wp2_with fail
            refine HHS2.out.mono ?_
            rintro e w' ⟨rfl, rfl⟩
            go_wp2_with fail
            go_roundg g2
            case measure => omega
            case rel => exact ⟨x + 1, _, rfl, by omega, by go_num, by rw [HN.out]; exact HR2.out, HG2.out, HB2.out⟩
        · have HN : Hid (onK n l false c (x + 1) = onK n l false c x) := by
            show onK n l false c x ||| frcN n l false c x = _
            rw [frc_no (by unfold frcT; rw [beq_eq_false_iff_ne.2 hq]; rfl), Nat.or_zero]
          have hq' : (((nw (lefB l c x) n).length : Int) == 1) = false := by rw [beq_eq_false_iff_ne, ← hol]; intro h; exact hq (by unfold lefN; omega)
          clear hq hol
          generalize nw (lefB l c x) n = M2 at *
          go_wp2_with fail
          refine HOP.out.mono ?_
          rintro e w2 ⟨A5, c5, rfl, o5, b5⟩
          have HB2 := Lib.hid (btrans HB.out b5)
          have HG2 := Lib.hid (HG.out.below b5 HG.out.lt)
          have HR2 := Lib.hid (own_below HR.out b5)
          clear p0 p1 b5 o5 HOP HHS
          go_wp2_with fail
          go_roundg g2
          case measure => omega
          case rel => exact ⟨x + 1, _, rfl, by omega, by go_num, by rw [HN.out]; exact HR2.out, HG2.out, HB2.out⟩
theorem nw_ones {n c : Nat} (hn : n ≤ 8) (hc : c < 2 ^ n) : (nw (bitB c) n).length = onesN c := by rw [nd_bits hn hc]; rfl
set_option maxHeartbeats 4000000 in
set_option maxRecDepth 100000 in
theorem l9All_any (n c : Nat) (sk : Bool) (v u : Value) (l : List Ed) (w : World) (h : Edges w v l) (hl : l.length ≤ 1048576) (hu : Ints w u (nw (bitB c) n)) (hn : n ≤ 8) (hc : c < 2 ^ n) :
    Calls Try.prog 99 #[.agg #[.int .i64 (n : Int), v], u, .bool sk] w (RowI w (nw (bitB (lastN n l sk c)) n)) := by
  obtain ⟨A, cc, rfl, -⟩ := h.form
  have H := Lib.hid h
  have b0 : Below w.heap.size w (w.alloc (.cells #[.int .i64 (n : Int), .slice A l.length cc] 28)) := (Below.refl _ _).alloc (Nat.le_refl _) _
  have HB0 := Lib.hid b0
  have HG0 := Lib.hid (Blk.new w 28 #[.int .i64 (n : Int), .slice A l.length cc])
  have HOW := Lib.hid (times.l1Own_any u _ _ (hu.below b0) (by have := nw_len (bitB c) n; omega))
  have H0 : Hid (lastF n l sk 8 c = lastN n l sk c) := rfl
  have HC := Lib.hid hc
  clear h hu b0 hc
  go_enter Try.func99, Try.ntmps99
  go_wp2_with fail
  refine HOW.out.mono ?_
  rintro e w1 ⟨A1, c1, rfl, o1, b1⟩
  have HE1 := Lib.hid (btrans HB0.out b1)
  have HG1 := Lib.hid (HG0.out.below b1 HG0.out.lt)
  have HO1 := Lib.hid (own_base (B' := w.heap.size) o1 HB0.out.size)
  clear o1 b1
  go_wp2_with fail
  go_loopg [7] 8 (fun g ov wr => ∃ (d : Nat) (ow : Value), ow = ov ∧ Hid (d < 2 ^ n) ∧ 8 ≤ onesN d + g ∧ Hid (lastF n l sk g d = lastN n l sk c) ∧ wr.ownsRow w.heap.size 3 1 ow (nw (bitB d) n).length (cellsI (nw (bitB d) n)) ∧ Blk wr w.heap.size 28 #[.int .i64 (n : Int), .slice A l.length cc] ∧ Below w.heap.size w wr)
  case atStart => exact ⟨c, _, rfl, HC, by omega, H0, HO1.out, HG1.out, HE1.out⟩
  case round =>
    clear HO1 HG1 HE1 HOW HB0 HG0 H0
    obtain ⟨d, ow, rfl, hdn, hms, hlf, hrow, hgb, hB⟩ := hrel
    obtain ⟨A4, c4, rfl⟩ := own_form hrow
    obtain ⟨p0, p1, -, -⟩ := hgb.two
    have HR := Lib.hid hrow
    have HG := Lib.hid hgb
    have HB := Lib.hid hB
    have HON := Lib.hid (l9Once_any n d sk (.slice A l.length cc) (.slice A4 (nw (bitB d) n).length c4) l wr (H.out.below hB) hl (show Ints _ _ _ from Reads.of_own hrow) hn)
    have hl1 := nw_ones hn hdn.out
    have hl2 := nw_ones (c := onN n l sk d) hn (on_lt hdn.out)
    clear hrow hgb hB
    by_cases he : onN n l sk d = d
    · have HV : Hid (lastN n l sk c = d) := hlf.out.symm.trans (rnd_stop he).2
      rw [he] at HON
      clear he hl1 hl2 hms
      go_wp2_with fail
      refine HON.out.mono ?_
      rintro e w2 ⟨A5, c5, rfl, o5, b5⟩
      have HB2 := Lib.hid (btrans HB.out b5)
      have HR2 := Lib.hid (own_below HR.out b5)
      clear p0 p1 b5 o5 HON
      go_wp2_with fail
      go_ret
      rw [HV.out]
      exact ⟨A4, c4, rfl, HR2.out, HB2.out⟩
    · obtain ⟨g2, rfl, hms2⟩ := rnd_fuel hn hdn.out hms he
      have HL : Hid (lastF n l sk g2 (onN n l sk d) = lastN n l sk c) := (rnd_go he).2.symm.trans hlf.out
      have HD : Hid (onN n l sk d < 2 ^ n) := on_lt hdn.out
      have HMS := Lib.hid hms2
      have hm := on_more hn hdn.out he
      have hne : (((nw (bitB (onN n l sk d)) n).length : Int) == ((nw (bitB d) n).length : Int)) = false := by rw [beq_eq_false_iff_ne]; omega
      have hne2 : ((nw (bitB (onN n l sk d)) n).length == (nw (bitB d) n).length) = false := by rw [beq_eq_false_iff_ne]; omega
      clear he hl1 hl2 hms hms2 hm
      generalize hN : onN n l sk d = d2 at *
      clear hN
      go_wp2_with fail
      refine HON.out.mono ?_
      rintro e w2 ⟨A5, c5, rfl, o5, b5⟩
      have HB2 := Lib.hid (btrans HB.out b5)
      have HG2 := Lib.hid (HG.out.below b5 HG.out.lt)
      have HR2 := Lib.hid (own_base (B' := w.heap.size) o5 HB.out.size)
      clear p0 p1 b5 o5 HON
      go_wp2_with fail
      go_roundg g2
      case measure => omega
      case rel => exact ⟨d2, _, rfl, HD, HMS.out, HL, HR2.out, HG2.out, HB2.out⟩
end Go.Proofs.Ytjcnngnahijceaa.forc

/- Forcing: the contracts of the model's l9Rounds and ForceRounds. -/
namespace Go.Proofs.Ytjcnngnahijceaa.forc
open Go.RowKit P2 words edges ints good adjs fns sets rets covs bags balls bitsI ups func costs
set_option linter.unusedVariables false

theorem mem_codeR {n c : Nat} {x : Nat} (hx : x < n) : decide ((x : Int) ∈ nw (bitB c) n) = c.testBit x := by
  rw [Bool.eq_iff_iff, decide_eq_true_iff, mem_nw]
  constructor
  · rintro ⟨j, hj, hp, e⟩
    have : x = j := by omega
    subst this; exact hp
  · intro h; exact ⟨x, hx, h, rfl⟩
/-- within a round: the first i of the nodes that are coloured behind it have their numbers -/
def fixT (n : Nat) (l : List Ed) (c r : Nat) (M : List Int) (i : Nat) : List Int := (List.range n).map fun x : Nat => if (x : Int) ∈ M.take i then fstR n l c x (r + 1) else fstR n l c x r
theorem fixT_len (n : Nat) (l : List Ed) (c r : Nat) (M : List Int) (i : Nat) : (fixT n l c r M i).length = n := by simp [fixT]
theorem fixT_zero (n : Nat) (l : List Ed) (c r : Nat) (M : List Int) : fixT n l c r M 0 = fstL n l c r := by simp [fixT, fstL]
theorem fixT_at {n : Nat} {l : List Ed} {c r : Nat} {M : List Int} {i y : Nat} (hy : y < n) (hm : (y : Int) ∉ M.take i) : (fixT n l c r M i)[y]? = some (fstR n l c y r) := by
  unfold fixT
  rw [List.getElem?_map, List.getElem?_range hy]
  simp [hm]
theorem asc_fresh {M : List Int} (h : Asc M) {i : Nat} {y : Int} (hy : M[i]? = some y) : y ∉ M.take i := fun hm => by
  obtain ⟨j, hj⟩ := List.getElem?_of_mem hm
  rw [List.getElem?_take] at hj
  split at hj
  · rename_i hji
    obtain ⟨h1, h2⟩ := List.getElem?_eq_some_iff.1 hj
    obtain ⟨h3, h4⟩ := List.getElem?_eq_some_iff.1 hy
    have := List.pairwise_iff_getElem.1 h j i h1 h3 hji
    omega
  · cases hj
theorem fixT_set {n : Nat} {l : List Ed} {c r : Nat} {M : List Int} {i y : Nat} (hy : y < n) (hM : M[i]? = some (y : Int)) : (fixT n l c r M i).set y (fstR n l c y (r + 1)) = fixT n l c r M (i + 1) := by
  apply List.ext_getElem?
  intro j
  rw [List.getElem?_set]
  by_cases hj : j < n
  · by_cases e : y = j
    · subst e
      unfold fixT
      rw [if_pos rfl, List.getElem?_map, List.getElem?_range hy, List.take_add_one, hM]
      simp [hy]
    · rw [if_neg e]
      unfold fixT
      rw [List.getElem?_map, List.getElem?_map, List.getElem?_range hj, List.take_add_one, hM]
      have h9 : ¬ (j : Int) = (y : Int) := by omega
      simp [h9]
  · rw [if_neg (by omega)]
    unfold fixT
    rw [List.getElem?_map, List.getElem?_map, List.getElem?_eq_none (by simp; omega)]
    rfl
theorem fixT_keep {n : Nat} {l : List Ed} {c r : Nat} {M : List Int} {i y : Nat} (hM : M[i]? = some (y : Int)) (hk : fstR n l c y (r + 1) = fstR n l c y r) : fixT n l c r M i = fixT n l c r M (i + 1) := by
  unfold fixT
  refine List.map_congr_left fun x _ => ?_
  rw [List.take_add_one, hM]
  simp only [Option.toList, List.mem_append, List.mem_singleton]
  by_cases e : (x : Int) = (y : Int)
  · have : x = y := by omega
    subst this
    rw [hk]; simp
  · simp [e]
theorem fixT_all {n : Nat} {l : List Ed} {c r : Nat} : fixT n l c r (nw (bitB (orb n l false c (r + 1))) n) (nw (bitB (orb n l false c (r + 1))) n).length = fstL n l c (r + 1) := by
  unfold fixT fstL
  refine List.map_congr_left fun x hx => ?_
  have hxn := List.mem_range.1 hx
  rw [List.take_length]
  by_cases hm : (x : Int) ∈ nw (bitB (orb n l false c (r + 1))) n
  · rw [if_pos hm]
  · rw [if_neg hm]
    have h := mem_codeR (c := orb n l false c (r + 1)) hxn
    rw [decide_eq_false hm] at h
    exact (fst_same h.symm).symm
set_option maxHeartbeats 8000000 in
set_option maxRecDepth 100000 in
theorem l9Rounds_any (n c : Nat) (v u : Value) (l : List Ed) (w : World) (h : Edges w v l) (hl : l.length ≤ 1048576) (hu : Ints w u (nw (bitB c) n)) (hn : n ≤ 8) (hc : c < 2 ^ n) :
    Calls Try.prog 52 #[.agg #[.int .i64 (n : Int), v], u] w (RowI w (fstL n l c n)) := by
  obtain ⟨i0, hi, hz0, hz1, hz2⟩ := info_parts infoInt
  obtain ⟨A, cc, rfl, -⟩ := h.form
  have H := Lib.hid h
  have HU := Lib.hid hu
  have hmk := fun (W : World) => run_make_rowN (P := Try.prog) 32 3 i0 (.int .i64 0) Try.underlying32 hi hz0 .i64 .i64 n n (Nat.le_refl _) (by rw [hz2]; omega) (by omega) W
  rw [hz1] at hmk
  simp only [Nat.mul_one] at hmk
  have b0 : Below w.heap.size w (w.alloc (.cells #[.int .i64 (n : Int), .slice A l.length cc] 28)) := (Below.refl _ _).alloc (Nat.le_refl _) _
  have g0 := Blk.new w 28 #[.int .i64 (n : Int), .slice A l.length cc]
  obtain ⟨p0, p1, -, -⟩ := g0.two
  have hown := World.ownsRow_lit (base := w.heap.size + 1) (e := 3) (size := 1) (w.alloc (.cells #[.int .i64 (n : Int), .slice A l.length cc] 28)) (madeCells #[Value.int .i64 0] (n * 1)) n (by simp) (by unfold maxLen; omega) (size_madeCells _ _)
  rw [World.size_alloc] at hown
  rw [toList_madeCells_one, Nat.mul_one, show List.replicate n (Value.int .i64 0) = cellsI (upT (fun x => fstR n l c x 0) n 0) from by rw [upT_zero]; simp [cellsI]] at hown
  have HOWN := Lib.hid hown
  have HG0 := Lib.hid (g0.alloc (.cells (madeCells #[.int .i64 0] n) 3))
  have HB0 := Lib.hid (b0.alloc (by simp) (.cells (madeCells #[.int .i64 0] n) 3))
  have hL := nw_len (bitB c) n
  clear h hu b0 g0 hown
  go_enter Try.func52, Try.ntmps52
  go_wp2_with fail
  clear hmk p0 p1
  go_loopg [7] n (fun g xv wr => ∃ k : Nat, k + g = n ∧ xv = .int .i64 (k : Int) ∧ wr.ownsRow (w.heap.size + 1) 3 1 (.slice (some ⟨w.heap.size + 1, 0, none⟩) n n) n (cellsI (upT (fun x => fstR n l c x 0) n k)) ∧ Blk wr w.heap.size 28 #[.int .i64 (n : Int), .slice A l.length cc] ∧ Below w.heap.size w wr)
  case atStart => exact ⟨0, by omega, rfl, HOWN.out, HG0.out, HB0.out⟩
  case round =>
    clear HOWN HG0 HB0
    obtain ⟨k, hkg, rfl, hrow, hgb, hB⟩ := hrel
    obtain ⟨p0, p1, -, -⟩ := hgb.two
    have HG := Lib.hid hgb
    have HB := Lib.hid hB
    cases gk with
    | succ g2 =>
      have hlt : k < n := by omega
      have hlt' : (k : Int) < (n : Int) := by omega
      have HH := Lib.hid (l1Has_any u (nw (bitB c) n) (k : Int) wr (HU.out.below hB) (by omega))
      rw [mem_codeR hlt] at HH
      have HSG := Lib.hid (times.l3Sign_any (c.testBit k) wr)
      rw [show (if c.testBit k = true then (0 : Int) else -1) = fstR n l c k 0 from rfl] at HSG
      have hll := upT_len (fun x => fstR n l c x 0) (n := n) (k := k) (by omega)
      obtain ⟨u0, hu0⟩ : ∃ u, (upT (fun x => fstR n l c x 0) n k)[k]? = some u := ⟨_, List.getElem?_eq_getElem (by omega)⟩
      have f0 := hrow.cellAt k (by omega)
      rw [cellsI_at hu0] at f0
      have z0 := hrow.frozenAt k
      have HST := Lib.hid (hrow.stored k (.int .i64 (fstR n l c k 0))).1
      have HSS : Hid ((upT (fun x => fstR n l c x 0) n k).set k (fstR n l c k 0) = upT (fun x => fstR n l c x 0) n (k + 1)) := upT_set (fun x => fstR n l c x 0) hlt
      clear hu0 hrow hgb hB hll
      generalize fstR n l c k 0 = fv at *
      generalize c.testBit k = bb at *
      go_wp2_with fail
      refine HH.out.mono ?_
      rintro e w' ⟨rfl, rfl⟩
      go_wp2_with fail
      refine HSG.out.mono ?_
      rintro e w' ⟨rfl, rfl⟩
      go_wp2_with fail
      go_roundg g2
      case measure => omega
      case rel =>
        have h_ := HST.out
        rw [cellsI_set9, HSS.out] at h_
        exact ⟨k + 1, by omega, by go_num, h_, HG.out.far (p := ⟨w.heap.size + 1, k, none⟩) (by simp) _, HB.out.setCell (by simp) _⟩
    | zero =>
      obtain rfl : k = n := by omega
      rw [upT_all] at hrow
      have HR0 : Hid (wr.ownsRow (w.heap.size + 1) 3 1 (.slice (some ⟨w.heap.size + 1, 0, none⟩) k k) k (cellsI (fstL k l c 0))) := hrow
      have HN0 : Hid (Ints wr u (nw (bitB (orb k l false c 0)) k)) := HU.out.below hB
      clear hrow hgb hB
      go_wp2_with fail
      obtain ⟨wo, hwo⟩ : ∃ wo, wo = wr := ⟨_, rfl⟩
      clear hwo
      clear p0 p1
      go_loopg [6, 8] k (fun g nv rv wr => ∃ (r : Nat) (ow : Value), ow = nv ∧ r + g = k ∧ rv = .int .i64 ((r : Int) + 1) ∧ Ints wr ow (nw (bitB (orb k l false c r)) k) ∧ wr.ownsRow (w.heap.size + 1) 3 1 (.slice (some ⟨w.heap.size + 1, 0, none⟩) k k) k (cellsI (fstL k l c r)) ∧ Blk wr w.heap.size 28 #[.int .i64 (k : Int), .slice A l.length cc] ∧ Below w.heap.size w wr)
      case atStart => exact ⟨0, _, rfl, by omega, rfl, HN0.out, HR0.out, HG.out, HB.out⟩
      case round =>
        clear HN0 HR0 HG HB
        obtain ⟨r, ow, rfl, hrg, rfl, hni, hrow, hgb, hB⟩ := hrel
        obtain ⟨p0, p1, -, -⟩ := hgb.two
        have HR := Lib.hid hrow
        have HG := Lib.hid hgb
        have HB := Lib.hid hB
        cases gk with
        | zero =>
          obtain rfl : r = k := by omega
          have hnle : ¬ ((r : Int) + 1 ≤ (r : Int)) := by omega
          have HLN := Lib.hid (fstL_len r l c r)
          clear hrow hgb hB hni
          go_wp2_with fail
          go_ret
          refine ⟨some ⟨w.heap.size + 1, 0, none⟩, r, by rw [HLN.out]; rfl, ?_, HB.out⟩
          rw [HLN.out]
          exact own_base HR.out (by omega)
        | succ g2 =>
          have hle : ((r : Int) + 1 ≤ (k : Int)) := by omega
          have HON := Lib.hid (l9Once_any k (orb k l false c r) false (.slice A l.length cc) ow l wr (H.out.below hB) hl hni hn)
          have HO1 : Hid (onN k l false (orb k l false c r) = orb k l false c (r + 1)) := rfl
          rw [HO1.out] at HON
          have HFA := Lib.hid (fixT_all (n := k) (l := l) (c := c) (r := r))
          have HAS := Lib.hid (nw_asc (bitB (orb k l false c (r + 1))) k)
          have HBM : Hid (∀ y ∈ nw (bitB (orb k l false c (r + 1))) k, ∃ yn : Nat, yn < k ∧ y = (yn : Int) ∧ (orb k l false c (r + 1)).testBit yn = true) := fun y hy => by
            obtain ⟨j, hj, hb, rfl⟩ := mem_nw.1 hy
            exact ⟨j, hj, rfl, hb⟩
          have HF0 : Hid (wr.ownsRow (w.heap.size + 1) 3 1 (.slice (some ⟨w.heap.size + 1, 0, none⟩) k k) k (cellsI (fixT k l c r (nw (bitB (orb k l false c (r + 1))) k) 0))) := by
            show World.ownsRow _ _ _ _ _ _ _
            rw [fixT_zero]; exact HR.out
          have hml := nw_len (bitB (orb k l false c (r + 1))) k
          have hszr : w.heap.size + 1 < wr.heap.size := by
            have := (HR.out.lt (w.heap.size + 1) rfl).2
            omega
          clear hni hrow hgb hB HO1
          generalize hMM : nw (bitB (orb k l false c (r + 1))) k = M at *
          have HMM := Lib.hid hMM
          clear hMM
          go_wp2_with fail
          refine HON.out.mono ?_
          rintro e w3 ⟨A5, c5, rfl, o5, b5⟩
          have HG3 := Lib.hid (HG.out.below b5 HG.out.lt)
          have HB3 := Lib.hid (btrans HB.out b5)
          have HF3 := Lib.hid (own_below HF0.out b5)
          have HM3 := Lib.hid (own_base (B' := w.heap.size + 2) o5 (by omega))
          clear b5 o5 p0 p1 HG HB HF0 HR HON
          go_wp2_with fail
          obtain ⟨wo2, hwo2⟩ : ∃ wo, wo = wr := ⟨_, rfl⟩
          clear hwo2
          go_loopg [10] M.length (fun g iv wr => ∃ i : Nat, i + g = M.length ∧ iv = .int .i64 (i : Int) ∧ wr.ownsRow (w.heap.size + 2) 3 1 (.slice A5 M.length c5) M.length (cellsI M) ∧ wr.ownsRow (w.heap.size + 1) 3 1 (.slice (some ⟨w.heap.size + 1, 0, none⟩) k k) k (cellsI (fixT k l c r M i)) ∧ Blk wr w.heap.size 28 #[.int .i64 (k : Int), .slice A l.length cc] ∧ Below w.heap.size w wr)
          case atStart => exact ⟨0, by omega, rfl, HM3.out, HF3.out, HG3.out, HB3.out⟩
          case round =>
            clear HM3 HF3 HG3 HB3
            obtain ⟨i, hig, rfl, hmr, hfr, hgb, hB⟩ := hrel
            have HM := Lib.hid hmr
            have HF := Lib.hid hfr
            have HG := Lib.hid hgb
            have HB := Lib.hid hB
            cases gk with
            | zero =>
              obtain rfl : i = M.length := by omega
              have HNI : Hid (Ints wr (.slice A5 M.length c5) (nw (bitB (orb k l false c (r + 1))) k)) := by rw [HMM.out]; exact Reads.of_own hmr
              have HFE : Hid (wr.ownsRow (w.heap.size + 1) 3 1 (.slice (some ⟨w.heap.size + 1, 0, none⟩) k k) k (cellsI (fstL k l c (r + 1)))) := by
                show World.ownsRow _ _ _ _ _ _ _
                rw [← HFA.out]; exact hfr
              clear hmr hfr hgb hB
              go_wp2_with fail
              go_roundg g2
              case measure => omega
              case rel => exact ⟨r + 1, _, rfl, by omega, by go_num, HNI.out, HFE.out, HG.out, HB.out⟩
            | succ g3 =>
              have hlt2 : i < M.length := by omega
              have hlt2' : (i : Int) < (M.length : Int) := by omega
              obtain ⟨y, hy⟩ : ∃ y, M[i]? = some y := ⟨_, List.getElem?_eq_getElem hlt2⟩
              obtain ⟨yn, hyk, rfl, hbit⟩ := HBM.out y (List.mem_of_getElem? hy)
              have hyk' : (yn : Int) < (k : Int) := by omega
              have hy0 : (0 : Int) ≤ (yn : Int) := by omega
              obtain ⟨_, _, hf5, hcc⟩ := (show Ints wr (.slice A5 M.length c5) M from Reads.of_own hmr).form
              cases hf5
              obtain ⟨g9, o9, rfl, q9⟩ := hcc i _ hy
              have hfa := fixT_at (l := l) (c := c) (r := r) hyk (asc_fresh HAS.out hy)
              have f0 := hfr.cellAt yn (by omega)
              rw [cellsI_at hfa] at f0
              have z0 := hfr.frozenAt yn
              have hfx := fixT_len k l c r M i
              by_cases hneg : fstR k l c yn r < 0
              · have HNV := Lib.hid (fst_new hneg hbit)
                have HST := Lib.hid (hfr.stored yn (.int .i64 ((r : Int) + 1))).1
                have HSS : Hid ((fixT k l c r M i).set yn ((r : Int) + 1) = fixT k l c r M (i + 1)) := by
                  show _ = _
                  rw [← fixT_set (l := l) (c := c) (r := r) hyk hy, HNV.out, show ((r + 1 : Nat) : Int) = (r : Int) + 1 from by omega]
                have HMS := Lib.hid (hmr.kept (gset (World.grownBy.refl wr (some (w.heap.size + 1))) yn (.int .i64 ((r : Int) + 1))) (.inr fun e => by have := (hmr.lt _ e).1; omega))
                clear hy hcc hfa hmr hfr hgb hB hbit hfx
                generalize fstR k l c yn r = fv at *
                go_wp2_with fail
                go_roundg g3
                case measure => omega
                case rel =>
                  have h_ := HST.out
                  rw [cellsI_set9, HSS.out] at h_
                  exact ⟨i + 1, by omega, by go_num, HMS.out, h_, HG.out.far (p := ⟨w.heap.size + 1, yn, none⟩) (by simp) _, HB.out.setCell (by simp) _⟩
              · have HKP := Lib.hid (fixT_keep (l := l) (c := c) (r := r) hy (fst_keep hneg))
                clear hy hcc hfa hmr hfr hgb hB hbit hfx
                generalize fstR k l c yn r = fv at *
                go_wp2_with fail
                go_roundg g3
                case measure => omega
                case rel => exact ⟨i + 1, by omega, by go_num, HM.out, by rw [← HKP.out]; exact HF.out, HG.out, HB.out⟩
theorem frd_len (s : Int) (l : List Ed) (xs : List Int) : (inG (SetOk s l xs) (frdL s l xs)).length ≤ 1048576 := inG_len fun h => by
  unfold frdL
  rw [fstL_len]
  have := h.1.1
  have := h.1.2.1
  omega
end Go.Proofs.Ytjcnngnahijceaa.forc
