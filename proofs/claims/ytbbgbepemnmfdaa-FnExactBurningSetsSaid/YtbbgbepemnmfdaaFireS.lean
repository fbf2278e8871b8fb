/- The contracts of the model's l8Set, l8Apart, l8Next. -/
import Derived.Handy
import Derived.Test.YtbbgbepemnmfdaaFirP
import Derived.Test.YtbbgbepemnmfdaaBall
import Derived.Test.YtbbgbepemnmfdaaTimeT
import Derived.Test.YtbbgbepemnmfdaaGoodS
import Derived.Deep.DeepCutAuto
import Derived.Deep.RegionHeld3
import Derived.Deep.QuietTactic
namespace Go.Proofs.Ytbbgbepemnmfdaa.fires
open Go.RowKit P2 words edges ints good adjs fns sets rets covs balls bitsI bags ups gridr
set_option linter.unusedVariables false

theorem l8Set_any (s d : Int) (v u : Value) (l : List Ed) (xs : List Int) (w : World) (h : Edges w v l) (hu : Ints w u xs) (hxl : xs.length ≤ 1048576) (h0 : 0 ≤ s) (h8 : s ≤ 8) (hg : P2.Good s l) :
    Calls Try.prog 112 #[.agg #[.int .i64 s, v], u, .int .i64 d] w fun e w' => e = .returned (.bool (okG (SetOk s l xs ∧ (xs.length : Int) ≤ d))) ∧ Below w.heap.size w w' := by
  obtain ⟨A, c, rfl, -⟩ := h.form
  obtain ⟨A2, c2, rfl, -⟩ := hu.form
  have b0 : Below w.heap.size w (w.alloc (.cells #[.int .i64 s, .slice A l.length c] 29)) := (Below.refl _ _).alloc (Nat.le_refl _) _
  obtain ⟨p0, p1, -, -⟩ := (Blk.new w 29 #[.int .i64 s, .slice A l.length c]).two
  have HS := Lib.hid (l2Set_any s (.slice A l.length c) (.slice A2 xs.length c2) l xs _ (hu.below b0) hxl h0 h8)
  have HB0 := Lib.hid b0
  clear h hu b0
  by_cases hso : SetOk s l xs
  · rw [okG_yes ((setOk_iff hg).2 hso)] at HS
    by_cases hd : (xs.length : Int) ≤ d
    · have HV : Hid (okG (SetOk s l xs ∧ (xs.length : Int) ≤ d) = true) := okG_yes ⟨hso, hd⟩
      have hdd : decide ((xs.length : Int) ≤ d) = true := decide_eq_true hd
      clear hso
      go_enter Try.func112, Try.ntmps112
      go_wp2_with fail
      refine HS.out.mono ?_
      rintro e w1 ⟨rfl, b1⟩
      go_wp2_with fail
      go_ret
      exact ⟨ret_bool HV.out.symm, btrans HB0.out b1⟩
    · have HV : Hid (okG (SetOk s l xs ∧ (xs.length : Int) ≤ d) = false) := okG_no fun h => hd h.2
      have hdd : decide ((xs.length : Int) ≤ d) = false := decide_eq_false hd
      clear hso
      go_enter Try.func112, Try.ntmps112
      go_wp2_with fail
      refine HS.out.mono ?_
      rintro e w1 ⟨rfl, b1⟩
      go_wp2_with fail
      go_ret
      exact ⟨ret_bool (by rw [HV.out]), btrans HB0.out b1⟩
  · rw [okG_no (fun h => hso ((setOk_iff hg).1 h))] at HS
    have HV : Hid (okG (SetOk s l xs ∧ (xs.length : Int) ≤ d) = false) := okG_no fun h => hso h.1
    clear hso
    go_enter Try.func112, Try.ntmps112
    go_wp2_with fail
    refine HS.out.mono ?_
    rintro e w1 ⟨rfl, b1⟩
    go_wp2_with fail
    go_ret
    exact ⟨ret_bool HV.out.symm, btrans HB0.out b1⟩
/-- what a fire is in the model: two lists -/
def valL (A B : Value) : Value := .agg #[A, B]
theorem mem_bits {n b : Nat} {y : Nat} (hb : b < 2 ^ n) : decide (((y : Nat) : Int) ∈ nw (bitB b) n) = b.testBit y := by
  cases ht : b.testBit y with
  | true =>
    rw [decide_eq_true_iff]
    have hy : y < n := by
      by_cases e : y < n
      · exact e
      · rw [Nat.testBit_lt_two_pow (Nat.lt_of_lt_of_le hb (Nat.pow_le_pow_right (by decide) (by omega)))] at ht; cases ht
    exact mem_nw.2 ⟨y, hy, ht, rfl⟩
  | false =>
    rw [decide_eq_false_iff_not]
    intro hm
    obtain ⟨z, _, hz, e⟩ := mem_nw.1 hm
    have : y = z := by omega
    subst this
    unfold bitB at hz
    rw [ht] at hz; cases hz
def ApL (b d : Nat) (xs : List Int) (k : Nat) : Prop := ∀ j y, j < k → xs[j]? = some y → b.testBit y.toNat = false ∧ d.testBit y.toNat = false
set_option maxHeartbeats 2000000 in
set_option maxRecDepth 100000 in
theorem l8Apart_any (n : Nat) (f : Fr) (Bv Dv u : Value) (xs : List Int) (w : World) (hf : FrOk n f) (hn : n ≤ 8) (hb : Ints w Bv (nw (bitB f.1) n)) (hd : Ints w Dv (nw (bitB f.2) n)) (hu : Ints w u xs) (hxl : xs.length ≤ 1048576) (hx : ∀ y ∈ xs, 0 ≤ y ∧ y < (n : Int)) :
    Calls Try.prog 113 #[.agg #[Bv, Dv], u] w fun e w' => e = .returned (.bool (okG (ApL f.1 f.2 xs xs.length))) ∧ Below w.heap.size w w' := by
  obtain ⟨b, d⟩ := f
  have hb2 : b < 2 ^ n := hf.1
  have hd2 : d < 2 ^ n := hf.2
  change Ints w Bv (nw (bitB b) n) at hb
  change Ints w Dv (nw (bitB d) n) at hd
  show Calls _ _ _ _ fun e w' => e = .returned (.bool (okG (ApL b d xs xs.length))) ∧ _
  obtain ⟨A1, c1, rfl, -⟩ := hb.form
  obtain ⟨A3, c3, rfl, -⟩ := hd.form
  obtain ⟨A2, c2, rfl, hc2⟩ := hu.form
  have HB := Lib.hid hb
  have HD := Lib.hid hd
  have HC2 := Lib.hid hc2
  have HX := Lib.hid hx
  have hnl1 := nw_len (bitB b) n
  have hnl2 := nw_len (bitB d) n
  have HMB := Lib.hid (fun (y : Nat) => mem_bits (y := y) hb2)
  have HMD := Lib.hid (fun (y : Nat) => mem_bits (y := y) hd2)
  have HB0 : Hid (Below w.heap.size w (w.alloc (.cells #[.slice A1 (nw (bitB b) n).length c1, .slice A3 (nw (bitB d) n).length c3] 89))) := (Below.refl _ _).alloc (Nat.le_refl _) _
  have HG0 := Lib.hid (Blk.new w 89 #[.slice A1 (nw (bitB b) n).length c1, .slice A3 (nw (bitB d) n).length c3])
  have HA0 : Hid (ApL b d xs 0) := fun j y hj => by omega
  clear hb hd hu hc2 hf hx hb2 hd2
  generalize nw (bitB b) n = LB at *
  generalize nw (bitB d) n = LD at *
  go_enter Try.func113, Try.ntmps113
  go_wp2_with fail
  go_loopg [5] xs.length (fun g iv wr => ∃ k : Nat, k + g = xs.length ∧ iv = .int .i64 (k : Int) ∧ Hid (ApL b d xs k) ∧ Blk wr w.heap.size 89 #[.slice A1 LB.length c1, .slice A3 LD.length c3] ∧ Below w.heap.size w wr)
  case atStart => exact ⟨0, by omega, rfl, HA0, HG0.out, HB0.out⟩
  case round =>
    clear HA0 HG0 HB0
    obtain ⟨k, hkg, rfl, hap, hgb, hB⟩ := hrel
    have HG := Lib.hid hgb
    have HW := Lib.hid hB
    obtain ⟨p0, p1, -, -⟩ := hgb.two
    cases gk with
    | zero =>
      obtain rfl : k = xs.length := by omega
      have HV := Lib.hid (okG_yes hap.out)
      clear hgb hB
      go_wp2_with fail
      go_ret
      rw [HV.out]
      exact ⟨rfl, HW.out⟩
    | succ g2 =>
      have hlt : k < xs.length := by omega
      have hlt' : (k : Int) < (xs.length : Int) := by omega
      obtain ⟨y', hy⟩ : ∃ y, xs[k]? = some y := ⟨_, List.getElem?_eq_getElem hlt⟩
      have hyr := HX.out y' (List.mem_of_getElem? hy)
      obtain ⟨y, rfl⟩ : ∃ y : Nat, y' = (y : Int) := ⟨y'.toNat, by omega⟩
      obtain ⟨g5, o5, rfl, c5⟩ := HC2.out k _ hy
      have q5 := nearv.cell_keep c5 hB
      have HH1 := Lib.hid (fun (nq : Nat) => l1Has_any (.slice A1 LB.length c1) LB (y : Int) (wr.drewN nq) (HB.out.below (below_drewN hB nq)) (by omega))
      have HH2 := Lib.hid (fun (nq : Nat) => l1Has_any (.slice A3 LD.length c3) LD (y : Int) (wr.drewN nq) (HD.out.below (below_drewN hB nq)) (by omega))
      rw [HMB.out] at HH1
      rw [HMD.out] at HH2
      have HBD := Lib.hid (fun (m : Nat) => below_drewN hB m)
      have HGD := Lib.hid (fun (m : Nat) => HG.out.drewN m)
      have HNO : Hid (∀ h : ¬ (b.testBit y = false ∧ d.testBit y = false), okG (ApL b d xs xs.length) = false) := fun h => okG_no fun hh => h (by
        have := hh k _ hlt hy
        rwa [Int.toNat_natCast] at this)
      have HYX := Lib.hid hy
      clear hy c5 hgb hB hyr
      cases hb1 : b.testBit y with
      | true =>
        have HV := Lib.hid (HNO.out (by rw [hb1]; simp))
        rw [hb1] at HH1
        go_wp2_with fail
        go_quiet (first | (go_at_call 79; with_reducible exact quiet_left (HH1.out _)) | (go_at_call 79; with_reducible exact quiet_left (HH2.out _)))
        go_wp2_with fail
        go_ret
        rw [HV.out]
        exact ⟨rfl, HBD.out _⟩
      | false =>
        rw [hb1] at HH1
        cases hd1 : d.testBit y with
        | true =>
          have HV := Lib.hid (HNO.out (by rw [hd1]; simp))
          rw [hd1] at HH2
          go_wp2_with fail
          go_quiet (first | (go_at_call 79; with_reducible exact quiet_left (HH1.out _)) | (go_at_call 79; with_reducible exact quiet_left (HH2.out _)))
          go_wp2_with fail
          go_ret
          rw [HV.out]
          exact ⟨rfl, HBD.out _⟩
        | false =>
          have HN : Hid (ApL b d xs (k + 1)) := fun j z hj hz => by
            by_cases e : j = k
            · subst e; rw [HYX.out] at hz; cases hz; rw [Int.toNat_natCast]; exact ⟨hb1, hd1⟩
            · exact hap.out j z (by omega) hz
          rw [hd1] at HH2
          go_wp2_with fail
          go_quiet (first | (go_at_call 79; with_reducible exact quiet_left (HH1.out _)) | (go_at_call 79; with_reducible exact quiet_left (HH2.out _)))
          go_wp2_with fail
          go_roundg g2
          case measure => omega
          case rel => exact ⟨k + 1, by omega, by go_num, HN, HGD.out _, HBD.out _⟩
end Go.Proofs.Ytbbgbepemnmfdaa.fires
