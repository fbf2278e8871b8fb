/- BurntBy: what a burning covers, and the contract of the program's function. -/
import Derived.Handy
import Derived.Test.YtnmidgnkjpcpgaaBalI
import Derived.Test.YtnmidgnkjpcpgaaBallS
import Derived.Deep.DeepCutAuto
import Derived.Deep.RegionHeld3
namespace Go.Proofs.Ytnmidgnkjpcpgaa.ups
open Go.RowKit P2 words edges ints good adjs fns sets rets covs bags bitsI func
set_option linter.unusedVariables false

def BurnOk (s : Int) (l : List Ed) (xs : List Int) : Prop := nodesB s l xs = true ∧ xs.length ≤ 8
/-- what the first i nodes of a burning cover -/
def bntK (l : List Ed) (n : Nat) (xs : List Int) : Nat → Nat
  | 0 => 0
  | i + 1 => bntK l n xs i ||| bN l n (xs.getD i 0).toNat (xs.length - 1 - i)
theorem or_lt8 {a b : Nat} (ha : a < 256) (hb : b < 256) : a ||| b < 256 := Nat.or_lt_two_pow (n := 8) ha hb
theorem bnt_lt {l : List Ed} {n : Nat} {xs : List Int} (hn : n ≤ 8) (hx : ∀ x ∈ xs, 0 ≤ x ∧ x < (n : Int)) : ∀ i, i ≤ xs.length → bntK l n xs i < 256
  | 0, _ => by unfold bntK; omega
  | i + 1, hi => by
    unfold bntK
    have hg : xs.getD i 0 ∈ xs := by
      rw [List.getD_eq_getElem?_getD, List.getElem?_eq_getElem (by omega)]
      exact List.getElem_mem _
    have h1 := hx _ hg
    exact or_lt8 (bnt_lt hn hx i (by omega)) (bN_lt l (by omega) hn _)
theorem bnt_succ {l : List Ed} {n : Nat} {xs : List Int} {i x : Nat} (h : xs[i]? = some (x : Int)) : bntK l n xs (i + 1) = bntK l n xs i ||| bN l n x (xs.length - 1 - i) := by
  show _ ||| bN l n (xs.getD i 0).toNat _ = _
  rw [List.getD_eq_getElem?_getD, h]
  rfl
noncomputable def bntL (s : Int) (l : List Ed) (xs : List Int) : List Int := ndN (bntK l s.toNat xs xs.length)
set_option maxHeartbeats 2000000 in
set_option maxRecDepth 100000 in
theorem implBnt_any (s : Int) (v u : Value) (l : List Ed) (xs : List Int) (w : World) (h : Edges w v l) (hl : l.length ≤ 1048576) (hu : Ints w u xs) (hxl : xs.length ≤ 1048576) :
    Calls Try.prog 36 #[.agg #[.int .i64 s, v], u] w (RetI w (BurnOk s l xs) (bntL s l xs)) := by
  obtain ⟨A, c, rfl, -⟩ := h.form
  obtain ⟨A2, c2, rfl, hc2⟩ := hu.form
  have H := Lib.hid h
  have HU := Lib.hid hu
  have HC2 := Lib.hid hc2
  have b0 : Below w.heap.size w (w.alloc (.cells #[.int .i64 s, .slice A l.length c] 29)) := (Below.refl _ _).alloc (Nat.le_refl _) _
  have g0 := Blk.new w 29 #[.int .i64 s, .slice A l.length c]
  obtain ⟨p0, p1, -, -⟩ := g0.two
  have HNB := Lib.hid (hasNodes_any s (.slice A l.length c) (.slice A2 xs.length c2) l xs _ (h.below b0) hl (hu.below b0) hxl)
  have HB0 := Lib.hid b0
  have HG0 := Lib.hid g0
  clear h hu hc2 b0 g0
  by_cases hx8 : xs.length ≤ 8
  · have hx8' : ¬ (8 : Int) < (xs.length : Int) := by omega
    cases hnb : nodesB s l xs with
    | true =>
      have hng := nodesB_iff.1 hnb
      have HOK : Hid (BurnOk s l xs) := ⟨hnb, hx8⟩
      have HGD := Lib.hid hng.1
      have h0 := hng.1.1
      have h8 := hng.1.2.1
      obtain ⟨n, rfl⟩ : ∃ n : Nat, s = (n : Int) := ⟨s.toNat, by omega⟩
      have hn : n ≤ 8 := by omega
      have HMM := Lib.hid hng.2
      have HVL : Hid (bntL (n : Int) l xs = ndN (bntK l n xs xs.length)) := by show _ = _; unfold bntL; rw [Int.toNat_natCast]
      rw [hnb] at HNB
      clear hnb hng
      go_enter Try.func36, Try.ntmps36
      go_wp2_with fail
      refine HNB.out.mono ?_
      rintro e w1 ⟨rfl, b1⟩
      have HE1 := Lib.hid (btrans HB0.out b1)
      have HG1 := Lib.hid (HG0.out.below b1 HG0.out.lt)
      clear p0 p1 b1 HNB HB0 HG0
      obtain ⟨p0, p1, -, -⟩ := HG1.out.two
      have HCB := Lib.hid (closedBits_any n (.slice A l.length c) l w1 (H.out.below HE1.out) hl HGD.out hn)
      go_wp2_with fail
      refine HCB.out.mono ?_
      rintro e w2 ⟨A3, c3, rfl, i3, b3⟩
      have HE2 := Lib.hid (btrans HE1.out b3)
      have HBL := Lib.hid (fun (R : Nat) (hR : R ≤ 100) (W : World) (hW : Below w2.heap.size w2 W) => ballsIn_any n R _ l W (i3.below hW) HGD.out hn hR)
      clear p0 p1 b3 i3 HCB
      go_wp2_with fail
      go_loopg [7, 23] xs.length (fun g cv iv wr => ∃ i : Nat, i + g = xs.length ∧ cv = .int .u64 (bntK l n xs i : Int) ∧ iv = .int .i64 (i : Int) ∧ Below w2.heap.size w2 wr)
      case atStart => exact ⟨0, by omega, rfl, rfl, Below.refl _ _⟩
      case round =>
        obtain ⟨i, hig, rfl, rfl, hB⟩ := hrel
        have HB := Lib.hid hB
        have hbk := bnt_lt (l := l) hn HMM.out i (by omega)
        cases gk with
        | zero =>
          obtain rfl : i = xs.length := by omega
          have HND := Lib.hid (nodes_any (bntK l n xs xs.length) wr (by omega))
          clear hB hbk
          go_wp2_with fail
          refine HND.out.mono ?_
          rintro e w5 ⟨A8, c8, rfl, o8, b8⟩
          go_wp2_with fail
          go_ret2
          rw [HVL.out]
          exact RetI.yes HOK.out (own_base o8 (Nat.le_trans HE2.out.size HB.out.size)) (btrans (btrans HE2.out HB.out) b8)
        | succ g2 =>
          have hlt : i < xs.length := by omega
          have hlt' : (i : Int) < (xs.length : Int) := by omega
          obtain ⟨x', hx'⟩ : ∃ x, xs[i]? = some x := ⟨_, List.getElem?_eq_getElem hlt⟩
          have hxm := HMM.out x' (List.mem_of_getElem? hx')
          obtain ⟨x, rfl⟩ : ∃ x : Nat, x' = (x : Int) := ⟨x'.toNat, by omega⟩
          have hxn : x < n := by omega
          have hxn' : (x : Int) < ((balN l n (xs.length - 1 - i)).length : Int) := by rw [bal_len]; omega
          obtain ⟨g5, o5, rfl, c5⟩ := HC2.out i _ hx'
          have q5 := nearv.cell_keep (nearv.cell_keep c5 HE2.out) hB
          have hR : (xs.length : Int) - 1 - (i : Int) = ((xs.length - 1 - i : Nat) : Int) := by omega
          have HSU := Lib.hid (bnt_succ (l := l) (n := n) hx')
          have hbl := bN_lt l hxn hn (xs.length - 1 - i)
          have hor := bits_or_u64_nat (bntK l n xs i) (bN l n x (xs.length - 1 - i)) (by omega) (by omega)
          have HBA := Lib.hid (bal_at (l := l) (r := xs.length - 1 - i) hxn)
          have HB8 := HBL.out (xs.length - 1 - i) (by omega) wr hB
          have HB9 := Lib.hid HB8
          have hw1 : IntKind.i64.wrap ((xs.length : Int) - 1) = (xs.length : Int) - 1 := Go.IntWalk.i64_in _ (by omega)
          have hw2 : IntKind.i64.wrap ((xs.length : Int) - 1 - (i : Int)) = ((xs.length - 1 - i : Nat) : Int) := by rw [hR]; exact Go.IntWalk.i64_in _ (by omega)
          clear hx' hxm c5 hB HB8 hbl hbk
          generalize xs.length - 1 - i = R at *
          generalize bntK l n xs i = y1 at *
          go_wp2_with fail
          refine HB9.out.mono ?_
          rintro e w4 ⟨A6, c6, rfl, i6, b6⟩
          obtain ⟨_, _, hf6, hcc⟩ := i6.form
          cases hf6
          obtain ⟨g7, o7, rfl, c7⟩ := hcc x _ HBA.out
          have HB4 := Lib.hid (HB.out.trans (b6.mono HB.out.size))
          clear i6 b6 hcc q5
          go_wp2_with fail
          clear c7
          go_roundg g2
          case measure => omega
          case rel => exact ⟨i + 1, by omega, by rw [HSU.out], by go_num, HB4.out⟩
    | false =>
      have HNO : Hid (¬ BurnOk s l xs) := fun h => by have := h.1; rw [hnb] at this; cases this
      rw [hnb] at HNB
      clear hnb
      go_enter Try.func36, Try.ntmps36
      go_wp2_with fail
      refine HNB.out.mono ?_
      rintro e w1 ⟨rfl, b1⟩
      have HE1 := Lib.hid (btrans HB0.out b1)
      clear p0 p1 b1 HNB HB0 HG0
      go_wp2_with fail
      go_ret2
      exact RetI.nil HNO.out HE1.out
  · have hx8' : (8 : Int) < (xs.length : Int) := by omega
    have HNO : Hid (¬ BurnOk s l xs) := fun h => hx8 h.2
    clear hx8
    go_enter Try.func36, Try.ntmps36
    go_wp2_with fail
    go_ret2
    exact RetI.nil HNO.out HB0.out
end Go.Proofs.Ytnmidgnkjpcpgaa.ups
