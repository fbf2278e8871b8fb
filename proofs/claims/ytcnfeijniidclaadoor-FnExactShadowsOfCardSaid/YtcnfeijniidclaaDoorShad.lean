/- The contracts of ShadowsOf, of the program and of the model. -/
import Derived.Handy
import Derived.Test.YtcnfeijniidclaaDoorShadM
import Derived.Test.YtcnfeijniidclaaDoorCorS
import Derived.Test.YtcnfeijniidclaaDoorNeigh
namespace Go.Proofs.YtcnfeijniidclaaDoor.shad
open Go.RowKit P2 words edges ints good adjs fns sets rets covs cors dism least strip core
set_option linter.unusedVariables false

theorem step_at (l : List Ed) {n j : Nat} (h : j < kL l n) : (stripL l n)[j]? = some (sX l n j, sY l n j) := sL_at h
set_option maxHeartbeats 4000000 in
set_option maxRecDepth 100000 in
theorem implShadows_any (s x : Int) (v : Value) (l : List Ed) (w : World) (hE : Env w) (h : Edges w v l) (hl : l.length ≤ 1048576) :
    Calls Tryd.prog 8 #[.agg #[.int .i64 s, v], .int .i64 x] w (RetI w (NodeOk s l x) (shL l s.toNat x)) := by
  obtain ⟨i0, hi, hz0, hz1, hz2⟩ := info_parts infoInt
  obtain ⟨A, c, rfl, -⟩ := h.form
  have H := Lib.hid h
  have HE := Lib.hid hE
  have b0 : Below w.heap.size w ((w.alloc (.cells #[.int .i64 s, .slice A l.length c] 29)).alloc (.cells #[.int .i64 x] 3)) := ((Below.refl _ _).alloc (Nat.le_refl _) _).alloc (by simp) _
  have g0 := (Blk.new w 29 #[.int .i64 s, .slice A l.length c]).alloc (.cells #[.int .i64 x] 3)
  have i1 := Reads.of_own (own_new1 (w.alloc (.cells #[.int .i64 s, .slice A l.length c] 29)) 3 x)
  simp only [World.size_alloc] at i1
  have HN := Lib.hid (hasNodes_any s (.slice A l.length c) (.slice (some ⟨w.heap.size + 1, 0, none⟩) 1 1) l [x] _ (h.below b0) hl i1 (by simp))
  clear h hE i1
  by_cases hg : nodesB s l [x] = true
  · have hgd : P2.Good s l ∧ ∀ y ∈ [x], 0 ≤ y ∧ y < s := nodesB_iff.1 hg
    rw [hg] at HN
    have hs0 := hgd.1.1
    have hs8 := hgd.1.2.1
    obtain ⟨n, rfl⟩ : ∃ n : Nat, s = (n : Int) := ⟨s.toNat, by omega⟩
    have hn : n ≤ 8 := by omega
    have HOK : Hid (NodeOk (n : Int) l x) := ⟨hgd.1, hgd.2 x (by simp)⟩
    rw [Int.toNat_natCast]
    have hk8 := kL_le (l := l) (n := n)
    clear hg hgd
    go_enter Tryd.func8, Tryd.ntmps8
    go_wp2_with fail
    refine HN.out.mono ?_
    rintro e w1 ⟨rfl, b1⟩
    have e1 := btrans b0 b1
    have g1 := g0.below b1 g0.lt
    clear HN b0 b1 g0
    have hz1' := e1.size
    have o1 := own_new1 w1 3 x
    have e2 : Below w.heap.size w (w1.alloc (.cells #[.int .i64 x] 3)) := e1.alloc hz1' _
    have g2 := g1.alloc (.cells #[.int .i64 x] 3)
    obtain ⟨p0, p1, -, -⟩ := g2.two
    have HS := Lib.hid (implStrip_any n _ l (w1.alloc (.cells #[.int .i64 x] 3)) (HE.out.next e2) (H.out.below e2) hl HOK.out.1 hn)
    have HO := Lib.hid o1
    have HE1 := Lib.hid e1
    clear e1 g1 o1
    go_wp2_with fail
    refine HS.out.mono ?_
    rintro e w3 ⟨A3, c3, rfl, o3, b3⟩
    have HST := Lib.hid (own_base (B' := w1.heap.size) o3 (by simp))
    have HO3 := Lib.hid (own_below HO.out b3)
    have hsl : (stripL l n).length = kL l n := by unfold stripL; exact sL_len _ _ _
    have HSL := Lib.hid hsl
    have HB13 : Hid (Below w1.heap.size w1 w3) := ((Below.refl _ _).alloc (Nat.le_refl _) _).trans (b3.mono (by simp))
    clear p0 p1 g2 e2 b3 HS o3 hsl HO
    go_wp2_with fail
    go_loopg [1, 6, 25] (kL l n) (fun g xv ov iv wr => ∃ (k : Nat) (ow : Value), ow = ov ∧ k + g = kL l n ∧ iv = .int .i64 (k : Int) ∧ xv = .int .i64 (shX l n x k) ∧ wr.ownsRow w1.heap.size 3 1 ow (shT l n x k).length (cellsI (shT l n x k)) ∧ wr.ownsRow w1.heap.size 43 2 (.slice A3 (stripL l n).length c3) (stripL l n).length (cellsE (stripL l n)) ∧ Below w1.heap.size w1 wr)
    case atStart => exact ⟨0, _, rfl, by omega, rfl, rfl, HO3.out, HST.out, HB13.out⟩
    case round =>
      obtain ⟨k, ow, rfl, hkg, rfl, rfl, hrow, hst, hB⟩ := hrel
      have hsz := hB.size
      cases gk with
      | zero =>
        obtain rfl : k = kL l n := by omega
        have dk : decide (((kL l n : Nat) : Int) < ((stripL l n).length : Int)) = false := decide_eq_false (by have := HSL.out; omega)
        have dk' : decide (kL l n < (stripL l n).length) = false := decide_eq_false (by have := HSL.out; omega)
        have hk1 : ¬ ((kL l n : Nat) : Int) < ((stripL l n).length : Int) := by have := HSL.out; omega
        have hk2 : (stripL l n).length ≤ kL l n := by have := HSL.out; omega
        obtain ⟨A4, c4, rfl⟩ := own_form hrow
        go_wp2_with fail
        go_ret2
        exact RetI.yes HOK.out (own_base hrow (by have := HE1.out.size; omega)) (btrans HE1.out hB)
      | succ g2 =>
        have hlt : k < kL l n := by omega
        have dk : decide (((k : Nat) : Int) < ((stripL l n).length : Int)) = true := decide_eq_true (by have := HSL.out; omega)
        have hlt' : (k : Int) < ((stripL l n).length : Int) := by have := HSL.out; omega
        have hx := step_at l hlt
        obtain ⟨_, _, hf, hcc⟩ := (show Edges wr (.slice A3 (stripL l n).length c3) (stripL l n) from Reads.of_own hst).form
        cases hf
        obtain ⟨g, o, rfl, q0, q1⟩ := hcc k _ hx
        have HAP := Lib.hid (strip.own_apart hrow hst (by decide))
        have hxl : (shT l n x k).length ≤ 9 := by rw [shT_len]; omega
        simp only at q0 q1
        have HXY := Lib.hid (shX_yes (l := l) (n := n) (x := x) (k := k))
        have HXN := Lib.hid (shX_no (l := l) (n := n) (x := x) (k := k))
        have HXS := Lib.hid (shT_succ l n x k).symm
        clear hx hcc
        generalize hz_ : shX l n x k = z at *
        generalize sX l n k = a at *
        generalize sY l n k = b at *
        generalize hy_ : shX l n x (k + 1) = z1 at *
        have HZ := Lib.hid hy_
        clear hz_ hy_
        have HR1 := Lib.hid (hrow.alloc (.cells #[.int .i64 a, .int .i64 b] 43))
        have HG1 := Lib.hid (Blk.new wr 43 #[.int .i64 a, .int .i64 b])
        have HST1 := Lib.hid (hst.alloc (.cells #[.int .i64 a, .int .i64 b] 43))
        have HB1 := Lib.hid (hB.alloc hsz (.cells #[.int .i64 a, .int .i64 b] 43))
        have HS2 : Hid ((wr.alloc (.cells #[.int .i64 a, .int .i64 b] 43)).heap.size = wr.heap.size + 1) := World.size_alloc _ _
        have hz1' : w1.heap.size ≤ (wr.alloc (.cells #[.int .i64 a, .int .i64 b] 43)).heap.size := by simp; omega
        clear hrow hB hst
        by_cases he : z = a
        · have d0 : (z == a) = true := by simpa using he
          have HX1 : Hid (z1 = b) := HXY.out he
          have HX2 := HX1.out
          subst HX2
          clear he HXY HXN
          go_wp2_with (at_builtin; refine wpList_append_own _ rfl _ _ 26 rfl (w1.heap.size) 3 i0 (.int .i64 0) 1 8 Tryd.underlying26 hi hz0 hz1 hz2 rfl (by decide) _ _ _ rfl (HR1.out.alloc _) ⟨wr.heap.size + 1, 0, none⟩ 1 1 [.int .i64 z1] rfl rfl (by have h_ := cell_one_new (wr.alloc (.cells #[.int .i64 a, .int .i64 z1] 43)) (.int .i64 z1) 3; rw [HS2.out] at h_; exact h_) (fun x hx => by simp at hx; subst hx; rfl) (by unfold maxLen; omega) (by omega) (by simp; omega) ?_; intro v2 w2 hown2 hgrow2 _)
          obtain ⟨hown3, hB2⟩ := push1 HR1.out hown2 hgrow2 hz1'
          rw [HXS.out] at hown3
          have HST6 := Lib.hid ((HST1.out.alloc _).kept hgrow2 HAP.out)
          have HB6 := Lib.hid (HB1.out.trans hB2)
          have HO6 := Lib.hid hown3
          clear hgrow2 hown2 hown3 hB2
          go_roundg g2
          case measure => omega
          case rel => exact ⟨k + 1, _, rfl, by omega, by go_num, by rw [HZ.out], HO6.out, HST6.out, HB6.out⟩
        · have d0 : (z == a) = false := by simpa using he
          have HX1 : Hid (z1 = z) := HXN.out he
          have HX2 := HX1.out
          subst HX2
          clear he HXY HXN

          go_wp2_with (at_builtin; refine wpList_append_own _ rfl _ _ 26 rfl (w1.heap.size) 3 i0 (.int .i64 0) 1 8 Tryd.underlying26 hi hz0 hz1 hz2 rfl (by decide) _ _ _ rfl (HR1.out.alloc _) ⟨wr.heap.size + 1, 0, none⟩ 1 1 [.int .i64 z1] rfl rfl (by have h_ := cell_one_new (wr.alloc (.cells #[.int .i64 a, .int .i64 b] 43)) (.int .i64 z1) 3; rw [HS2.out] at h_; exact h_) (fun x hx => by simp at hx; subst hx; rfl) (by unfold maxLen; omega) (by omega) (by simp; omega) ?_; intro v2 w2 hown2 hgrow2 _)
          obtain ⟨hown3, hB2⟩ := push1 HR1.out hown2 hgrow2 hz1'
          rw [HXS.out] at hown3
          have HST6 := Lib.hid ((HST1.out.alloc _).kept hgrow2 HAP.out)
          have HB6 := Lib.hid (HB1.out.trans hB2)
          have HO6 := Lib.hid hown3
          clear hgrow2 hown2 hown3 hB2
          go_roundg g2
          case measure => omega
          case rel => exact ⟨k + 1, _, rfl, by omega, by go_num, by rw [HZ.out], HO6.out, HST6.out, HB6.out⟩
  · have hN : ¬ NodeOk s l x := fun hh => hg (nodesB_iff.2 ⟨hh.1, fun y hy => by simp at hy; subst hy; exact hh.2⟩)
    have hg' : nodesB s l [x] = false := by simpa using hg
    rw [hg'] at HN
    have HNO := Lib.hid hN
    clear hg hg' hN
    go_enter Tryd.func8, Tryd.ntmps8
    go_wp2_with fail
    refine HN.out.mono ?_
    rintro e w1 ⟨rfl, b1⟩
    go_wp2_with fail
    go_ret2
    exact RetI.nil HNO.out (btrans b0 b1)
end Go.Proofs.YtcnfeijniidclaaDoor.shad
