/- The contract of the model's ShadowsOf. -/
import Derived.Handy
import Derived.Test.YtcnfeijniidclaaDoorShadM
import Derived.Test.YtcnfeijniidclaaDoorCorS
import Derived.Test.YtcnfeijniidclaaDoorNeigh
import Derived.Test.YtcnfeijniidclaaDoorStripS
namespace Go.Proofs.YtcnfeijniidclaaDoor.shad
open Go.RowKit P2 words edges ints good adjs fns sets rets covs cors dism least strip core
set_option linter.unusedVariables false

set_option maxHeartbeats 4000000 in
set_option maxRecDepth 100000 in
theorem specShadows_any (s x : Int) (v : Value) (l : List Ed) (w : World) (h : Edges w v l) (hl : l.length ≤ 1048576) (hs1 : -9223372036854775808 ≤ s) (hs2 : s ≤ 9223372036854775807) :
    Calls Tryd.prog 6 #[.agg #[.int .i64 s, v], .int .i64 x] w (RetI w (NodeOk s l x) (shL l s.toNat x)) := by
  obtain ⟨i0, hi, hz0, hz1, hz2⟩ := info_parts infoInt
  obtain ⟨A, c, rfl, -⟩ := h.form
  have H := Lib.hid h
  have b0 : Below w.heap.size w (w.alloc (.cells #[.int .i64 s, .slice A l.length c] 29)) := (Below.refl _ _).alloc (Nat.le_refl _) _
  have g0 := Blk.new w 29 #[.int .i64 s, .slice A l.length c]
  have HG := Lib.hid (l2Good_any s _ l _ (h.below b0) hl hs1 hs2)
  clear h
  by_cases hgd : P2.Good s l
  · rw [goodB_yes hgd] at HG
    have h0 := hgd.1
    have h8 := hgd.2.1
    obtain ⟨n, rfl⟩ : ∃ n : Nat, s = (n : Int) := ⟨s.toNat, by omega⟩
    have hn : n ≤ 8 := by omega
    rw [Int.toNat_natCast]
    by_cases hx : 0 ≤ x ∧ x < (n : Int)
    · have ix : inB x 0 ((n : Int) - 1) = true := by simp [inB]; omega
      have HOK : Hid (NodeOk (n : Int) l x) := ⟨hgd, hx⟩
      have hk8 := kL_le (l := l) (n := n)
      clear hgd
      go_enter Tryd.func6, Tryd.ntmps6
      go_wp2_with fail
      refine HG.out.mono ?_
      rintro e w1 ⟨rfl, b1⟩
      have e1 := btrans b0 b1
      have g1 := g0.below b1 g0.lt
      clear HG b0 b1 g0
      obtain ⟨p0, p1, -, -⟩ := g1.two
      go_wp2_with fail
      refine (l2Node_any (n : Int) x _ l w1 (H.out.below e1) h0 h8).mono ?_
      rw [ix]
      rintro e w2 ⟨rfl, b2⟩
      have e2 := btrans e1 b2
      have g2 := g1.below b2 g1.lt
      have hz1' := e2.size
      have o1 := own_new1 w2 3 x
      have e3 : Below w.heap.size w (w2.alloc (.cells #[.int .i64 x] 3)) := e2.alloc hz1' _
      have g3 := g2.alloc (.cells #[.int .i64 x] 3)
      clear p0 p1 g1 e1 b2
      obtain ⟨p0, p1, -, -⟩ := g3.two
      have HS := Lib.hid (l3Strip_any n _ l (w2.alloc (.cells #[.int .i64 x] 3)) (H.out.below e3) hl HOK.out.1 hn)
      have HO := Lib.hid o1
      have HE1 := Lib.hid e2
      clear g2 o1 e2
      go_wp2_with fail
      refine HS.out.mono ?_
      rintro e w3 ⟨A3, c3, A5, c5, rfl, o3, o5, b3⟩
      have HST := Lib.hid (own_base (B' := w2.heap.size) o3 (by simp))
      have HO3 := Lib.hid (own_below HO.out b3)
      have hsl : (stripL l n).length = kL l n := by unfold stripL; exact sL_len _ _ _
      have HSL := Lib.hid hsl
      have HB13 : Hid (Below w2.heap.size w2 w3) := ((Below.refl _ _).alloc (Nat.le_refl _) _).trans (b3.mono (by simp))
      clear p0 p1 g3 e3 b3 HS o3 o5 hsl HO
      go_wp2_with fail
      go_loopg [1, 6, 9] (kL l n) (fun g xv ov iv wr => ∃ (k : Nat) (ow : Value), ow = ov ∧ k + g = kL l n ∧ iv = .int .i64 (k : Int) ∧ xv = .int .i64 (shX l n x k) ∧ wr.ownsRow w2.heap.size 3 1 ow (shT l n x k).length (cellsI (shT l n x k)) ∧ wr.ownsRow w2.heap.size 43 2 (.slice A3 (stripL l n).length c3) (stripL l n).length (cellsE (stripL l n)) ∧ Below w2.heap.size w2 wr)
      case atStart => exact ⟨0, _, rfl, by omega, rfl, rfl, HO3.out, HST.out, HB13.out⟩
      case round =>
        obtain ⟨k, ow, rfl, hkg, rfl, rfl, hrow, hst, hB⟩ := hrel
        have hsz := hB.size
        cases gk with
        | zero =>
          obtain rfl : k = kL l n := by omega
          have dk : decide (((kL l n : Nat) : Int) < ((stripL l n).length : Int)) = false := decide_eq_false (by have := HSL.out; omega)
          have hk1 : ¬ ((kL l n : Nat) : Int) < ((stripL l n).length : Int) := by have := HSL.out; omega
          have hk2 : (stripL l n).length ≤ kL l n := by have := HSL.out; omega
          obtain ⟨A4, c4, rfl⟩ := own_form hrow
          go_wp2_with fail
          go_ret2
          exact RetI.yes HOK.out (own_base hrow (by have := HE1.out.size; omega)) (btrans HE1.out hB)
        | succ g2 =>
          have hlt : k < kL l n := by omega
          have dk : decide (((k : Nat) : Int) < ((stripL l n).length : Int)) = true := decide_eq_true (by have := HSL.out; omega)
          have hlt' : (k : Int) < ((stripL l n).length : Int) := by have := HSL.out; omega
          have hx := sL_at (l := l) (n := n) hlt
          obtain ⟨_, _, hf, hcc⟩ := (show Edges wr (.slice A3 (stripL l n).length c3) (stripL l n) from Reads.of_own hst).form
          cases hf
          obtain ⟨g, o, rfl, q0, q1⟩ := hcc k _ hx
          have HAP := Lib.hid (strip.own_apart hrow hst (by decide))
          have HST1 := Lib.hid hst
          have hxl : (shT l n x k).length ≤ 9 := by rw [shT_len]; omega
          simp only at q0 q1
          have HXY := Lib.hid (shX_yes (l := l) (n := n) (x := x) (k := k))
          have HXN := Lib.hid (shX_no (l := l) (n := n) (x := x) (k := k))
          have HXS := Lib.hid (shT_succ l n x k).symm
          clear hx hcc hst
          generalize hz_ : shX l n x k = z at *
          generalize sX l n k = a at *
          generalize sY l n k = b at *
          generalize hy_ : shX l n x (k + 1) = z1 at *
          have HZ := Lib.hid hy_
          clear hz_ hy_
          have HR1 := Lib.hid hrow
          have HB1 := Lib.hid hB
          have hz1' : w2.heap.size ≤ wr.heap.size := by omega
          clear hrow hB
          by_cases he : z = a
          · have d0 : (z == a) = true := by simpa using he
            have HX1 : Hid (z1 = b) := HXY.out he
            have HX2 := HX1.out
            subst HX2
            clear he HXY HXN
            go_wp2_with (at_builtin; refine wpList_append_own _ rfl _ _ 26 rfl (w2.heap.size) 3 i0 (.int .i64 0) 1 8 Tryd.underlying26 hi hz0 hz1 hz2 rfl (by decide) _ _ _ rfl (HR1.out.alloc _) ⟨wr.heap.size, 0, none⟩ 1 1 [.int .i64 z1] rfl rfl (cell_one_new _ _ _) (fun x hx => by simp at hx; subst hx; rfl) (by unfold maxLen; omega) (by omega) (by simp; omega) ?_; intro v2 w5 hown2 hgrow2 _)
            obtain ⟨hown3, hB2⟩ := push1 HR1.out hown2 hgrow2 hz1'
            rw [HXS.out] at hown3
            have HST6 := Lib.hid ((HST1.out.alloc _).kept hgrow2 HAP.out)
            have HB6 := Lib.hid (HB1.out.trans hB2)
            have HO6 := Lib.hid hown3
            clear hgrow2 hown2 hown3 hB2
            go_roundg g2
            case measure => omega
            case rel => exact ⟨k + 1, _, rfl, by omega, by go_num, by rw [HZ.out], HO6.out, HST6.out, HB6.out⟩
          · have d0 : (z == a) = false := by simpa using he
            have HX1 : Hid (z1 = z) := HXN.out he
            have HX2 := HX1.out
            subst HX2
            clear he HXY HXN
            go_wp2_with (at_builtin; refine wpList_append_own _ rfl _ _ 26 rfl (w2.heap.size) 3 i0 (.int .i64 0) 1 8 Tryd.underlying26 hi hz0 hz1 hz2 rfl (by decide) _ _ _ rfl (HR1.out.alloc _) ⟨wr.heap.size, 0, none⟩ 1 1 [.int .i64 z1] rfl rfl (cell_one_new _ _ _) (fun x hx => by simp at hx; subst hx; rfl) (by unfold maxLen; omega) (by omega) (by simp; omega) ?_; intro v2 w5 hown2 hgrow2 _)
            obtain ⟨hown3, hB2⟩ := push1 HR1.out hown2 hgrow2 hz1'
            rw [HXS.out] at hown3
            have HST6 := Lib.hid ((HST1.out.alloc _).kept hgrow2 HAP.out)
            have HB6 := Lib.hid (HB1.out.trans hB2)
            have HO6 := Lib.hid hown3
            clear hgrow2 hown2 hown3 hB2
            go_roundg g2
            case measure => omega
            case rel => exact ⟨k + 1, _, rfl, by omega, by go_num, by rw [HZ.out], HO6.out, HST6.out, HB6.out⟩
    · have ix : inB x 0 ((n : Int) - 1) = false := by simp [inB]; omega
      have HNO : Hid (¬ NodeOk (n : Int) l x) := fun hh => hx hh.2
      clear hgd hx
      go_enter Tryd.func6, Tryd.ntmps6
      go_wp2_with fail
      refine HG.out.mono ?_
      rintro e w1 ⟨rfl, b1⟩
      have e1 := btrans b0 b1
      have g1 := g0.below b1 g0.lt
      clear HG b0 b1 g0
      obtain ⟨p0, p1, -, -⟩ := g1.two
      go_wp2_with fail
      refine (l2Node_any (n : Int) x _ l w1 (H.out.below e1) h0 h8).mono ?_
      rw [ix]
      rintro e w2 ⟨rfl, b2⟩
      have e2 := btrans e1 b2
      go_wp2_with fail
      go_ret2
      exact RetI.no HNO.out (own_base (own_new0 _ _ _) e2.size) (e2.alloc e2.size _)
  · rw [goodB_no hgd] at HG
    have HNO : Hid (¬ NodeOk s l x) := fun hh => hgd hh.1
    clear hgd
    go_enter Tryd.func6, Tryd.ntmps6
    go_wp2_with fail
    refine HG.out.mono ?_
    rintro e w1 ⟨rfl, b1⟩
    have e1 := btrans b0 b1
    go_wp2_with fail
    go_ret2
    exact RetI.no HNO.out (own_base (own_new0 _ _ _) e1.size) (e1.alloc e1.size _)
end Go.Proofs.YtcnfeijniidclaaDoor.shad
