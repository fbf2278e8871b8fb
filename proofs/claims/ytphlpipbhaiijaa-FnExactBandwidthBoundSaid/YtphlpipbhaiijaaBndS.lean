/- Bounds of bandwidths: the contract of the model. -/
import Derived.Handy
import Derived.Test.YtphlpipbhaiijaaBndI
import Derived.Test.YtphlpipbhaiijaaBallS
import Derived.Test.YtphlpipbhaiijaaMinMax
import Derived.Deep.DeepCutAuto
namespace Go.Proofs.Ytphlpipbhaiijaa.bnds
open Go.RowKit P2 words edges ints owns good near adjs fns rets sets covs reach grid dists distf disto rens func rad bags
set_option linter.unusedVariables false

set_option maxHeartbeats 4000000 in
set_option maxRecDepth 100000 in
theorem specBound_any (s : Int) (v : Value) (l : List Ed) (w : World) (h : Edges w v l) (hl : l.length ≤ 1048576) (hs1 : -9223372036854775808 ≤ s) (hs2 : s ≤ 9223372036854775807) :
    Calls Try.prog 35 #[.agg #[.int .i64 s, v]] w (RetN w (P2.Good s l) (bndV s l)) := by
  obtain ⟨A, c, rfl, -⟩ := h.form
  have H := Lib.hid h
  have b0 : Below w.heap.size w (w.alloc (.cells #[.int .i64 s, .slice A l.length c] 29)) := (Below.refl _ _).alloc (Nat.le_refl _) _
  have g0 := Blk.new w 29 #[.int .i64 s, .slice A l.length c]
  have HG := Lib.hid (l2Good_any s _ l _ (h.below b0) hl hs1 hs2)
  clear h
  by_cases hgd : P2.Good s l
  · rw [goodB_yes hgd] at HG
    have h0 := hgd.1
    have h8 := hgd.2.1
    obtain ⟨n, rfl⟩ : ∃ n : Nat, s = (n : Int) := ⟨s.toNat, by omega⟩
    have hn : n ≤ 8 := by omega
    have HGD := Lib.hid hgd
    have HV : Hid (bndV (n : Int) l = bndX n l n) := by show _ = _; unfold bndV; rw [Int.toNat_natCast]
    clear hgd
    go_enter Try.func35, Try.ntmps35
    go_wp2_with fail
    refine HG.out.mono ?_
    rintro e w1 ⟨rfl, b1⟩
    have HE1 := Lib.hid (btrans b0 b1)
    have HG1 := Lib.hid (g0.below b1 g0.lt)
    obtain ⟨p0, p1, -, -⟩ := HG1.out.two
    clear HG b0 b1 g0
    go_wp2_with fail
    clear p0 p1
    go_loopg [4, 5] n (fun g mv iv wr => ∃ x : Nat, x + g = n ∧ iv = .int .i64 (x : Int) ∧ mv = .int .i64 (bndX n l x) ∧ Blk wr w.heap.size 29 #[.int .i64 (n : Int), .slice A l.length c] ∧ Below w.heap.size w wr)
    case atStart => exact ⟨0, by omega, rfl, rfl, HG1.out, HE1.out⟩
    case round =>
      clear HG1 HE1
      obtain ⟨x, hxg, rfl, rfl, hgb, hB⟩ := hrel
      obtain ⟨p0, p1, -, -⟩ := hgb.two
      have HG := Lib.hid hgb
      have HB := Lib.hid hB
      cases gk with
      | zero =>
        obtain rfl : x = n := by omega
        clear hgb hB
        go_wp2_with fail
        go_ret2
        rw [← HV.out]
        exact RetN.yes HGD.out HB.out
      | succ g2 =>
        have hlt : x < n := by omega
        have hlt' : (x : Int) < (n : Int) := by omega
        clear hgb hB
        go_wp2_with fail
        obtain ⟨wo, hwo⟩ : ∃ wo, wo = wr := ⟨_, rfl⟩
        subst hwo
        clear p0 p1
        go_loopg [4, 6] n (fun g mv rv wr => ∃ r : Nat, r + g = n ∧ rv = .int .i64 ((r : Int) + 1) ∧ mv = .int .i64 (bndR n l x (bndX n l x) r) ∧ Blk wr w.heap.size 29 #[.int .i64 (n : Int), .slice A l.length c] ∧ Below w.heap.size w wr)
        case atStart => exact ⟨0, by omega, rfl, rfl, HG.out, HB.out⟩
        case round =>
          clear HG HB
          obtain ⟨r, hrg, rfl, rfl, hgb, hB⟩ := hrel
          obtain ⟨p0, p1, -, -⟩ := hgb.two
          have HG := Lib.hid hgb
          have HB := Lib.hid hB
          cases gk with
          | zero =>
            obtain rfl : r = n := by omega
            have hno : ¬ ((r : Int) + 1 ≤ (r : Int)) := by omega
            clear hgb hB
            go_wp2_with fail
            go_roundg g2
            case measure => omega
            case rel => exact ⟨x + 1, by omega, by go_num, rfl, HG.out, HB.out⟩
          | succ g4 =>
            have hr1 : (r : Int) + 1 ≤ (n : Int) := by omega
            have HWI := Lib.hid (ballo.l2Within_any n x ((r : Int) + 1) (.slice A l.length c) l wr (H.out.below hB) hl hn hlt)
            have hol := othN_le n l x ((r : Int) + 1)
            have HON : Hid ((ballo.ballL n l x ((r : Int) + 1)).length = othN n l x ((r : Int) + 1) + 1) := oth_ball hlt (by omega)
            have HBS := Lib.hid (bndR_succ (n := n) (l := l) (x := x) (r := r) (b := bndX n l x))
            have HMO := Lib.hid (fun (a b : Int) (W : World) => minmax.l1Most_any a b W)
            clear hgb hB
            go_wp2_with fail
            refine HWI.out.mono ?_
            rintro e w5 ⟨A7, c7, rfl, o7, b7⟩
            rw [HON.out]
            have HG5 := Lib.hid (HG.out.below b7 HG.out.lt)
            have HB5 := Lib.hid (btrans HB.out b7)
            clear o7 b7 p0 p1
            generalize othN n l x ((r : Int) + 1) = a at *
            have hw0 : IntKind.i64.wrap (((a + 1 : Nat) : Int) - 1) = (a : Int) := by rw [show ((a + 1 : Nat) : Int) - 1 = (a : Int) from by omega]; exact IntWalk.i64_in _ (by omega)
            have hw1 : IntKind.i64.wrap (2 * ((r : Int) + 1)) = 2 * ((r : Int) + 1) := IntWalk.i64_in _ (by omega)
            have hw2 : IntKind.i64.wrap ((a : Int) + 2 * ((r : Int) + 1)) = (a : Int) + 2 * ((r : Int) + 1) := IntWalk.i64_in _ (by omega)
            have hw3 : IntKind.i64.wrap ((a : Int) + 2 * ((r : Int) + 1) - 1) = (a : Int) + 2 * ((r : Int) + 1) - 1 := IntWalk.i64_in _ (by omega)
            have hw4 : ((2 * ((r : Int) + 1)) == 0) = false := by simp; omega
            generalize bndR n l x (bndX n l x) r = bv at *
            go_wp2_with fail
            refine (HMO.out _ _ _).mono ?_
            rintro e w' ⟨rfl, rfl⟩
            go_wp2_with fail
            go_roundg g4
            case measure => omega
            case rel => exact ⟨r + 1, by omega, by first | go_num | (congr 1; omega), by rw [HBS.out], HG5.out, HB5.out⟩
  · rw [goodB_no hgd] at HG
    have HN := Lib.hid hgd
    clear hgd
    go_enter Try.func35, Try.ntmps35
    go_wp2_with fail
    refine HG.out.mono ?_
    rintro e w1 ⟨rfl, b1⟩
    go_wp2_with fail
    go_ret2
    exact RetN.no HN.out (btrans b0 b1)
end Go.Proofs.Ytphlpipbhaiijaa.bnds
