/- The contracts of the program's cornersIn, IsCorner, CoversOf and CornersOf, and of slices.Contains. -/
import Derived.Test.YtcnfeijniidclaaDoorClosed
import Derived.Test.YtcnfeijniidclaaDoorCorS
namespace Go.Proofs.YtcnfeijniidclaaDoor.cors
open Go.RowKit P2 words edges ints good adjs fns sets rets covs bitsI
set_option linter.unusedVariables false

set_option maxHeartbeats 2000000 in
set_option maxRecDepth 100000 in
theorem cornersIn_any (n B : Nat) (v : Value) (l : List Ed) (w : World) (h : Nums w v (clos l n)) (hg : P2.Good n l) (hn : n ≤ 8) (hB : B < 256) :
    Calls Tryd.prog 40 #[v, .int .u64 (B : Int)] w fun e w' => e = .returned (.int .u64 (cornersN l n B : Int)) ∧ Below w.heap.size w w' := by
  obtain ⟨A, c, rfl, -⟩ := h.form
  have H := Lib.hid h
  have HG := Lib.hid hg
  have hcl := clos_len l n
  rw [hcl] at H
  rw [hcl]
  clear h hg hcl
  go_enter Tryd.func40, Tryd.ntmps40
  go_wp2_with fail
  go_loopg [5, 9] n (fun g s i wr => ∃ k : Nat, k + g = n ∧ i = .int .i64 (k : Int) ∧ s = .int .u64 (numOf (cornerB l n B) k : Int) ∧ Below w.heap.size w wr)
  case atStart => exact ⟨0, by omega, rfl, rfl, Below.refl _ _⟩
  case round =>
    obtain ⟨k, hkg, rfl, rfl, hBw⟩ := hrel
    cases gk with
    | zero =>
      obtain rfl : k = n := by omega
      go_wp2_with fail
      go_ret
      exact ⟨rfl, hBw⟩
    | succ g2 =>
      have hlt : k < n := by omega
      have hlt' : (k : Int) < (n : Int) := by omega
      have hk8 : k ≤ 8 := by omega
      have HH := Lib.hid (has_any B k wr (by omega) hk8)
      have HCV := Lib.hid (coversIn_any n B k (.slice A n c) l wr (H.out.below hBw) HG.out hn hB hlt)
      have HT := Lib.hid (or_walk (numOf (cornerB l n B) k) k (numOf_lt _ hk8) hk8)
      have hcov : cornerB l n B k = (B.testBit k && coversN l n B k != 0) := rfl
      cases hbit : B.testBit k with
      | false =>
        have hc0 : cornerB l n B k = false := by rw [hcov, hbit]; rfl
        have HN := Lib.hid (numOf_no hc0)
        rw [hbit] at HH
        clear hcov hc0 hbit
        go_wp2_with fail
        refine HH.out.mono ?_
        rintro e w1 ⟨rfl, rfl⟩
        go_wp2_with fail
        go_roundg g2
        case measure => omega
        case rel => exact ⟨k + 1, by omega, by go_num, by rw [HN.out], hBw⟩
      | true =>
        rw [hbit] at HH
        have hcn : ((coversN l n B k : Int) != 0) = (coversN l n B k != 0) := by
          rw [Bool.eq_iff_iff, bne_iff_ne, bne_iff_ne]; omega
        cases hq : (coversN l n B k != 0) with
        | false =>
          have hc0 : cornerB l n B k = false := by rw [hcov, hbit, hq]; rfl
          have HN := Lib.hid (numOf_no hc0)
          rw [hq] at hcn
          clear hcov hc0 hbit
          generalize coversN l n B k = cv at *
          go_wp2_with fail
          refine HH.out.mono ?_
          rintro e w1 ⟨rfl, rfl⟩
          go_wp2_with fail
          refine HCV.out.mono ?_
          rintro e w2 ⟨rfl, b2⟩
          go_wp2_with fail
          go_roundg g2
          case measure => omega
          case rel => exact ⟨k + 1, by omega, by go_num, by rw [HN.out], btrans hBw b2⟩
        | true =>
          have hc0 : cornerB l n B k = true := by rw [hcov, hbit, hq]; rfl
          have HN := Lib.hid (numOf_yes hc0)
          rw [hq] at hcn
          clear hcov hc0 hbit
          generalize coversN l n B k = cv at *
          go_wp2_with fail
          refine HH.out.mono ?_
          rintro e w1 ⟨rfl, rfl⟩
          go_wp2_with fail
          refine HCV.out.mono ?_
          rintro e w2 ⟨rfl, b2⟩
          go_wp2_with fail
          go_roundg g2
          case measure => omega
          case rel => exact ⟨k + 1, by omega, by go_num, by rw [HN.out, HT.out], btrans hBw b2⟩

theorem set_code_lt {s : Int} {l : List Ed} {xs : List Int} (h : SetOk s l xs) : codeL xs < 256 :=
  code_lt (m := 8) fun x hx => by have := h.2.1 x hx; have := h.1.2.1; omega




end Go.Proofs.YtcnfeijniidclaaDoor.cors
