/- Forts: the contracts of the program's isFort and IsFort. -/
import Derived.Handy
import Derived.Test.YtfphpilabfpmjaaForcN
import Derived.Test.YtfphpilabfpmjaaSpreI
import Derived.Deep.DeepCutAuto
import Derived.Deep.RegionHeld3
import Derived.Deep.QuietTactic
namespace Go.Proofs.Ytfphpilabfpmjaa.forc
open Go.RowKit P2 words edges ints good adjs fns sets rets covs bags bitsI ups func
set_option linter.unusedVariables false

set_option maxHeartbeats 2000000 in
set_option maxRecDepth 100000 in
theorem isFort_any (n c : Nat) (v : Value) (l : List Ed) (w : World) (h : Nums w v (clos l n)) (hg : P2.Good (n : Int) l) (hn : n ≤ 8) (hc : c < 2 ^ n) :
    Calls Try.prog 74 #[v, .int .u64 (c : Int)] w fun e w' => e = .returned (.bool (frtB n l c)) ∧ w = w' := by
  obtain ⟨A, cc, rfl, hcl⟩ := h.form
  have HCL := Lib.hid hcl
  have HG := Lib.hid hg
  have hlen := clos_len l n
  rw [hlen]
  have hc256 : c < 256 := Nat.lt_of_lt_of_le hc (pow_le hn)
  have HHS := Lib.hid (fun (k : Nat) (hk : k ≤ 8) => has_any c k w (by omega) hk)
  have HCT := Lib.hid (fun (d : Nat) (hd : d < 256) => count_any d w hd)
  have HK0 : Hid (∀ j, j < 0 → ¬ (c.testBit j = false ∧ insN l c j = 1)) := fun j hj => by omega
  have hne : ((c : Int) != 0) = !(c == 0) := by
    show (!((c : Int) == 0)) = _
    congr 1
    rw [Bool.eq_iff_iff, beq_iff_eq, beq_iff_eq]; omega
  clear h hcl hg hlen hc
  go_enter Try.func74, Try.ntmps74
  go_wp2_with fail
  go_loopg [9] n (fun g iv wx => ∃ k : Nat, k + g = n ∧ iv = .int .i64 (k : Int) ∧ Hid (∀ j, j < k → ¬ (c.testBit j = false ∧ insN l c j = 1)) ∧ wx = w)
  case atStart => exact ⟨0, by omega, rfl, HK0, rfl⟩
  case round =>
    clear HK0
    obtain ⟨k, hkg, rfl, hno, rfl⟩ := hrel
    cases gk with
    | zero =>
      obtain rfl : k = n := by omega
      have HV := Lib.hid (frt_end hno.out)
      go_wp2_with fail
      go_ret
      exact ⟨ret_bool HV.out.symm, rfl⟩
    | succ g2 =>
      have hlt : k < n := by omega
      have hlt' : (k : Int) < (n : Int) := by omega
      obtain ⟨g5, o5, rfl, c0⟩ := HCL.out k _ (clos_at hlt)
      have hcb := cloB_lt' HG.out k (by omega)
      have hand := bits_and_u64_nat (cloB l k) c (by omega) (by omega)
      have hab : cloB l k &&& c < 256 := Nat.lt_of_le_of_lt Nat.and_le_right hc256
      have HH := Lib.hid (HHS.out k (by omega))
      have HCC := Lib.hid (HCT.out (cloB l k &&& c) hab)
      have hins : onesN (cloB l k &&& c) = insN l c k := rfl
      rw [hins] at HCC
      clear hab
      cases hb : c.testBit k with
      | true =>
        have HK : Hid (∀ j, j < k + 1 → ¬ (c.testBit j = false ∧ insN l c j = 1)) := fun j hj => by
          by_cases e : j = k
          · subst e; exact fun h_ => by rw [hb] at h_; cases h_.1
          · exact hno.out j (by omega)
        rw [hb] at HH
        clear hb hins
        generalize insN l c k = q at *
        generalize cloB l k &&& c = y1 at *
        generalize cloB l k = y2 at *
        go_wp2_with fail
        refine HH.out.mono ?_
        rintro e w' ⟨rfl, rfl⟩
        go_wp2_with fail
        go_roundg g2
        case measure => omega
        case rel => exact ⟨k + 1, by omega, by go_num, HK, rfl⟩
      | false =>
        rw [hb] at HH
        by_cases hr : insN l c k = 1
        · have HV := Lib.hid (frt_stop (n := n) hlt hb hr)
          rw [hr] at HCC
          clear hb hins hr
          generalize cloB l k &&& c = y1 at *
          generalize cloB l k = y2 at *
          go_wp2_with fail
          refine HH.out.mono ?_
          rintro e w' ⟨rfl, rfl⟩
          go_wp2_with fail
          refine HCC.out.mono ?_
          rintro e w' ⟨rfl, rfl⟩
          go_wp2_with fail
          first | go_ret | (rw [Exit.noGoto_ret]; go_ret)
          rw [HV.out]
          exact ⟨rfl, rfl⟩
        · have HK : Hid (∀ j, j < k + 1 → ¬ (c.testBit j = false ∧ insN l c j = 1)) := fun j hj => by
            by_cases e : j = k
            · subst e; exact fun h_ => hr h_.2
            · exact hno.out j (by omega)
          have hr' : ((insN l c k : Int) == 1) = false := by rw [beq_eq_false_iff_ne]; omega
          clear hb hins hr
          generalize insN l c k = q at *
          generalize cloB l k &&& c = y1 at *
          generalize cloB l k = y2 at *
          go_wp2_with fail
          refine HH.out.mono ?_
          rintro e w' ⟨rfl, rfl⟩
          go_wp2_with fail
          refine HCC.out.mono ?_
          rintro e w' ⟨rfl, rfl⟩
          go_wp2_with fail
          go_roundg g2
          case measure => omega
          case rel => exact ⟨k + 1, by omega, by go_num, HK, rfl⟩
def FrtP (s : Int) (l : List Ed) (xs : List Int) : Prop := SetOk s l xs ∧ frtB s.toNat l (codeL xs) = true
theorem frtP_is {n : Nat} {l : List Ed} {xs : List Int} (h : SetOk (n : Int) l xs) : okG (FrtP (n : Int) l xs) = frtB n l (codeL xs) := by
  rw [Bool.eq_iff_iff, okG_iff]
  unfold FrtP
  rw [Int.toNat_natCast]
  exact ⟨fun h => h.2, fun h2 => ⟨h, h2⟩⟩
set_option maxHeartbeats 2000000 in
set_option maxRecDepth 100000 in
theorem implIsFort_any (s : Int) (v u : Value) (l : List Ed) (xs : List Int) (w : World) (h : Edges w v l) (hl : l.length ≤ 1048576) (hu : Ints w u xs) (hxl : xs.length ≤ 1048576) :
    Calls Try.prog 34 #[.agg #[.int .i64 s, v], u] w fun e w' => e = .returned (.tuple #[.bool (okG (FrtP s l xs)), .bool (okG (SetOk s l xs))]) ∧ Below w.heap.size w w' := by
  obtain ⟨A, c, rfl, -⟩ := h.form
  have H := Lib.hid h
  have HU := Lib.hid hu
  have b0 : Below w.heap.size w (w.alloc (.cells #[.int .i64 s, .slice A l.length c] 29)) := (Below.refl _ _).alloc (Nat.le_refl _) _
  have g0 := Blk.new w 29 #[.int .i64 s, .slice A l.length c]
  obtain ⟨p0, p1, -, -⟩ := g0.two
  have HS := Lib.hid (hasSet_any s (.slice A l.length c) u l xs _ (h.below b0) hl (hu.below b0) hxl)
  have HB0 := Lib.hid b0
  have HG0 := Lib.hid g0
  clear h hu b0 g0
  by_cases hso : SetOk s l xs
  · rw [okG_yes hso] at HS ⊢
    have h0 := hso.1.1
    have h8 := hso.1.2.1
    obtain ⟨n, rfl⟩ : ∃ n : Nat, s = (n : Int) := ⟨s.toNat, by omega⟩
    have hn : n ≤ 8 := by omega
    have HOK := Lib.hid hso
    have HC := Lib.hid (code_set hso)
    rw [frtP_is hso]
    clear hso
    go_enter Try.func34, Try.ntmps34
    go_wp2_with fail
    refine HS.out.mono ?_
    rintro e w1 ⟨rfl, b1⟩
    have HE1 := Lib.hid (btrans HB0.out b1)
    have HG1 := Lib.hid (HG0.out.below b1 HG0.out.lt)
    clear p0 p1 b1 HS HB0 HG0
    obtain ⟨p0, p1, -, -⟩ := HG1.out.two
    have HCB := Lib.hid (closedBits_any n (.slice A l.length c) l w1 (H.out.below HE1.out) hl HOK.out.1 hn)
    go_wp2_with fail
    refine HCB.out.mono ?_
    rintro e w3 ⟨A3, c3, rfl, i3, b3⟩
    have HE3 := Lib.hid (btrans HE1.out b3)
    have HBO := Lib.hid (bitsOf_any u xs w3 (HU.out.below HE3.out) hxl (fun x hx => by have := HOK.out.2.1 x hx; omega))
    have HIF := Lib.hid (isFort_any n (codeL xs) _ l w3 i3 HOK.out.1 hn HC.out)
    clear p0 p1 b3 i3 HCB
    go_wp2_with fail
    refine HBO.out.mono ?_
    rintro e w' ⟨rfl, rfl⟩
    go_wp2_with fail
    refine HIF.out.mono ?_
    rintro e w' ⟨rfl, rfl⟩
    go_wp2_with fail
    go_ret2
    exact ⟨rfl, HE3.out⟩
  · have HV2 : Hid (okG (FrtP s l xs) = false) := okG_no fun h => hso h.1
    rw [okG_no hso] at HS ⊢
    rw [HV2.out]
    clear hso
    go_enter Try.func34, Try.ntmps34
    go_wp2_with fail
    refine HS.out.mono ?_
    rintro e w1 ⟨rfl, b1⟩
    have HE1 := Lib.hid (btrans HB0.out b1)
    clear p0 p1 b1
    go_wp2_with fail
    go_ret2
    exact ⟨rfl, HE1.out⟩
end Go.Proofs.Ytfphpilabfpmjaa.forc
