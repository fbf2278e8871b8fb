/- MatchingNumber: the contracts of the program's mostPairs and MatchingNumber. -/
import Derived.Handy
import Derived.Test.YtjcnngnahijceaaMpM
import Derived.Test.YtjcnngnahijceaaBitsI
import Derived.Test.YtjcnngnahijceaaApp
import Derived.Test.YtjcnngnahijceaaGoodS
import Derived.Test.YtjcnngnahijceaaRet
import Derived.Deep.DeepCutAuto
import Derived.Deep.RegionHeld3
import Derived.Deep.QuietTactic
namespace Go.Proofs.Ytjcnngnahijceaa.mps
open Go.RowKit P2 words edges ints good adjs fns sets rets covs bitsI
set_option linter.unusedVariables false

theorem ints_pair {w : World} {g : Nat} {t : TypeId} {a b : Int} (h : Blk w g t #[.int .i64 a, .int .i64 b]) : Ints w (.slice (some ⟨g, 0, none⟩) 2 2) [a, b] := by
  refine ⟨some ⟨g, 0, none⟩, 2, rfl, fun _ => ⟨g, 0, rfl, Nat.le_refl _, fun j u hu => ?_⟩⟩
  rw [Nat.zero_add, h.cell j]
  match j with
  | 0 => exact hu
  | 1 => exact hu
  | j + 2 => simp [cellsI] at hu
theorem edges_drop {w : World} {k : Nat} {A : Option Addr} {c : Nat} {l : List Ed} (h : Edges w (.slice A l.length c) l) (hk : k ≤ l.length) :
    Edges w (.slice (if c = k then A else A.map (·.add (k * 2))) (l.drop k).length (c - k)) (l.drop k) := by
  have h_ := apps.Reads.drop h hk
  have e : (cellsE l).drop (k * 2) = cellsE (l.drop k) := by
    clear h h_ hk
    induction k generalizing l with
    | zero => rfl
    | succ k ih =>
      cases l with
      | nil => simp [cellsE]
      | cons a r =>
        rw [List.drop_succ_cons, ← ih (l := r), show (k + 1) * 2 = k * 2 + 1 + 1 from by omega]
        rfl
  rw [e] at h_
  show Reads _ _ _ _ _
  rw [List.length_drop]
  exact h_
set_option maxHeartbeats 8000000 in
set_option maxRecDepth 100000 in
theorem mostPairs_any (m : Nat) : ∀ (l : List Ed) (u : Nat) (v : Value) (w : World), l.length ≤ m → Edges w v l → l.length ≤ 1048576 → EdOk l → u < 256 →
    Calls Try.prog 69 #[v, .int .u64 (u : Int)] w fun e w' => e = .returned (.int .i64 (mpN l u : Int)) ∧ Below w.heap.size w w' := by
  induction m with
  | zero =>
    intro l u v w hm h hl hok hu
    obtain ⟨A, c, rfl, -⟩ := h.form
    obtain rfl : l = [] := by cases l with | nil => rfl | cons => simp at hm
    clear h
    go_enter Try.func69, Try.ntmps69
    go_wp2_with fail
    go_loopg [5, 11] 0 (fun g bv iv wr => bv = .int .i64 0 ∧ iv = .int .i64 0 ∧ wr = w)
    case atStart => exact ⟨rfl, rfl, rfl⟩
    case round =>
      obtain ⟨rfl, rfl, rfl⟩ := hrel
      go_wp2_with fail
      go_ret
      exact ⟨rfl, Below.refl _ _⟩
  | succ m ih =>
    intro l u v w hm h hl hok hu
    obtain ⟨A, c, rfl, hcells⟩ := h.form
    have HE := Lib.hid h
    have HC := Lib.hid hcells
    have HOK := Lib.hid hok
    have HIH := Lib.hid ih
    have H0 : Hid (max 0 (mpN (l.drop 0) u) = mpN l u) := by show max 0 (mpN l u) = _; omega
    have HLE := Lib.hid (mpN_le l u)
    clear h hcells hok ih
    go_enter Try.func69, Try.ntmps69
    go_wp2_with fail
    go_loopg [5, 11] l.length (fun g bv iv wr => ∃ k b : Nat, k + g = l.length ∧ bv = .int .i64 (b : Int) ∧ iv = .int .i64 (k : Int) ∧ Hid (max b (mpN (l.drop k) u) = mpN l u) ∧ Below w.heap.size w wr)
    case atStart => exact ⟨0, 0, by omega, rfl, rfl, H0, Below.refl _ _⟩
    case round =>
      clear H0
      obtain ⟨k, b, hkg, rfl, rfl, hmx, hB⟩ := hrel
      have HB := Lib.hid hB
      cases gk with
      | zero =>
        obtain rfl : k = l.length := by omega
        have HV := Lib.hid (mp_end hmx.out)
        clear hB
        go_wp2_with fail
        go_ret
        exact ⟨ret_int (by rw [HV.out]), HB.out⟩
      | succ g2 =>
        have hlt : k < l.length := by omega
        have hlt' : (k : Int) < (l.length : Int) := by omega
        obtain ⟨e, he⟩ : ∃ e, l[k]? = some e := ⟨_, List.getElem?_eq_getElem hlt⟩
        obtain ⟨g5, o5, rfl, c0, c1⟩ := HC.out k e he
        have q0 := nearv.cell_keep c0 hB
        have q1 := nearv.cell_keep c1 hB
        have hee := HOK.out e (List.mem_of_getElem? he)
        have hpl := pair_lt hee
        have hfa := free_and (u := u) hee
        have hand := bits_and_u64_nat u (pairN e) (by omega) (by omega)
        have hor := bits_or_u64_nat u (pairN e) (by omega) (by omega)
        have HMY := Lib.hid (fun (hf : freeB e u = true) => mp_yes he hf hmx.out)
        have HMN := Lib.hid (fun (hf : freeB e u = false) => mp_no he hf hmx.out)
        have hble : b ≤ mpN l u := by have := hmx.out; omega
        have hmle := HLE.out
        have HBX : Hid (Below w.heap.size w (wr.alloc (.cells #[.int .i64 e.1, .int .i64 e.2] 119))) := btrans hB ((Below.refl _ _).alloc (Nat.le_refl _) _)
        have HBO := Lib.hid (bitsOf_any (.slice (some ⟨wr.heap.size, 0, none⟩) 2 2) [e.1, e.2] (wr.alloc (.cells #[.int .i64 e.1, .int .i64 e.2] 119)) (ints_pair (Blk.new wr 119 #[.int .i64 e.1, .int .i64 e.2])) (by simp) (fun x hx => by simp at hx; rcases hx with rfl | rfl <;> omega))
        have HDR := Lib.hid (edges_drop (HE.out.below HBX.out) (show k + 1 ≤ l.length by omega))
        have HIR := Lib.hid (fun (v2 : Value) (hv : Edges (wr.alloc (.cells #[.int .i64 e.1, .int .i64 e.2] 119)) v2 (l.drop (k + 1))) => HIH.out (l.drop (k + 1)) (u ||| pairN e) v2 (wr.alloc (.cells #[.int .i64 e.1, .int .i64 e.2] 119)) (by rw [List.length_drop]; omega) hv (by rw [List.length_drop]; omega) (HOK.out.drop _) (Nat.or_lt_two_pow (n := 8) hu hpl))
        have HM2 := Lib.hid (mpN_le (l.drop (k + 1)) (u ||| pairN e))
        have hdl : (l.drop (k + 1)).length = l.length - (k + 1) := List.length_drop ..
        have HDL := Lib.hid hdl
        rw [hdl] at HDR
        have hkc : k + 1 ≤ c := by
          obtain ⟨A_, c_, e_, hx_⟩ := HE.out
          cases e_
          obtain ⟨_, _, _, hc_, _⟩ := hx_ (by omega)
          omega
        have hkc' : ((k : Int) + 1) ≤ (c : Int) := by omega
        have hln : ((k : Int) + 1) ≤ (l.length : Int) := by omega
        clear he c0 c1 hee hB hmx hdl
        change Hid (Calls _ _ _ _ fun e_ w' => e_ = .returned (.int .u64 ((pairN e : Nat) : Int)) ∧ _) at HBO
        generalize pairN e = pe at *
        cases hf : freeB e u with
        | false =>
          have HN := Lib.hid (HMN.out hf)
          rw [hf] at hfa
          have hfi : (((u &&& pe : Nat) : Int) == 0) = false := by rw [beq_eq_false_iff_ne]; rw [beq_eq_false_iff_ne] at hfa; omega
          clear hf
          generalize u &&& pe = ua at *
          go_wp2_with fail
          refine HBO.out.mono ?_
          rintro e w' ⟨rfl, rfl⟩
          go_wp2_with fail
          go_roundg g2
          case measure => omega
          case rel => exact ⟨k + 1, b, by omega, rfl, by go_num, HN, HBX.out⟩
        | true =>
          have HN := Lib.hid (HMY.out hf)
          rw [hf] at hfa
          have hfi : (((u &&& pe : Nat) : Int) == 0) = true := by rw [beq_iff_eq]; rw [beq_iff_eq] at hfa; omega
          clear hf
          generalize u &&& pe = ua at *
          generalize mpN (l.drop (k + 1)) (u ||| pe) = r at *
          have hr := HM2.out
          rw [HDL.out] at hr
          have hw : IntKind.i64.wrap (1 + (r : Int)) = ((1 + r : Nat) : Int) := by rw [show 1 + (r : Int) = ((1 + r : Nat) : Int) from by omega]; exact IntWalk.i64_in _ (by omega)
          generalize hrr : 1 + r = r1 at *
          have HRR := Lib.hid hrr
          clear hrr
          by_cases hck : c = k + 1
          · subst hck
            have HDR2 : Hid (Edges (wr.alloc (.cells #[.int .i64 e.1, .int .i64 e.2] 119)) (.slice (some ⟨g5, o5, none⟩) (l.length - (k + 1)) 0) (l.drop (k + 1))) := by
              have h_ := HDR.out
              rw [if_pos rfl, Nat.sub_self] at h_
              exact h_
            have HCL := Lib.hid (HIR.out _ HDR2.out)
            clear HDR HIR
            by_cases hlt2 : b < r1
            · have x1 : (b : Int) < (r1 : Int) := by omega
              have x2 : ¬ (r1 : Int) < (b : Int) := by omega
              have HN2 : Hid (max r1 (mpN (l.drop (k + 1)) u) = mpN l u) := by have h_ := HN.out; rw [show max b r1 = r1 from Nat.max_eq_right (by omega)] at h_; exact h_
              go_wp2_with fail
              refine HBO.out.mono ?_
              rintro e w' ⟨rfl, rfl⟩
              go_wp2_with fail
              refine HCL.out.mono ?_
              rintro e w5 ⟨rfl, b5⟩
              go_wp2_with fail
              go_roundg g2
              case measure => omega
              case rel => exact ⟨k + 1, r1, by omega, rfl, by go_num, HN2, btrans HBX.out b5⟩
            · have x1 : ¬ (b : Int) < (r1 : Int) := by omega
              have x2 : (r1 : Int) ≤ (b : Int) := by omega
              have HN2 : Hid (max b (mpN (l.drop (k + 1)) u) = mpN l u) := by have h_ := HN.out; rw [show max b r1 = b from Nat.max_eq_left (by omega)] at h_; exact h_
              go_wp2_with fail
              refine HBO.out.mono ?_
              rintro e w' ⟨rfl, rfl⟩
              go_wp2_with fail
              refine HCL.out.mono ?_
              rintro e w5 ⟨rfl, b5⟩
              go_wp2_with fail
              go_roundg g2
              case measure => omega
              case rel => exact ⟨k + 1, b, by omega, rfl, by go_num, HN2, btrans HBX.out b5⟩
          · have HDR2 : Hid (Edges (wr.alloc (.cells #[.int .i64 e.1, .int .i64 e.2] 119)) (.slice (some ⟨g5, o5 + (k + 1) * 2, none⟩) (l.length - (k + 1)) (c - (k + 1))) (l.drop (k + 1))) := by
              have h_ := HDR.out
              rw [if_neg hck, show (some (⟨g5, o5, none⟩ : Addr)).map (·.add ((k + 1) * 2)) = some ⟨g5, o5 + (k + 1) * 2, none⟩ from by simp [apps.addr_add]] at h_
              exact h_
            have HCL := Lib.hid (HIR.out _ HDR2.out)
            clear HDR HIR
            by_cases hlt2 : b < r1
            · have x1 : (b : Int) < (r1 : Int) := by omega
              have x2 : ¬ (r1 : Int) < (b : Int) := by omega
              have HN2 : Hid (max r1 (mpN (l.drop (k + 1)) u) = mpN l u) := by have h_ := HN.out; rw [show max b r1 = r1 from Nat.max_eq_right (by omega)] at h_; exact h_
              go_wp2_with fail
              refine HBO.out.mono ?_
              rintro e w' ⟨rfl, rfl⟩
              go_wp2_with fail
              refine HCL.out.mono ?_
              rintro e w5 ⟨rfl, b5⟩
              go_wp2_with fail
              go_roundg g2
              case measure => omega
              case rel => exact ⟨k + 1, r1, by omega, rfl, by go_num, HN2, btrans HBX.out b5⟩
            · have x1 : ¬ (b : Int) < (r1 : Int) := by omega
              have x2 : (r1 : Int) ≤ (b : Int) := by omega
              have HN2 : Hid (max b (mpN (l.drop (k + 1)) u) = mpN l u) := by have h_ := HN.out; rw [show max b r1 = b from Nat.max_eq_left (by omega)] at h_; exact h_
              go_wp2_with fail
              refine HBO.out.mono ?_
              rintro e w' ⟨rfl, rfl⟩
              go_wp2_with fail
              refine HCL.out.mono ?_
              rintro e w5 ⟨rfl, b5⟩
              go_wp2_with fail
              go_roundg g2
              case measure => omega
              case rel => exact ⟨k + 1, b, by omega, rfl, by go_num, HN2, btrans HBX.out b5⟩
set_option maxHeartbeats 2000000 in
set_option maxRecDepth 100000 in
theorem implMp_any (s : Int) (v : Value) (l : List Ed) (w : World) (h : Edges w v l) (hl : l.length ≤ 1048576) :
    Calls Try.prog 23 #[.agg #[.int .i64 s, v]] w fun e w' => e = .returned (.tuple #[.int .i64 (szG (P2.Good s l) (mpV l)), .bool (okG (P2.Good s l))]) ∧ Below w.heap.size w w' := by
  obtain ⟨A, c, rfl, -⟩ := h.form
  have H := Lib.hid h
  have b0 : Below w.heap.size w (w.alloc (.cells #[.int .i64 s, .slice A l.length c] 28)) := (Below.refl _ _).alloc (Nat.le_refl _) _
  have HG0 := Lib.hid (Blk.new w 28 #[.int .i64 s, .slice A l.length c])
  obtain ⟨p0, p1, -, -⟩ := HG0.out.two
  have HN := Lib.hid (implIsGraph_any s _ l _ (h.below b0) hl)
  have HB0 := Lib.hid b0
  clear h b0
  by_cases hgd : P2.Good s l
  · rw [goodB_yes hgd] at HN
    rw [szG_yes hgd, okG_yes hgd]
    have HMP := Lib.hid (fun (W : World) (hW : Below w.heap.size w W) => mostPairs_any l.length l 0 (.slice A l.length c) W (Nat.le_refl _) (H.out.below hW) hl (fun e he => by have := hgd.mem he; have := hgd.2.1; omega) (by decide))
    have HV : Hid (mpV l = (mpN l 0 : Int)) := rfl
    rw [HV.out]
    clear hgd HV
    generalize mpN l 0 = q at *
    go_enter Try.func23, Try.ntmps23
    go_wp2_with fail
    refine HN.out.mono ?_
    rintro e w1 ⟨rfl, b1⟩
    have HE1 := Lib.hid (btrans HB0.out b1)
    have HG1 := Lib.hid (HG0.out.below b1 HG0.out.lt)
    have HM1 := Lib.hid (HMP.out w1 HE1.out)
    clear p0 p1 b1 HN HB0 HG0
    obtain ⟨p0, p1, -, -⟩ := HG1.out.two
    go_wp2_with fail
    refine HM1.out.mono ?_
    rintro e w2 ⟨rfl, b2⟩
    go_wp2_with fail
    go_ret2
    exact ⟨rfl, btrans HE1.out b2⟩
  · rw [goodB_no hgd] at HN
    rw [szG_no hgd, okG_no hgd]
    clear hgd
    go_enter Try.func23, Try.ntmps23
    go_wp2_with fail
    refine HN.out.mono ?_
    rintro e w1 ⟨rfl, b1⟩
    have HE1 := Lib.hid (btrans HB0.out b1)
    clear p0 p1 b1
    go_wp2_with fail
    go_ret2
    exact ⟨rfl, HE1.out⟩
end Go.Proofs.Ytjcnngnahijceaa.mps
