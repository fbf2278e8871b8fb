/- Guards: the eternal number: mathematics. -/
import Derived.Test.YthpodbhiopnnbaaDoorK23
import Derived.Handy
import Derived.Test.YthpodbhiopnnbaaDoorK11
import Derived.Deep.DeepCutAuto
import Derived.Deep.RegionHeld3
import Derived.Deep.QuietTactic
import Derived.Test.YthpodbhiopnnbaaDoorK24
namespace Go.Proofs.YthpodbhiopnnbaaDoor.ups
open Go.RowKit P2 words edges ints good adjs fns sets rets covs bitsI
set_option linter.unusedVariables false

/-- the fewest guards for whom there is an eternal family -/
noncomputable def enK (n : Nat) (l : List Ed) (all : Bool) : Nat := ((List.range n).find? fun k => okG (efK n l all k ≠ [])).getD n
theorem enK_found {n k : Nat} {l : List Ed} {all : Bool} (hk : k < n) (h : efK n l all k ≠ []) (hb : ∀ j, j < k → efK n l all j = []) : enK n l all = k := by
  have h2 : (List.range n).find? (fun k => okG (efK n l all k ≠ [])) = some k := by
    refine List.find?_eq_some_iff_getElem.2 ⟨okG_yes h, k, by rw [List.length_range]; exact hk, by rw [List.getElem_range], fun j hj => ?_⟩
    rw [List.getElem_range]
    have h3 : ¬ (efK n l all j ≠ []) := fun h2 => h2 (hb j hj)
    rw [okG_no h3]; rfl
  unfold enK
  rw [h2]; rfl
theorem enK_end {n : Nat} {l : List Ed} {all : Bool} (hb : ∀ j, j < n → efK n l all j = []) : enK n l all = n := by
  have h2 : (List.range n).find? (fun k => okG (efK n l all k ≠ [])) = none := by
    refine List.find?_eq_none.2 fun j hj => ?_
    have h3 : ¬ (efK n l all j ≠ []) := fun h2 => h2 (hb j (List.mem_range.1 hj))
    rw [okG_no h3]; decide
  unfold enK
  rw [h2]; rfl
/-- guards at all nodes are never attacked -/
theorem efK_full {n : Nat} (l : List Ed) (all : Bool) (hn : n ≤ 8) : efK n l all n ≠ [] := by
  have hones : ∀ m, m ≤ 8 → onesN (2 ^ m - 1) = m := by decide +kernel
  have hm : (2 ^ n - 1) ∈ setsK n n := (setsK_mem hn hn).2 ⟨by have := Nat.one_le_two_pow (n := n); omega, hones n hn⟩
  have hh : ∀ U, holdB n l all U (2 ^ n - 1) = true := fun U => by
    unfold holdB
    rw [List.all_eq_true]
    intro x hx
    rw [Nat.testBit_two_pow_sub_one, decide_eq_true (List.mem_range.1 hx)]; rfl
  have hu : ∀ t, (2 ^ n - 1) ∈ usN n l all (setsK n n) t := fun t => by
    induction t with
    | zero => exact hm
    | succ t ih => exact List.mem_filter.2 ⟨ih, hh _⟩
  have hr : resV n l all (setsK n n) (2 ^ n - 1) = -1 := by
    unfold resV
    rw [okG_no (fun ⟨t, ht⟩ => ht.2 (hu (t + 1)))]; rfl
  intro e
  have h2 : (2 ^ n - 1) ∈ efK n l all n := List.mem_filter.2 ⟨hm, by rw [hr]; rfl⟩
  rw [e] at h2
  simp at h2
noncomputable def enV (s : Int) (l : List Ed) (all : Bool) : Int := (enK s.toNat l all : Int)
theorem ef_ok {n k : Nat} {l : List Ed} {all : Bool} (hg : P2.Good (n : Int) l) (hk : k ≤ n) : EfOk (n : Int) l all (k : Int) ↔ efK n l all k ≠ [] := by
  unfold EfOk efN
  rw [Int.toNat_natCast, Int.toNat_natCast]
  exact ⟨fun h => h.2, fun h => ⟨⟨hg, by omega, by omega⟩, h⟩⟩
end Go.Proofs.YthpodbhiopnnbaaDoor.ups

/- Guards: the contract of the program's EternalNumber. -/
namespace Go.Proofs.YthpodbhiopnnbaaDoor.ups
open Go.RowKit P2 words edges ints owns good adjs fns sets rets covs bags bitsI func lists least near grid
set_option linter.unusedVariables false

set_option maxHeartbeats 4000000 in
set_option maxRecDepth 100000 in
theorem implEn_any (s : Int) (all : Bool) (v : Value) (l : List Ed) (w : World) (hE : Env w) (h : Edges w v l) (hl : l.length ≤ 1048576) :
    Calls Tryd.prog 33 #[.agg #[.int .i64 s, v], .bool all] w (RetN w (P2.Good s l) (enV s l all)) := by
  obtain ⟨A, c, rfl, -⟩ := h.form
  have H := Lib.hid h
  have HEN := Lib.hid hE
  have b0 : Below w.heap.size w (w.alloc (.cells #[.int .i64 s, .slice A l.length c] 29)) := (Below.refl _ _).alloc (Nat.le_refl _) _
  have g0 := Blk.new w 29 #[.int .i64 s, .slice A l.length c]
  obtain ⟨p0, p1, -, -⟩ := g0.two
  have HN := Lib.hid (implIsGraph_any s _ l _ (h.below b0) hl)
  have HB0 := Lib.hid b0
  have HG0 := Lib.hid g0
  clear h b0 g0 hE
  by_cases hgd : P2.Good s l
  · rw [goodB_yes hgd] at HN
    have HOK := Lib.hid hgd
    have h0 := hgd.1
    have h8 := hgd.2.1
    obtain ⟨n, rfl⟩ : ∃ n : Nat, s = (n : Int) := ⟨s.toNat, by omega⟩
    have hn : n ≤ 8 := by omega
    have HV : Hid (enV (n : Int) l all = (enK n l all : Int)) := by show _ = _; unfold enV; rw [Int.toNat_natCast]
    have HEF := Lib.hid (fun (k : Nat) (W : World) (hW : Below w.heap.size w W) => implEf_any (n : Int) (k : Int) all (.slice A l.length c) l W (HEN.out.next hW) (H.out.below hW) hl)
    have HK0 : Hid (∀ j, j < 0 → efK n l all j = []) := fun j hj => absurd hj (Nat.not_lt_zero _)
    have HFO := Lib.hid (fun (k : Nat) (hk : k < n) (h : efK n l all k ≠ []) (hb : ∀ j, j < k → efK n l all j = []) => enK_found hk h hb)
    have HEN2 := Lib.hid (fun (hb : ∀ j, j < n → efK n l all j = []) => enK_end (l := l) (all := all) hb)
    clear hgd
    go_enter Tryd.func33, Tryd.ntmps33
    go_wp2_with fail
    refine HN.out.mono ?_
    rintro e w1 ⟨rfl, b1⟩
    have HE1 := Lib.hid (btrans HB0.out b1)
    have HG1 := Lib.hid (HG0.out.below b1 HG0.out.lt)
    clear p0 p1 b1 HN HB0 HG0
    obtain ⟨p0, p1, -, -⟩ := HG1.out.two
    go_wp2_with fail
    clear p0 p1
    go_loopg [14] n (fun g iv wr => ∃ k : Nat, k + g = n ∧ iv = .int .i64 (k : Int) ∧ Hid (∀ j, j < k → efK n l all j = []) ∧ Blk wr w.heap.size 29 #[.int .i64 (n : Int), .slice A l.length c] ∧ Below w.heap.size w wr)
    case atStart => exact ⟨0, by omega, rfl, HK0, HG1.out, HE1.out⟩
    case round =>
      clear HK0 HG1 HE1
      obtain ⟨k, hkg, rfl, hbef, hgb, hB⟩ := hrel
      obtain ⟨p0, p1, -, -⟩ := hgb.two
      have HB := Lib.hid hB
      have HG := Lib.hid hgb
      cases gk with
      | zero =>
        obtain rfl : k = n := by omega
        have HR := Lib.hid (HEN2.out hbef.out)
        clear hgb hB hbef
        go_wp2_with fail
        go_ret2
        have h_ := RetN.yes (x := (k : Int)) HOK.out HB.out
        rw [HV.out, HR.out]
        exact h_
      | succ g2 =>
        have hlt : k < n := by omega
        have hlt' : (k : Int) < (n : Int) := by omega
        have HC := Lib.hid (HEF.out k wr hB)
        by_cases hf : efK n l all k ≠ []
        · have HO : Hid (EfOk (n : Int) l all (k : Int)) := (ef_ok HOK.out (Nat.le_of_lt hlt)).2 hf
          have HR := Lib.hid (HFO.out k hlt hf hbef.out)
          clear hgb hB hbef hf
          go_wp2_with fail
          refine HC.out.mono ?_
          rintro e w2 ⟨A2, c2, us, rfl, o2, b2⟩
          rw [okG_yes HO.out]
          go_wp2_with fail
          go_ret2
          have h_ := RetN.yes (x := (k : Int)) HOK.out (btrans HB.out b2)
          rw [HV.out, HR.out]
          exact h_
        · have HO : Hid (¬ EfOk (n : Int) l all (k : Int)) := fun h => hf ((ef_ok HOK.out (Nat.le_of_lt hlt)).1 h)
          have HN2 : Hid (∀ j, j < k + 1 → efK n l all j = []) := fun j hj => by
            by_cases e : j = k
            · subst e; exact Decidable.not_not.1 hf
            · exact hbef.out j (by omega)
          clear hgb hB hbef hf
          go_wp2_with fail
          refine HC.out.mono ?_
          rintro e w2 ⟨A2, c2, us, rfl, o2, b2⟩
          rw [okG_no HO.out]
          have HG2 := Lib.hid (HG.out.below b2 HG.out.lt)
          have HB2 := Lib.hid (btrans HB.out b2)
          clear p0 p1 o2 b2
          go_wp2_with fail
          go_roundg g2
          case measure => omega
          case rel => exact ⟨k + 1, by omega, by go_num, HN2, HG2.out, HB2.out⟩
  · rw [goodB_no hgd] at HN
    have HNO := Lib.hid hgd
    clear hgd
    go_enter Tryd.func33, Tryd.ntmps33
    go_wp2_with fail
    refine HN.out.mono ?_
    rintro e w1 ⟨rfl, b1⟩
    have HE1 := Lib.hid (btrans HB0.out b1)
    clear p0 p1 b1
    go_wp2_with fail
    go_ret2
    exact RetN.no HNO.out HE1.out
end Go.Proofs.YthpodbhiopnnbaaDoor.ups

/- Guards: the contracts of the model's l10Number and EternalNumber. -/
namespace Go.Proofs.YthpodbhiopnnbaaDoor.ups
open Go.RowKit P2 words edges ints owns good adjs fns sets rets covs bags balls bitsI func lists times apps gridr grid gridl trip minmax
set_option linter.unusedVariables false

set_option maxHeartbeats 4000000 in
set_option maxRecDepth 100000 in
theorem l10Number_any (n : Nat) (all : Bool) (v : Value) (l : List Ed) (w : World) (h : Edges w v l) (hl : l.length ≤ 1048576) (hg : P2.Good (n : Int) l) (hn : n ≤ 8) :
    Calls Tryd.prog 71 #[.agg #[.int .i64 (n : Int), v], .bool all] w fun e w' => e = .returned (.int .i64 (enK n l all : Int)) ∧ Below w.heap.size w w' := by
  obtain ⟨A, c, rfl, -⟩ := h.form
  have H := Lib.hid h
  have b0 : Below w.heap.size w (w.alloc (.cells #[.int .i64 (n : Int), .slice A l.length c] 29)) := (Below.refl _ _).alloc (Nat.le_refl _) _
  have g0 := Blk.new w 29 #[.int .i64 (n : Int), .slice A l.length c]
  have HB0 := Lib.hid b0
  have HG0 := Lib.hid g0
  have HEF := Lib.hid (fun (k : Nat) (hk : k ≤ 8) (W : World) (hW : Below w.heap.size w W) => l10Family_any n k all (.slice A l.length c) l W (H.out.below hW) hl hg hn hk)
  have HK0 : Hid (∀ j, j < 0 → efK n l all j = []) := fun j hj => absurd hj (Nat.not_lt_zero _)
  have HFO := Lib.hid (fun (k : Nat) (hk : k < n) (h : efK n l all k ≠ []) (hb : ∀ j, j < k → efK n l all j = []) => enK_found hk h hb)
  have HEN2 := Lib.hid (fun (hb : ∀ j, j < n → efK n l all j = []) => enK_end (l := l) (all := all) hb)
  have HFU := Lib.hid (efK_full l all hn)
  have HLE : Hid (∀ k, k ≤ 8 → (efK n l all k).length ≤ 256) := fun k hk => efK_len hn hk
  clear h b0 g0 hg
  go_enter Tryd.func71, Tryd.ntmps71
  go_wp2_with fail
  go_loopg [5] n (fun g iv wr => ∃ k : Nat, k + g = n ∧ iv = .int .i64 (k : Int) ∧ Hid (∀ j, j < k → efK n l all j = []) ∧ Blk wr w.heap.size 29 #[.int .i64 (n : Int), .slice A l.length c] ∧ Below w.heap.size w wr)
  case atStart => exact ⟨0, by omega, rfl, HK0, HG0.out, HB0.out⟩
  case round =>
    clear HK0 HG0 HB0
    obtain ⟨k, hkg, rfl, hbef, hgb, hB⟩ := hrel
    obtain ⟨p0, p1, -, -⟩ := hgb.two
    have HB := Lib.hid hB
    have HG := Lib.hid hgb
    have HC := Lib.hid (HEF.out k (by omega) wr hB)
    have hle := HLE.out k (by omega)
    by_cases hf : efK n l all k = []
    · obtain ⟨g2, rfl⟩ : ∃ g2, gk = g2 + 1 := ⟨gk - 1, by
        by_cases e : k = n
        · subst e; exact absurd hf HFU.out
        · omega⟩
      have HN2 : Hid (∀ j, j < k + 1 → efK n l all j = []) := fun j hj => by
        by_cases e : j = k
        · subst e; exact hf
        · exact hbef.out j (by omega)
      rw [hf] at HC
      have hr0 : rowN [] = [] := rfl
      rw [hr0] at HC
      clear hgb hB hbef hf hle hr0
      go_wp2_with fail
      refine HC.out.mono ?_
      rintro e w2 ⟨A2, c2, us, rfl, o2, b2⟩
      have HG2 := Lib.hid (HG.out.below b2 HG.out.lt)
      have HB2 := Lib.hid (btrans HB.out b2)
      clear p0 p1 o2 b2
      go_wp2_with fail
      go_roundg g2
      case measure => omega
      case rel => exact ⟨k + 1, by omega, by go_num, HN2, HG2.out, HB2.out⟩
    · have HR : Hid (enK n l all = k) := by
        by_cases e : k = n
        · subst e; exact HEN2.out hbef.out
        · exact HFO.out k (by omega) hf hbef.out
      have hln : 0 < (rowN (efK n l all k)).length := by rw [rowN_len]; exact List.length_pos_iff.2 hf
      rw [← rowN_len] at hle
      generalize rowN (efK n l all k) = RW at *
      have hq1 : ((RW.length : Int) == 0) = false := by rw [beq_eq_false_iff_ne]; omega
      have hq2 : (RW.length == 0) = false := by rw [beq_eq_false_iff_ne]; omega
      clear hgb hB hbef hf
      go_wp2_with fail
      refine HC.out.mono ?_
      rintro e w2 ⟨A2, c2, us, rfl, o2, b2⟩
      have HB2 := Lib.hid (btrans HB.out b2)
      clear p0 p1 o2 b2
      go_wp2_with fail
      go_ret
      rw [HR.out]
      exact ⟨rfl, HB2.out⟩
set_option maxHeartbeats 2000000 in
set_option maxRecDepth 100000 in
theorem specEn_any (s : Int) (all : Bool) (v : Value) (l : List Ed) (w : World) (h : Edges w v l) (hl : l.length ≤ 1048576) (hs1 : -9223372036854775808 ≤ s) (hs2 : s ≤ 9223372036854775807) :
    Calls Tryd.prog 32 #[.agg #[.int .i64 s, v], .bool all] w (RetN w (P2.Good s l) (enV s l all)) := by
  obtain ⟨A, c, rfl, -⟩ := h.form
  have H := Lib.hid h
  have b0 : Below w.heap.size w (w.alloc (.cells #[.int .i64 s, .slice A l.length c] 29)) := (Below.refl _ _).alloc (Nat.le_refl _) _
  have g0 := Blk.new w 29 #[.int .i64 s, .slice A l.length c]
  obtain ⟨p0, p1, -, -⟩ := g0.two
  have HN := Lib.hid (l2Good_any s _ l _ (h.below b0) hl hs1 hs2)
  have HB0 := Lib.hid b0
  have HG0 := Lib.hid g0
  clear h b0 g0
  by_cases hgd : P2.Good s l
  · rw [goodB_yes hgd] at HN
    have HOK := Lib.hid hgd
    have h0 := hgd.1
    have h8 := hgd.2.1
    obtain ⟨n, rfl⟩ : ∃ n : Nat, s = (n : Int) := ⟨s.toNat, by omega⟩
    have hn : n ≤ 8 := by omega
    have HV : Hid (enV (n : Int) l all = (enK n l all : Int)) := by show _ = _; unfold enV; rw [Int.toNat_natCast]
    have HNU := Lib.hid (fun (W : World) (hW : Below w.heap.size w W) => l10Number_any n all (.slice A l.length c) l W (H.out.below hW) hl hgd hn)
    clear hgd
    generalize enK n l all = K at *
    go_enter Tryd.func32, Tryd.ntmps32
    go_wp2_with fail
    refine HN.out.mono ?_
    rintro e w1 ⟨rfl, b1⟩
    have HE1 := Lib.hid (btrans HB0.out b1)
    have HG1 := Lib.hid (HG0.out.below b1 HG0.out.lt)
    clear p0 p1 b1 HN HB0 HG0
    obtain ⟨p0, p1, -, -⟩ := HG1.out.two
    go_wp2_with fail
    refine (HNU.out w1 HE1.out).mono ?_
    rintro e w2 ⟨rfl, b2⟩
    go_wp2_with fail
    go_ret2
    have h_ := RetN.yes (x := (K : Int)) HOK.out (btrans HE1.out b2)
    rw [HV.out]
    exact h_
  · rw [goodB_no hgd] at HN
    have HNO := Lib.hid hgd
    clear hgd
    go_enter Tryd.func32, Tryd.ntmps32
    go_wp2_with fail
    refine HN.out.mono ?_
    rintro e w1 ⟨rfl, b1⟩
    have HE1 := Lib.hid (btrans HB0.out b1)
    clear p0 p1 b1
    go_wp2_with fail
    go_ret2
    exact RetN.no HNO.out HE1.out
end Go.Proofs.YthpodbhiopnnbaaDoor.ups
