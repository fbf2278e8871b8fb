/- The least sum of the number of nodes of a forcing set and the number of its rounds: mathematics. -/
import Derived.Test.YtjcnngnahijceaaS01
import Derived.Test.YtjcnngnahijceaaCutM
import Derived.Handy
import Derived.Deep.DeepCutAuto
import Derived.Deep.RegionHeld3
import Derived.Deep.QuietTactic
namespace Go.Proofs.Ytjcnngnahijceaa.forc
open Go.RowKit P2 words edges ints good adjs fns sets rets covs bags bitsI ups func lays
set_option linter.unusedVariables false

theorem rnd_strict {n : Nat} {l : List Ed} {sk : Bool} : ∀ (f c j : Nat), j + 1 < (rndL n l sk f c).length → onN n l sk (orb n l sk c j) ≠ orb n l sk c j
  | 0, c, j, h => by simp [rndL] at h
  | f + 1, c, j, h => by
    unfold rndL at h
    split at h
    · simp at h
    · rename_i e
      cases j with
      | zero => exact e
      | succ j =>
        rw [← orb_from]
        exact rnd_strict f (onN n l sk c) j (by rw [List.length_cons] at h; omega)
theorem orb_mono {n : Nat} {l : List Ed} {sk : Bool} {c x : Nat} {i : Nat} (h : (orb n l sk c i).testBit x = true) : ∀ j, (orb n l sk c (i + j)).testBit x = true
  | 0 => h
  | j + 1 => onK_sub (orb_mono h j) n
/-- how many rounds colour more -/
def numR (n : Nat) (l : List Ed) (c : Nat) : Nat := (rnds n l false c).length - 1
def sumN (n : Nat) (l : List Ed) (c : Nat) : Nat := onesN c + numR n l c
def fulB (n : Nat) (l : List Ed) (c : Nat) : Bool := lastN n l false c == 2 ^ n - 1
theorem gr_num {n : Nat} {l : List Ed} {c : Nat} (hn : n ≤ 8) (hc : c < 2 ^ n) : grL (fstL n l c n) = (numR n l c : Int) := by
  have hl1 := (rnd_len n l false 8 c).1
  have hl2 := rnd_len8 (l := l) (sk := false) hn 8 hc
  have htl := fun j (hj : numR n l c ≤ j) => rnd_tail (l := l) (sk := false) hn 8 hc (by omega) j (by change (rnds n l false c).length - 1 ≤ j at hj; change (rnds n l false c).length ≤ _; omega)
  have hK : numR n l c ≤ n := by show (rndL n l false 8 c).length - 1 ≤ n; omega
  apply Int.le_antisymm
  · refine (grL_le (by omega)).2 fun x hx => ?_
    unfold fstL at hx
    obtain ⟨y, hy, rfl⟩ := List.mem_map.1 hx
    rcases fst_is n l c y n with ⟨h1, _⟩ | ⟨j, h1, h2, h3, h4⟩
    · omega
    · rw [h1]
      refine Classical.byContradiction fun hno => ?_
      have hlt : numR n l c < j := by omega
      have := h4 _ hlt
      rw [htl _ (Nat.le_refl _), ← htl j (by omega), h3] at this
      cases this
  · by_cases h0 : numR n l c = 0
    · rw [h0]; exact grL_pos _
    · obtain ⟨K, hKK⟩ : ∃ K, numR n l c = K + 1 := ⟨numR n l c - 1, by omega⟩
      have hst := rnd_strict (n := n) (l := l) (sk := false) 8 c K (by change (rndL n l false 8 c).length - 1 = K + 1 at hKK; omega)
      have hex : ∃ x, (orb n l false c (K + 1)).testBit x = true ∧ (orb n l false c K).testBit x = false := by
        refine Classical.byContradiction fun hno => hst (Nat.eq_of_testBit_eq fun x => ?_)
        change (orb n l false c (K + 1)).testBit x = _
        cases h1 : (orb n l false c K).testBit x with
        | true => exact orb_mono h1 1
        | false =>
          cases h2 : (orb n l false c (K + 1)).testBit x with
          | false => rfl
          | true => exact absurd ⟨x, h2, h1⟩ hno
      obtain ⟨x, hx1, hx2⟩ := hex
      have hxn : x < n := by
        by_cases e : x < n
        · exact e
        · rw [Nat.testBit_lt_two_pow (Nat.lt_of_lt_of_le (orb_lt hc (K + 1)) (Nat.pow_le_pow_right (by decide) (by omega)))] at hx1; cases hx1
      have hv : fstR n l c x n = ((K + 1 : Nat) : Int) := by
        rcases fst_is n l c x n with ⟨_, h2⟩ | ⟨j, h1, h2, h3, h4⟩
        · have := h2 (K + 1) (by omega); rw [hx1] at this; cases this
        · rw [h1]
          have ha : ¬ K + 1 < j := fun h => by have := h4 (K + 1) h; rw [hx1] at this; cases this
          have hb : ¬ j ≤ K := fun h => by
            have := orb_mono h3 (K - j)
            rw [show j + (K - j) = K from by omega, hx2] at this; cases this
          omega
      rw [hKK, ← hv]
      refine (grL_le (grL_pos _)).1 (Int.le_refl _) _ ?_
      exact List.mem_map.2 ⟨x, List.mem_range.2 hxn, rfl⟩
/-- v is the least sum of the forcing sets in S, and at most n -/
def LsP (n : Nat) (l : List Ed) (S : Nat → Prop) (v : Nat) : Prop := v ≤ n ∧ (v = n ∨ ∃ c, S c ∧ fulB n l c = true ∧ v = sumN n l c) ∧ ∀ c, S c → fulB n l c = true → v ≤ sumN n l c
theorem LsP.start (n : Nat) (l : List Ed) : LsP n l (fun _ => False) n := ⟨Nat.le_refl _, .inl rfl, fun c h => h.elim⟩
theorem LsP.to {n : Nat} {l : List Ed} {S T : Nat → Prop} {v : Nat} (h : LsP n l S v) (hs : ∀ c, S c ↔ T c) : LsP n l T v :=
  ⟨h.1, h.2.1.imp id fun ⟨c, h1, h2⟩ => ⟨c, (hs c).1 h1, h2⟩, fun c hc => h.2.2 c ((hs c).2 hc)⟩
theorem LsP.skip {n : Nat} {l : List Ed} {S T : Nat → Prop} {v d : Nat} (h : LsP n l S v) (hs : ∀ c, T c ↔ S c ∨ c = d) (hd : fulB n l d = false) : LsP n l T v :=
  ⟨h.1, h.2.1.imp id fun ⟨c, h1, h2⟩ => ⟨c, (hs c).2 (.inl h1), h2⟩, fun c hc hf => by
    rcases (hs c).1 hc with h1 | rfl
    · exact h.2.2 c h1 hf
    · rw [hd] at hf; cases hf⟩
theorem LsP.take {n : Nat} {l : List Ed} {S T : Nat → Prop} {v d : Nat} (h : LsP n l S v) (hs : ∀ c, T c ↔ S c ∨ c = d) (hd : fulB n l d = true) : LsP n l T (min v (sumN n l d)) := by
  have h1 := h.1
  refine ⟨by omega, ?_, fun c hc hf => ?_⟩
  · by_cases e : sumN n l d ≤ v
    · exact .inr ⟨d, (hs d).2 (.inr rfl), hd, Nat.min_eq_right e⟩
    · rw [Nat.min_eq_left (by omega)]
      exact h.2.1.imp id fun ⟨c, h1, h2⟩ => ⟨c, (hs c).2 (.inl h1), h2⟩
  · rcases (hs c).1 hc with h1 | rfl
    · have := h.2.2 c h1 hf; omega
    · omega
theorem LsP.same {n : Nat} {l : List Ed} {S : Nat → Prop} {v v' : Nat} (h : LsP n l S v) (h' : LsP n l S v') : v = v' := by
  have key : ∀ {a b : Nat}, LsP n l S a → LsP n l S b → a ≤ b := fun {a b} ha hb => by
    rcases hb.2.1 with e | ⟨c, h1, h2, h3⟩
    · rw [e]; exact ha.1
    · rw [h3]; exact ha.2.2 c h1 h2
  exact Nat.le_antisymm (key h h') (key h' h)
noncomputable def lsN (n : Nat) (l : List Ed) : Nat := Classical.epsilon fun v => LsP n l (fun c => c < 2 ^ n) v
theorem lsN_is {n : Nat} {l : List Ed} {v : Nat} (h : LsP n l (fun c => c < 2 ^ n) v) : lsN n l = v :=
  (Classical.epsilon_spec (p := fun v => LsP n l (fun c => c < 2 ^ n) v) ⟨v, h⟩).same h
theorem take_or {α : Type} {L : List α} {i : Nat} {x : α} (h : L[i]? = some x) (c : α) : c ∈ L.take (i + 1) ↔ c ∈ L.take i ∨ c = x := by
  rw [List.take_add_one, h]
  simp [Option.toList]
end Go.Proofs.Ytjcnngnahijceaa.forc

/- LeastSum: the contract of the program's. -/
namespace Go.Proofs.Ytjcnngnahijceaa.forc
open Go.RowKit P2 words edges ints good adjs fns sets rets covs bags bitsI ups func gridr
set_option linter.unusedVariables false

noncomputable def lsV (s : Int) (l : List Ed) : Int := (lsN s.toNat l : Int)
theorem full_walkS {n : Nat} (hn : n ≤ 8) : IntKind.u64.wrap (IntKind.u64.wrap ((2 : Int) ^ n) - 1) = ((2 ^ n - 1 : Nat) : Int) := by
  have hpn := pow_le hn
  have hp1 : 1 ≤ 2 ^ n := Nat.one_le_two_pow
  rw [wrap_pow hn, IntKind.wrap_u64]
  generalize 2 ^ n = z at *
  omega
set_option maxHeartbeats 8000000 in
set_option maxRecDepth 100000 in
theorem implLsum_any (s : Int) (v : Value) (l : List Ed) (w : World) (h : Edges w v l) (hl : l.length ≤ 1048576) :
    Calls Try.prog 16 #[.agg #[.int .i64 s, v]] w fun e w' => e = .returned (.tuple #[.int .i64 (szG (P2.Good s l) (lsV s l)), .bool (okG (P2.Good s l))]) ∧ Below w.heap.size w w' := by
  obtain ⟨A, c, rfl, -⟩ := h.form
  have H := Lib.hid h
  have b0 : Below w.heap.size w (w.alloc (.cells #[.int .i64 s, .slice A l.length c] 28)) := (Below.refl _ _).alloc (Nat.le_refl _) _
  have HG0 := Lib.hid (Blk.new w 28 #[.int .i64 s, .slice A l.length c])
  obtain ⟨p0, p1, -, -⟩ := HG0.out.two
  have HN := Lib.hid (implIsGraph_any s _ l _ (h.below b0) hl)
  have HB0 := Lib.hid b0
  clear h b0
  by_cases hgd : P2.Good s l
  · rw [goodB_yes hgd] at HN
    rw [szG_yes hgd, okG_yes hgd]
    have HOK := Lib.hid hgd
    have h0 := hgd.1
    have h8 := hgd.2.1
    obtain ⟨n, rfl⟩ : ∃ n : Nat, s = (n : Int) := ⟨s.toNat, by omega⟩
    have hn : n ≤ 8 := by omega
    have HV : Hid (lsV (n : Int) l = (lsN n l : Int)) := by show _ = _; unfold lsV; rw [Int.toNat_natCast]
    rw [HV.out]
    clear hgd HV
    have hfw := full_walkS hn
    go_enter Try.func16, Try.ntmps16
    go_wp2_with fail
    refine HN.out.mono ?_
    rintro e w1 ⟨rfl, b1⟩
    have HE1 := Lib.hid (btrans HB0.out b1)
    have HG1 := Lib.hid (HG0.out.below b1 HG0.out.lt)
    clear p0 p1 b1 HN HB0 HG0
    obtain ⟨p0, p1, -, -⟩ := HG1.out.two
    have HCB := Lib.hid (closedBits_any n (.slice A l.length c) l w1 (H.out.below HE1.out) hl HOK.out hn)
    go_wp2_with fail
    refine HCB.out.mono ?_
    rintro e w2 ⟨A3, c3, rfl, i3, b3⟩
    have HE2 := Lib.hid (btrans HE1.out b3)
    have HG2 := Lib.hid (HG1.out.below b3 HG1.out.lt)
    have HI2 := Lib.hid i3
    clear p0 p1 b3 i3 HCB HE1 HG1
    obtain ⟨p0, p1, -, -⟩ := HG2.out.two
    have HSU := Lib.hid (setsUpTo_own n n w2 hn hn)
    have HSL := Lib.hid (sets_len hn hn)
    have HSM := Lib.hid (fun c => mem_all (n := n) (c := c) hn)
    go_wp2_with fail
    refine HSU.out.mono ?_
    rintro e w4 ⟨A5, c5, rfl, o5, b5⟩
    have HE4 := Lib.hid (btrans HE2.out b5)
    have HG4 := Lib.hid (HG2.out.below b5 HG2.out.lt)
    have HI4 : Hid (Nums w4 (.slice A3 (clos l n).length c3) (clos l n)) := HI2.out.below b5
    have HS4 : Hid (Nums w4 (.slice A5 (setsN n n).length c5) (setsN n n)) := Reads.of_own o5
    have HL0 : Hid (LsP n l (fun c => c ∈ (setsN n n).take 0) n) := (LsP.start n l).to fun c => by simp
    clear p0 p1 b5 o5 HSU HG2 HI2
    generalize setsN n n = S at *
    go_wp2_with fail
    go_loopg [5, 23] S.length (fun g bv iv wr => ∃ i b : Nat, i + g = S.length ∧ bv = .int .i64 (b : Int) ∧ iv = .int .i64 (i : Int) ∧ Hid (LsP n l (fun c => c ∈ S.take i) b) ∧ Below w4.heap.size w4 wr)
    case atStart => exact ⟨0, n, by omega, rfl, rfl, HL0, Below.refl _ _⟩
    case round =>
      clear HL0
      obtain ⟨i, b, hig, rfl, rfl, hls, hB⟩ := hrel
      have HB := Lib.hid hB
      cases gk with
      | zero =>
        obtain rfl : i = S.length := by omega
        have HV : Hid (lsN n l = b) := lsN_is (hls.out.to fun c => by rw [List.take_length]; exact HSM.out c)
        clear hB
        go_wp2_with fail
        go_ret2
        rw [HV.out]
        exact ⟨rfl, btrans HE4.out HB.out⟩
      | succ g2 =>
        have hlt : i < S.length := by omega
        have hlt' : (i : Int) < (S.length : Int) := by omega
        have hsl := HSL.out
        have hbn := hls.out.1
        obtain ⟨d, hd⟩ : ∃ d, S[i]? = some d := ⟨_, List.getElem?_eq_getElem hlt⟩
        have hdn : d < 2 ^ n := (HSM.out d).1 (List.mem_of_getElem? hd)
        obtain ⟨_, _, hf5, hcc⟩ := (show Nums wr (.slice A5 S.length c5) S from HS4.out.below hB).form
        cases hf5
        obtain ⟨g7, o7, rfl, c7⟩ := hcc i d hd
        have HTK := Lib.hid (fun (hf : fulB n l d = true) => hls.out.take (T := fun c => c ∈ S.take (i + 1)) (fun c => take_or hd c) hf)
        have HSK := Lib.hid (fun (hf : fulB n l d = false) => hls.out.skip (T := fun c => c ∈ S.take (i + 1)) (fun c => take_or hd c) hf)
        have HBG := Lib.hid (beginPlain_any n d (.slice A3 (clos l n).length c3) l wr (HI4.out.below hB) HOK.out hn hdn)
        have HRD := Lib.hid (fun (W : World) (hW : Below wr.heap.size wr W) => rounds_any n d false (.slice A3 (clos l n).length c3) l W ((HI4.out.below hB).below hW) HOK.out hn hdn)
        have HCT := Lib.hid (fun (W : World) => count_any d W (Nat.lt_of_lt_of_le hdn (pow_le hn)))
        have HLA := Lib.hid (rnd_last n l false 8 d)
        have hl1 := (rnd_len n l false 8 d).1
        have hl2 := (rnd_len n l false 8 d).2
        have ho8 := ones_le d
        have HLL : Hid ((rnds n l false d)[numR n l d]? = some (lastN n l false d)) := HLA.out
        have HRL : Hid ((rnds n l false d).length = numR n l d + 1) := by
          show (rndL n l false 8 d).length = (rndL n l false 8 d).length - 1 + 1
          omega
        have hm9 : numR n l d ≤ 9 := by show (rndL n l false 8 d).length - 1 ≤ 9; omega
        have HFU : Hid (fulB n l d = (lastN n l false d == 2 ^ n - 1)) := rfl
        have HSN : Hid (sumN n l d = onesN d + numR n l d) := rfl
        have hB2 := btrans HE4.out hB
        have HG5 := Lib.hid (HG4.out.below hB HG4.out.lt)
        clear hd hdn hcc hB HLA hl1 hl2 hls
        generalize hmm : numR n l d = m at *
        generalize onesN d = q at *
        generalize lastN n l false d = y at *
        generalize rnds n l false d = R at *
        have hw1 : IntKind.i64.wrap (((m + 1 : Nat) : Int) - 1) = (m : Int) := by rw [show ((m + 1 : Nat) : Int) - 1 = (m : Int) from by omega]; exact IntWalk.i64_in _ (by omega)
        have hw2 : IntKind.i64.wrap (m : Int) = (m : Int) := IntWalk.i64_in _ (by omega)
        have hw3 : IntKind.i64.wrap ((m : Int) + 1 - 1) = (m : Int) := by rw [show (m : Int) + 1 - 1 = (m : Int) from by omega]; exact hw2
        have hw4 : (0 : Int) ≤ (m : Int) := by omega
        have hw5 : (m : Int) < (m : Int) + 1 := by omega
        have hw6 : IntKind.i64.wrap ((q : Int) + (m : Int)) = ((q + m : Nat) : Int) := by rw [show (q : Int) + (m : Int) = ((q + m : Nat) : Int) from by omega]; exact IntWalk.i64_in _ (by omega)
        have hbq : ((y : Int) == ((2 ^ n - 1 : Nat) : Int)) = (y == 2 ^ n - 1) := by rw [Bool.eq_iff_iff, beq_iff_eq, beq_iff_eq]; omega
        rw [← HFU.out] at hbq
        have HMM := Lib.hid hmm
        clear hmm HFU
        generalize 2 ^ n - 1 = z at *
        rw [HRL.out] at HRD
        go_wp2_with fail
        refine HBG.out.mono ?_
        rintro e w5 ⟨rfl, b5⟩
        have HB5 := Lib.hid b5
        have HRD5 := Lib.hid (HRD.out w5 b5)
        clear b5 HBG HRD
        go_wp2_with fail
        refine HRD5.out.mono ?_
        rintro e w6 ⟨A8, c8, rfl, o8, b8⟩
        have HB6 := Lib.hid (btrans HB5.out b8)
        have HG6 := Lib.hid (HG5.out.below HB6.out HG5.out.lt)
        obtain ⟨p0, p1, -, -⟩ := HG6.out.two
        rcases o8.2 with ⟨h_, h0_⟩ | ⟨gg, cap, cur, hv, hrest⟩
        · cases h0_
        cases hv
        have q0 : w6.cell? ⟨gg, m * 2, none⟩ = some (.int .u64 (y : Int)) := by
          rw [o8.cellAt (m * 2) (by omega)]
          exact (cellsC_at HLL.out).1
        clear hrest o8 b8 HRD5
        cases hf : fulB n l d with
        | false =>
          have HN := Lib.hid (HSK.out hf)
          rw [hf] at hbq
          clear hf
          go_wp2_with fail
          go_quiet (fail)
          go_wp2_with fail
          go_roundg g2
          case measure => omega
          case rel => exact ⟨i + 1, b, by omega, rfl, by go_num, HN, below_drewN (btrans HB.out HB6.out) _⟩
        | true =>
          have HN := Lib.hid (HTK.out hf)
          rw [hf] at hbq
          have HSX : Hid (sumN n l d = q + m) := by show _ = _; rw [HSN.out]
          rw [HSX.out] at HN
          clear hf HSX
          by_cases hle : q + m < b
          · have h1 : ((q + m : Nat) : Int) < (b : Int) := by omega
            have h2 : ¬ (b : Int) < ((q + m : Nat) : Int) := by omega
            have HN2 : Hid (LsP n l (fun c => c ∈ S.take (i + 1)) (q + m)) := by have h_ := HN.out; rw [Nat.min_eq_right (by omega)] at h_; exact h_
            generalize q + m = qm at *
            go_wp2_with fail
            go_quiet (fail)
            go_wp2_with fail
            refine (HCT.out _).mono ?_
            rintro e w' ⟨rfl, rfl⟩
            go_wp2_with fail
            go_roundg g2
            case measure => omega
            case rel => exact ⟨i + 1, qm, by omega, rfl, by go_num, HN2, below_drewN (btrans HB.out HB6.out) _⟩
          · have h1 : ¬ ((q + m : Nat) : Int) < (b : Int) := by omega
            have HN2 : Hid (LsP n l (fun c => c ∈ S.take (i + 1)) b) := by have h_ := HN.out; rw [Nat.min_eq_left (by omega)] at h_; exact h_
            generalize q + m = qm at *
            go_wp2_with fail
            go_quiet (fail)
            go_wp2_with fail
            refine (HCT.out _).mono ?_
            rintro e w' ⟨rfl, rfl⟩
            go_wp2_with fail
            go_roundg g2
            case measure => omega
            case rel => exact ⟨i + 1, b, by omega, rfl, by go_num, HN2, below_drewN (btrans HB.out HB6.out) _⟩
  · rw [goodB_no hgd] at HN
    rw [szG_no hgd, okG_no hgd]
    clear hgd
    go_enter Try.func16, Try.ntmps16
    go_wp2_with fail
    refine HN.out.mono ?_
    rintro e w1 ⟨rfl, b1⟩
    have HE1 := Lib.hid (btrans HB0.out b1)
    clear p0 p1 b1
    go_wp2_with fail
    go_ret2
    exact ⟨rfl, HE1.out⟩
end Go.Proofs.Ytjcnngnahijceaa.forc

/- Forcing: the contract of the program's ForceRounds. -/
namespace Go.Proofs.Ytjcnngnahijceaa.forc
open Go.RowKit P2 words edges ints good adjs fns sets rets covs bags bitsI ups func gridr
set_option linter.unusedVariables false

/-- a row in the making: the first k numbers are there -/
def upT (f : Nat → Int) (n k : Nat) : List Int := (List.range k).map f ++ List.replicate (n - k) 0
theorem upT_len (f : Nat → Int) {n k : Nat} (h : k ≤ n) : (upT f n k).length = n := by simp [upT]; omega
theorem upT_zero (f : Nat → Int) (n : Nat) : upT f n 0 = List.replicate n 0 := by simp [upT]
theorem upT_all (f : Nat → Int) (n : Nat) : upT f n n = (List.range n).map f := by simp [upT]
theorem upT_set (f : Nat → Int) {n k : Nat} (h : k < n) : (upT f n k).set k (f k) = upT f n (k + 1) := by
  unfold upT
  rw [show n - k = (n - (k + 1)) + 1 from by omega, List.replicate_succ, List.set_append_right _ _ (by simp), List.length_map, List.length_range, Nat.sub_self, List.set_cons_zero, List.range_succ, List.map_append, List.append_assoc]
  rfl
theorem cellsI_set9 (l : List Int) (k : Nat) (x : Int) : (cellsI l).set k (.int .i64 x) = cellsI (l.set k x) := by simp [cellsI, List.map_set]
/-- a slice of colourings that reads as a list -/
abbrev Cols (w : World) (v : Value) (sk : Bool) (L : List Nat) : Prop := Reads w 2 v L.length (cellsC sk L)
theorem Cols.form {w : World} {v : Value} {sk : Bool} {L : List Nat} (h : Cols w v sk L) : ∃ A c, v = .slice A L.length c ∧ ∀ (k : Nat) (d : Nat), L[k]? = some d → ∃ g o, A = some ⟨g, o, none⟩ ∧ w.cell? ⟨g, o + k * 2, none⟩ = some (.int .u64 (d : Int)) ∧ w.cell? ⟨g, o + k * 2 + 1, none⟩ = some (.bool sk) := by
  obtain ⟨A, c, e, hx⟩ := h
  refine ⟨A, c, e, fun k x hk => ?_⟩
  obtain ⟨g, o, rfl, _, hj⟩ := hx (by have := (List.getElem?_eq_some_iff.1 hk).1; omega)
  exact ⟨g, o, rfl, hj _ _ (cellsC_at hk).1, hj _ _ (cellsC_at hk).2⟩
structure FnC (w : World) (f : FuncId) (caps : Array Value) (sk : Bool) (xs : List Nat) (p : Nat → Bool) : Prop where
  enter : ∀ (args : Array Value) (W : World), (callFunc f args).run Try.prog W = .ok (.enter f args) W
  call : ∀ W, Below w.heap.size w W → ∀ x ∈ xs, Calls Try.prog f (#[.agg #[.int .u64 (x : Int), .bool sk]] ++ caps) W fun e W' => e = .returned (.bool (p x)) ∧ Below W.heap.size W W'
/-- the rounds, as a list -/
def frdL (s : Int) (l : List Ed) (xs : List Int) : List Int := fstL s.toNat l (codeL xs) s.toNat
end Go.Proofs.Ytjcnngnahijceaa.forc
