/- The contracts of the program's hasNumber, spreadIn, SpreadOf and IsStopping. -/
import Derived.Handy
import Derived.Test.YtgfjdkjoeaghoaaK08
import Derived.Test.YtgfjdkjoeaghoaaK04
import Derived.Test.YtgfjdkjoeaghoaaK02
import Derived.Deep.DeepCutAuto
import Derived.Deep.RegionHeld3
import Derived.Deep.QuietTactic
import Derived.WalkMore
import Derived.Test.YtgfjdkjoeaghoaaK05
import Derived.Test.YtgfjdkjoeaghoaaK03
import Derived.Test.YtgfjdkjoeaghoaaK06
namespace Go.Proofs.Ytgfjdkjoeaghoaa.ups
open Go.RowKit P2 words edges ints good adjs fns sets rets covs bags bitsI func
set_option linter.unusedVariables false

/-- a valid Graph and a number of 1..8 -/
def NumOk (s : Int) (l : List Ed) (k : Int) : Prop := P2.Good s l ∧ 1 ≤ k ∧ k ≤ 8
def SpOk (s : Int) (l : List Ed) (xs : List Int) (r : Int) : Prop := NumOk s l r ∧ SetOk s l xs
noncomputable def sprL (s : Int) (l : List Ed) (xs : List Int) (r : Int) : List Int := ndN (spN s.toNat l r.toNat (codeL xs))
set_option maxHeartbeats 1000000 in
set_option maxRecDepth 100000 in
theorem hasNumber_any (s k : Int) (v : Value) (l : List Ed) (w : World) (h : Edges w v l) (hl : l.length ≤ 1048576) :
    Calls Try.prog 59 #[.agg #[.int .i64 s, v], .int .i64 k] w fun e w' => e = .returned (.bool (okG (NumOk s l k))) ∧ Below w.heap.size w w' := by
  obtain ⟨A, c, rfl, -⟩ := h.form
  have b0 : Below w.heap.size w (w.alloc (.cells #[.int .i64 s, .slice A l.length c] 30)) := (Below.refl _ _).alloc (Nat.le_refl _) _
  obtain ⟨p0, p1, -, -⟩ := (Blk.new w 30 #[.int .i64 s, .slice A l.length c]).two
  have HG := Lib.hid (implIsGraph_any s _ l _ (h.below b0) hl)
  have HB0 := Lib.hid b0
  clear h b0
  by_cases hgd : P2.Good s l
  · rw [goodB_yes hgd] at HG
    by_cases h1 : 1 ≤ k
    · by_cases h2 : k ≤ 8
      · have HV : Hid (okG (NumOk s l k) = true) := okG_yes ⟨hgd, h1, h2⟩
        clear hgd
        go_enter Try.func59, Try.ntmps59
        go_wp2_with fail
        refine HG.out.mono ?_
        rintro e w1 ⟨rfl, b1⟩
        go_wp2_with fail
        go_ret
        exact ⟨ret_bool HV.out.symm, btrans HB0.out b1⟩
      · have HV : Hid (okG (NumOk s l k) = false) := okG_no fun h => h2 h.2.2
        clear hgd
        go_enter Try.func59, Try.ntmps59
        go_wp2_with fail
        refine HG.out.mono ?_
        rintro e w1 ⟨rfl, b1⟩
        go_wp2_with fail
        go_ret
        exact ⟨ret_bool (by rw [HV.out]; exact decide_eq_false (by omega)), btrans HB0.out b1⟩
    · have HV : Hid (okG (NumOk s l k) = false) := okG_no fun h => h1 h.2.1
      clear hgd
      go_enter Try.func59, Try.ntmps59
      go_wp2_with fail
      refine HG.out.mono ?_
      rintro e w1 ⟨rfl, b1⟩
      go_wp2_with fail
      go_ret
      exact ⟨ret_bool HV.out.symm, btrans HB0.out b1⟩
  · rw [goodB_no hgd] at HG
    have HV : Hid (okG (NumOk s l k) = false) := okG_no fun h => hgd h.1
    clear hgd
    go_enter Try.func59, Try.ntmps59
    go_wp2_with fail
    refine HG.out.mono ?_
    rintro e w1 ⟨rfl, b1⟩
    go_wp2_with fail
    go_ret
    exact ⟨ret_bool HV.out.symm, btrans HB0.out b1⟩
theorem code_set {n : Nat} {l : List Ed} {xs : List Int} (h : SetOk (n : Int) l xs) : codeL xs < 2 ^ n := code_lt (m := n) h.2.1
/-- the nodes of a neighborhood that are not in a set -/
def outN (l : List Ed) (n d x : Nat) : Nat := numOf (fun z => (cloB l x).testBit z && !d.testBit z) n
theorem num_bits {n g : Nat} (hg : g < 2 ^ n) : numOf (bitB g) n = g := by
  apply Nat.eq_of_testBit_eq
  intro i
  rw [numOf_bit]
  unfold bitB
  by_cases hi : i < n
  · simp [hi]
  · rw [decide_eq_false hi, Bool.false_and, Nat.testBit_lt_two_pow (Nat.lt_of_lt_of_le hg (Nat.pow_le_pow_right (by decide) (by omega)))]
theorem out_walk {n d x : Nat} {l : List Ed} (hg : P2.Good (n : Int) l) (hn : n ≤ 8) (hd : d < 2 ^ n) (hx : x < n) : bits .andNot .u64 (cloB l x : Int) (d : Int) = (outN l n d x : Int) := by
  have h1 := cloB_lt' hg x (by omega)
  have h2 := andNot_num (cloB l x) (bitB d) n (by omega) hn (fun z => (cloB l x).testBit z && !d.testBit z) (fun z _ => by
    unfold bitB
    by_cases hz : z < n
    · simp [hz]
    · have : (cloB l x).testBit z = false := by
        rw [cloB_bit hg, Bool.or_eq_false_iff]
        refine ⟨by simp; omega, ?_⟩
        cases ha : adj l (x : Int) (z : Int) with
        | false => rfl
        | true => have := (adj_node hg ha).2; omega
      simp [this])
  rw [num_bits hd] at h2
  exact h2
/-- each node of the set has less than r neighbors that are not in it -/
def stoB (l : List Ed) (n r d : Nat) (x : Int) : Bool := decide (r ≤ onesN (outN l n d x.toNat))
def StP (s : Int) (l : List Ed) (xs : List Int) (r : Int) : Prop := SpOk s l xs r ∧ 0 < xs.length ∧ xs.any (stoB l s.toNat r.toNat (codeL xs)) = false
end Go.Proofs.Ytgfjdkjoeaghoaa.ups

/- The contract of the program's LeastSpreading. -/
namespace Go.Proofs.Ytgfjdkjoeaghoaa.ups
open Go.RowKit P2 words edges ints good adjs fns sets rets covs bags bitsI func
set_option linter.unusedVariables false

/-- a set is spreading -/
noncomputable def fullB (n : Nat) (l : List Ed) (r c : Nat) : Bool := spN n l r c == 2 ^ n - 1
theorem full_all (n : Nat) (l : List Ed) (r : Nat) : fullB n l r (2 ^ n - 1) = true := by
  unfold fullB
  rw [spN_is Spr.base (full_stops rfl)]
  simp
noncomputable def lspN (n : Nat) (l : List Ed) (r : Nat) : Nat := bestC (fullB n l r) rkMin n
theorem beq_cast (a b : Nat) : (((a : Nat) : Int) == ((b : Nat) : Int)) = (a == b) := by
  rw [Bool.eq_iff_iff, beq_iff_eq, beq_iff_eq]; omega
end Go.Proofs.Ytgfjdkjoeaghoaa.ups

/- The contract of the program's largestSet: the largest set for which a test holds. -/
namespace Go.Proofs.Ytgfjdkjoeaghoaa.ups
open Go.RowKit P2 words edges ints good adjs fns sets rets covs bitsI func
set_option linter.unusedVariables false

set_option maxHeartbeats 4000000 in
set_option maxRecDepth 100000 in
theorem largestSet_any (n : Nat) (f : FuncId) (caps : Array Value) (p : Nat → Bool) (w : World) (hn : n ≤ 8) (h : FnU w f caps (setsN n n) p) (h0 : p 0 = true) :
    Calls Try.prog 54 #[.int .i64 (n : Int), .func (.func f) #[] caps] w fun e w' => bestC p rkMax n < 2 ^ n ∧ e = .returned (.int .u64 (bestC p rkMax n : Int)) ∧ Below w.heap.size w w' := by
  have HSU := Lib.hid (fun (W : World) => setsUpTo_own n n W hn hn)
  have HCT := Lib.hid (fun (d : Nat) (hd : d < 256) (W : World) => count_any d W hd)
  have HV : Hid (∀ b, MaxTo p (setsN n n) (setsN n n).length b → bestC p rkMax n = b ∧ b < 2 ^ n) := fun b hb => by
    have h1 := max_C hn hb
    exact ⟨bestC_is hn rkMax_inj h1, h1.1⟩
  have H0 := Lib.hid (max_start (P := p) (setsN n n) h0)
  have hsl := sets_len hn hn
  have HMA := Lib.hid (fun (c : Nat) => (mem_all (n := n) (c := c) hn))
  have HML : Hid (∀ k b c, MaxTo p (setsN n n) k b → (setsN n n)[k]? = some c → ¬ onesN b < onesN c → MaxTo p (setsN n n) (k + 1) b) := fun k b c h1 h2 h3 => max_less hn hn h1 h2 h3
  have HPW := Lib.hid (pow_le hn)
  have HP1 : Hid (0 < 2 ^ n) := Nat.pow_pos (by decide)
  have HLT : Hid (∀ k b, MaxTo p (setsN n n) k b → b < 2 ^ n) := fun k b h => by
    rcases h.1 with e | m
    · subst e; exact HP1.out
    · exact (HMA.out b).1 (List.mem_of_mem_take m)
  have hent := h.enter
  have HF := Lib.hid h.call
  clear h h0
  go_enter Try.func54, Try.ntmps54
  go_wp2_with fail
  refine (HSU.out w).mono ?_
  rintro e w2 ⟨A2, c2, rfl, o2, b2⟩
  have HB2 := Lib.hid b2
  have HN2 : Hid (Nums w2 (.slice A2 (setsN n n).length c2) (setsN n n)) := Reads.of_own o2
  clear o2 b2
  generalize setsN n n = L at *
  go_wp2_with fail
  go_loopg [5, 12] L.length (fun g lv iv wr => ∃ (k b : Nat), k + g = L.length ∧ lv = .int .u64 (b : Int) ∧ iv = .int .i64 (k : Int) ∧ Hid (MaxTo p L k b) ∧ Below w2.heap.size w2 wr)
  case atStart => exact ⟨0, 0, by omega, rfl, rfl, H0, Below.refl _ _⟩
  case round =>
    clear H0
    obtain ⟨k, b, hkg, rfl, rfl, hmx, hB⟩ := hrel
    have HB := Lib.hid hB
    have hbn := HLT.out k b hmx.out
    have hb8 : b < 256 := Nat.lt_of_lt_of_le hbn HPW.out
    cases gk with
    | zero =>
      obtain rfl : k = L.length := by omega
      have HVV := Lib.hid (HV.out b hmx.out)
      clear hB hbn
      go_wp2_with fail
      go_ret
      rw [HVV.out.1]
      exact ⟨HVV.out.2, rfl, btrans HB2.out HB.out⟩
    | succ g2 =>
      have hlt : k < L.length := by omega
      have hlt' : (k : Int) < (L.length : Int) := by omega
      obtain ⟨c, hc⟩ : ∃ c, L[k]? = some c := ⟨_, List.getElem?_eq_getElem hlt⟩
      have hcm := List.mem_of_getElem? hc
      have hcn := (HMA.out c).1 hcm
      have hc8 : c < 256 := Nat.lt_of_lt_of_le hcn HPW.out
      obtain ⟨_, _, hf2, hcc⟩ := (show Nums wr (.slice A2 L.length c2) L from HN2.out.below hB).form
      cases hf2
      obtain ⟨g5, o5, rfl, c5⟩ := hcc k c hc
      have HFR := Lib.hid (HF.out wr (btrans HB2.out hB) c hcm)
      have HC1 := Lib.hid (HCT.out c hc8)
      have HC2 := Lib.hid (HCT.out b hb8)
      by_cases ho : onesN b < onesN c
      · have ho' : (onesN b : Int) < (onesN c : Int) := by omega
        cases hf : p c with
        | true =>
          have HN := Lib.hid (max_take hmx.out hc hf ho)
          rw [hf] at HFR
          clear hcc hc hcn hcm hbn hB ho hf
          go_wp2_with fail
          refine (HC1.out _).mono ?_
          rintro e w' ⟨rfl, rfl⟩
          go_wp2_with fail
          refine (HC2.out _).mono ?_
          rintro e w' ⟨rfl, rfl⟩
          go_wp2_with fail
          refine HFR.out.mono ?_
          rintro e w3 ⟨rfl, b3⟩
          have HB3 := Lib.hid (HB.out.trans (b3.mono HB.out.size))
          clear b3 c5
          go_wp2_with fail
          go_roundg g2
          case measure => omega
          case rel => exact ⟨k + 1, c, by omega, rfl, by go_num, HN, HB3.out⟩
        | false =>
          have HN := Lib.hid (max_skip hmx.out hc hf)
          rw [hf] at HFR
          clear hcc hc hcn hcm hbn hB ho hf
          go_wp2_with fail
          refine (HC1.out _).mono ?_
          rintro e w' ⟨rfl, rfl⟩
          go_wp2_with fail
          refine (HC2.out _).mono ?_
          rintro e w' ⟨rfl, rfl⟩
          go_wp2_with fail
          refine HFR.out.mono ?_
          rintro e w3 ⟨rfl, b3⟩
          have HB3 := Lib.hid (HB.out.trans (b3.mono HB.out.size))
          clear b3 c5
          go_wp2_with fail
          go_roundg g2
          case measure => omega
          case rel => exact ⟨k + 1, b, by omega, rfl, by go_num, HN, HB3.out⟩
      · have ho' : ¬ (onesN b : Int) < (onesN c : Int) := by omega
        have HN := Lib.hid (HML.out k b c hmx.out hc ho)
        clear hcc hc hcn hcm hbn hB ho
        go_wp2_with fail
        refine (HC1.out _).mono ?_
        rintro e w' ⟨rfl, rfl⟩
        go_wp2_with fail
        refine (HC2.out _).mono ?_
        rintro e w' ⟨rfl, rfl⟩
        go_wp2_with fail
        clear c5
        go_roundg g2
        case measure => omega
        case rel => exact ⟨k + 1, b, by omega, rfl, by go_num, HN, HB.out⟩
end Go.Proofs.Ytgfjdkjoeaghoaa.ups

/- The contracts of the program's ballsIn, isFar, IsFarSet, largestFar, LargestFarSet and FarBound. -/
namespace Go.Proofs.Ytgfjdkjoeaghoaa.ups
open Go.RowKit P2 words edges ints good adjs fns sets rets covs bags bitsI func
set_option linter.unusedVariables false

set_option maxHeartbeats 4000000 in
set_option maxRecDepth 100000 in
theorem ballsIn_own (n rad : Nat) (v : Value) (l : List Ed) (w : World) (h : Nums w v (clos l n)) (hg : P2.Good (n : Int) l) (hn : n ≤ 8) (hrd : rad ≤ 100) :
    Calls Try.prog 91 #[v, .int .i64 (rad : Int)] w fun e w' => ∃ A c, e = .returned (.slice A n c) ∧ w'.ownsRow w.heap.size 61 1 (.slice A n c) n (cellsU (balN l n rad)) ∧ Below w.heap.size w w' := by
  obtain ⟨A, cc, rfl, -⟩ := h.form
  obtain ⟨i0, hi, hz0, hz1, hz2⟩ := info_parts infoU
  have hlen := clos_len l n
  have HCA := Lib.hid (fun (c : Nat) (hc : c < 256) (W : World) (hW : Below w.heap.size w W) => closedAround_any n c (.slice A (clos l n).length cc) l W (h.below hW) hg hn hc)
  rw [hlen] at HCA ⊢
  have hmk := fun (W : World) => run_make_rowN (P := Try.prog) 56 61 i0 (.int .u64 0) Try.underlying56 hi hz0 .i64 .i64 n n (Nat.le_refl _) (by rw [hz2]; omega) (by omega) W
  have hown := World.ownsRow_lit (base := w.heap.size) (e := 61) (size := 1) w (madeCells #[Value.int .u64 0] (n * 1)) n (Nat.le_refl _) (by unfold maxLen; omega) (size_madeCells _ _)
  rw [toList_madeCells_one, Nat.mul_one, show List.replicate n (Value.int .u64 0) = cellsU (balT l n rad 0) from by simp [balT, cellsU]] at hown
  have HOWN := Lib.hid hown
  have b0 : Below w.heap.size w (w.alloc (.cells (madeCells #[Value.int .u64 0] n) 61)) := (Below.refl _ _).alloc (Nat.le_refl _) _
  have HB0 := Lib.hid b0
  have HALL := Lib.hid (balT_all l n rad)
  clear h hlen hown b0
  go_enter Try.func91, Try.ntmps91
  go_wp2_with fail
  go_loopg [12] n (fun g i wr => ∃ k : Nat, k + g = n ∧ i = .int .i64 (k : Int) ∧ wr.ownsRow w.heap.size 61 1 (.slice (some ⟨w.heap.size, 0, none⟩) n n) n (cellsU (balT l n rad k)) ∧ Below w.heap.size w wr)
  case atStart => exact ⟨0, by omega, rfl, HOWN.out, HB0.out⟩
  case round =>
    clear HOWN HB0
    obtain ⟨k, hkg, rfl, hrow, hB⟩ := hrel
    cases gk with
    | zero =>
      obtain rfl : k = n := by omega
      rw [HALL.out] at hrow
      have HR := Lib.hid hrow
      have HB := Lib.hid hB
      clear hrow hB
      go_wp2_with fail
      go_ret
      exact ⟨_, _, rfl, HR.out, HB.out⟩
    | succ g2 =>
      have hlt : k < n := by omega
      have hlt' : (k : Int) < (n : Int) := by omega
      have hbl0 := balT_len (l := l) (r := rad) (n := n) (k := k) (by omega)
      obtain ⟨u, hu⟩ : ∃ u, (balT l n rad k)[k]? = some u := ⟨_, List.getElem?_eq_getElem (by omega)⟩
      have f0 := hrow.cellAt k (by omega)
      rw [cellsU_at hu] at f0
      have z0 := hrow.frozenAt k
      have hw := wrap_pow (m := k) (by omega)
      have hst := (hrow.stored k (.int .u64 ((2 ^ k : Nat) : Int))).1
      rw [cellsU_set] at hst
      have hst2 : (wr.setCell ⟨w.heap.size, k, none⟩ (.int .u64 ((2 ^ k : Nat) : Int))).ownsRow w.heap.size 61 1 (.slice (some ⟨w.heap.size, 0, none⟩) n n) n (cellsU ((balT l n rad k).set k (bN l n k 0))) := hst
      have HST := Lib.hid hst2
      have HB2 := Lib.hid (hB.setCell (p := ⟨w.heap.size, k, none⟩) (by simp) (.int .u64 ((2 ^ k : Nat) : Int)))
      have HTS := Lib.hid (balT_set (l := l) (r := rad) hlt 0)
      have HTL := Lib.hid (balT_len (l := l) (r := rad) (n := n) (k := k) (by omega))
      clear hst hst2 hrow hB hbl0 hu
      generalize hzz : 2 ^ k = z at *
      clear hzz
      go_wp2_with fail
      clear f0 z0
      generalize wr.setCell ⟨w.heap.size, k, none⟩ (.int .u64 (z : Int)) = w5 at *
      go_loopg [21] rad (fun g iv wr => ∃ j : Nat, j + g = rad ∧ iv = .int .i64 (j : Int) ∧ wr.ownsRow w.heap.size 61 1 (.slice (some ⟨w.heap.size, 0, none⟩) n n) n (cellsU ((balT l n rad k).set k (bN l n k j))) ∧ Below w.heap.size w wr)
      case atStart => exact ⟨0, by omega, rfl, HST.out, HB2.out⟩
      case round =>
        clear HST HB2
        obtain ⟨j, hjg, rfl, hrow, hB⟩ := hrel
        cases gk with
        | zero =>
          obtain rfl : j = rad := by omega
          rw [HTS.out] at hrow
          have HR := Lib.hid hrow
          have HB := Lib.hid hB
          clear hrow hB
          go_wp2_with fail
          go_roundg g2
          case measure => omega
          case rel => exact ⟨k + 1, by omega, by go_num, HR.out, HB.out⟩
        | succ g3 =>
          have hjr' : (j : Int) < (rad : Int) := by omega
          have hbl := bN_lt l hlt hn j
          have hat : ((balT l n rad k).set k (bN l n k j))[k]? = some (bN l n k j) := by rw [List.getElem?_set]; simp [HTL.out, hlt]
          have f0 := hrow.cellAt k (by omega)
          rw [cellsU_at hat] at f0
          have z1 := hrow.frozenAt k
          have HCC := Lib.hid (HCA.out (bN l n k j) hbl wr hB)
          have hst := (hrow.stored k (.int .u64 ((arN l n (bN l n k j) : Nat) : Int))).1
          rw [cellsU_set, List.set_set] at hst
          have hst2 : (wr.setCell ⟨w.heap.size, k, none⟩ (.int .u64 ((arN l n (bN l n k j) : Nat) : Int))).ownsRow w.heap.size 61 1 (.slice (some ⟨w.heap.size, 0, none⟩) n n) n (cellsU ((balT l n rad k).set k (bN l n k (j + 1)))) := hst
          have HST := Lib.hid hst2
          have HB2 := Lib.hid (hB.setCell (p := ⟨w.heap.size, k, none⟩) (by simp) (.int .u64 ((arN l n (bN l n k j) : Nat) : Int)))
          clear hst hst2 hat hrow hB hbl
          generalize arN l n (bN l n k j) = y1 at *
          generalize bN l n k j = y2 at *
          go_wp2_with fail
          refine HCC.out.mono ?_
          rintro e w' ⟨rfl, rfl⟩
          go_wp2_with fail
          go_roundg g3
          case measure => omega
          case rel => exact ⟨j + 1, by omega, by go_num, HST.out, HB2.out⟩
theorem ballsIn_any (n rad : Nat) (v : Value) (l : List Ed) (w : World) (h : Nums w v (clos l n)) (hg : P2.Good (n : Int) l) (hn : n ≤ 8) (hrd : rad ≤ 100) :
    Calls Try.prog 91 #[v, .int .i64 (rad : Int)] w fun e w' => ∃ A c, e = .returned (.slice A (balN l n rad).length c) ∧ Nums w' (.slice A (balN l n rad).length c) (balN l n rad) ∧ Below w.heap.size w w' :=
  (ballsIn_own n rad v l w h hg hn hrd).mono fun _ _ ⟨A, c, h1, h2, h3⟩ => by
    have h4 := bal_len l n rad
    have h5 := Reads.of_own h2
    refine ⟨A, c, by rw [h4]; exact h1, ?_, h3⟩
    unfold Nums
    rw [h4]
    exact h5
theorem bne_cast (a b : Nat) : (((a : Nat) : Int) != ((b : Nat) : Int)) = !(a == b) := by
  show (!(((a : Nat) : Int) == ((b : Nat) : Int))) = _
  rw [beq_cast]
/-- another node of the set is in the ball -/
def farQ (l : List Ed) (n r c : Nat) (x : Int) : Bool := !(bN l n x.toNat r &&& c == 2 ^ x.toNat)
set_option maxHeartbeats 1000000 in
set_option maxRecDepth 100000 in
theorem farClo_any (n r d x b1 b2 : Nat) (v : Value) (l : List Ed) (w : World) (h1 : w.cell? ⟨b1, 0, none⟩ = some v) (h2 : w.cell? ⟨b2, 0, none⟩ = some (.int .u64 (d : Int))) (h : Nums w v (balN l n r)) (hn : n ≤ 8) (hd : d < 256) (hx : x < n) :
    Calls Try.prog 107 #[.int .i64 (x : Int), .pointer (some ⟨b1, 0, none⟩), .pointer (some ⟨b2, 0, none⟩)] w fun e w' => e = .returned (.bool (farQ l n r d (x : Int))) ∧ Below w.heap.size w w' := by
  obtain ⟨A, c, rfl, hcl⟩ := h.form
  obtain ⟨g6, o6, rfl, c6⟩ := hcl x _ (bal_at hx)
  have hlen := bal_len l n r
  rw [hlen] at h1
  have hx' : (x : Int) < (n : Int) := by omega
  have hbl := bN_lt l hx hn r
  have hand := bits_and_u64_nat (bN l n x r) d (by omega) (by omega)
  have hw := wrap_pow (m := x) (by omega)
  have HV : Hid (farQ l n r d (x : Int) = !(bN l n x r &&& d == 2 ^ x)) := by show _ = _; unfold farQ; rw [Int.toNat_natCast]
  rw [HV.out]
  clear hcl h hlen HV hbl
  generalize bN l n x r &&& d = y1 at *
  generalize bN l n x r = y2 at *
  go_enter Try.func107, Try.ntmps107
  go_wp2_with fail
  go_quiet (fail)
  go_wp2_with fail
  go_ret
  exact ⟨ret_bool (by first | exact bne_cast _ _ | (rw [hw]; exact bne_cast _ _)), below_drewN (Below.refl _ _) _⟩
set_option maxHeartbeats 1000000 in
set_option maxRecDepth 100000 in
theorem isFar_any (n r d : Nat) (v : Value) (l : List Ed) (w : World) (h : Nums w v (balN l n r)) (hn : n ≤ 8) (hd : d < 2 ^ n) :
    Calls Try.prog 93 #[v, .int .u64 (d : Int)] w fun e w' => e = .returned (.bool (farB l n r d)) ∧ Below w.heap.size w w' := by
  obtain ⟨A, c, rfl, -⟩ := h.form
  have hmf : ∀ (fn : Fn) (first cap : Array Value) (w : World), (Instr.makeFunc fn first cap).run Try.prog w = .ok (.func fn first cap) w := fun _ _ _ _ => rfl
  have hd8 : d < 256 := Nat.lt_of_lt_of_le hd (pow_le hn)
  have b2 : Below w.heap.size w ((w.alloc (.cells #[.slice A (balN l n r).length c] 56)).alloc (.cells #[.int .u64 (d : Int)] 61)) := ((Below.refl _ _).alloc (Nat.le_refl _) _).alloc (by simp) _
  have g1 := (Blk.new w 56 #[.slice A (balN l n r).length c]).alloc (.cells #[.int .u64 (d : Int)] 61)
  have g2 := Blk.new (w.alloc (.cells #[.slice A (balN l n r).length c] 56)) 61 #[.int .u64 (d : Int)]
  rw [World.size_alloc] at g2
  have p2 := g2.cell 0
  have HND := Lib.hid (nodes_any d ((w.alloc (.cells #[.slice A (balN l n r).length c] 56)).alloc (.cells #[.int .u64 (d : Int)] 61)) (by omega))
  have HCF := Lib.hid (fun (W : World) (hW : Below ((w.alloc (.cells #[.slice A (balN l n r).length c] 56)).alloc (.cells #[.int .u64 (d : Int)] 61)).heap.size ((w.alloc (.cells #[.slice A (balN l n r).length c] 56)).alloc (.cells #[.int .u64 (d : Int)] 61)) W) (u : Value) (hu : Ints W u (ndN d)) =>
    containsFuncI_any u (ndN d) 107 #[.pointer (some ⟨w.heap.size, 0, none⟩), .pointer (some ⟨w.heap.size + 1, 0, none⟩)] (farQ l n r d) W hu (by have := nw_len (bitB d) 8; unfold ndN; omega)
    { enter := fun _ _ => by kernel_rfl
      call := fun W' hW' x hx => by
        rw [← nd_bits hn hd] at hx
        obtain ⟨j, hj, _, rfl⟩ := mem_nw.1 hx
        exact farClo_any n r d j w.heap.size (w.heap.size + 1) _ l W' ((g1.below (btrans hW hW') g1.lt).cell 0) ((g2.below (btrans hW hW') g2.lt).cell 0) (h.below (btrans (btrans b2 hW) hW')) hn hd8 hj })
  have HB2 := Lib.hid b2
  clear h b2 g1 g2
  generalize hwx : (w.alloc (.cells #[.slice A (balN l n r).length c] 56)).alloc (.cells #[.int .u64 (d : Int)] 61) = wx at *
  have HWX := Lib.hid hwx
  clear hwx
  go_enter Try.func93, Try.ntmps93
  go_wp2_with fail
  rw [HWX.out]
  refine HND.out.mono ?_
  rintro e w3 ⟨A4, c4, rfl, o4, b4⟩
  have HC3 := Lib.hid (HCF.out w3 b4 _ (show Ints w3 (.slice A4 (ndN d).length c4) (ndN d) from Reads.of_own o4))
  have HB3 := Lib.hid (btrans HB2.out b4)
  clear o4 b4
  go_wp2_with fail
  refine HC3.out.mono ?_
  rintro e w4 ⟨rfl, b5⟩
  go_wp2_with fail
  go_ret
  exact ⟨rfl, btrans HB3.out b5⟩
def FarOk (s : Int) (l : List Ed) (xs : List Int) (k : Int) : Prop := NumOk s l k ∧ SetOk s l xs
noncomputable def farV (s : Int) (l : List Ed) (xs : List Int) (k : Int) : Bool := okG (FarOk s l xs k ∧ farB l s.toNat (2 * k.toNat - 2) (codeL xs) = true)
set_option maxHeartbeats 1000000 in
set_option maxRecDepth 100000 in
theorem lfClo_any (n r d b1 : Nat) (v : Value) (l : List Ed) (w : World) (h1 : w.cell? ⟨b1, 0, none⟩ = some v) (h : Nums w v (balN l n r)) (hn : n ≤ 8) (hd : d < 2 ^ n) :
    Calls Try.prog 92 #[.int .u64 (d : Int), .pointer (some ⟨b1, 0, none⟩)] w fun e w' => e = .returned (.bool (farB l n r d)) ∧ Below w.heap.size w w' := by
  obtain ⟨A, c, rfl, -⟩ := h.form
  have HF := Lib.hid (isFar_any n r d _ l w h hn hd)
  clear h
  go_enter Try.func92, Try.ntmps92
  go_wp2_with fail
  refine HF.out.mono ?_
  rintro e w1 ⟨rfl, b1⟩
  go_wp2_with fail
  go_ret
  exact ⟨rfl, b1⟩
set_option maxHeartbeats 4000000 in
set_option maxRecDepth 100000 in
theorem largestFar_any (n kk : Nat) (v : Value) (l : List Ed) (w : World) (h : Nums w v (clos l n)) (hg : P2.Good (n : Int) l) (hn : n ≤ 8) (hk1 : 1 ≤ kk) (hk8 : kk ≤ 8) :
    Calls Try.prog 60 #[v, .int .i64 (kk : Int)] w fun e w' => lfN l n kk < 2 ^ n ∧ e = .returned (.int .u64 (lfN l n kk : Int)) ∧ Below w.heap.size w w' := by
  obtain ⟨A, cc, rfl, -⟩ := h.form
  have hmf : ∀ (fn : Fn) (first cap : Array Value) (w : World), (Instr.makeFunc fn first cap).run Try.prog w = .ok (.func fn first cap) w := fun _ _ _ _ => rfl
  have hlen := clos_len l n
  obtain ⟨R, hR⟩ : ∃ R : Nat, R = 2 * kk - 2 := ⟨_, rfl⟩
  have hRi : (2 : Int) * (kk : Int) - 2 = (R : Int) := by omega
  have HBL := Lib.hid (ballsIn_any n R (.slice A (clos l n).length cc) l w h hg hn (by omega))
  rw [hlen] at HBL ⊢
  have HV : Hid (lfN l n kk = bestC (farB l n R) rkMax n) := by show _ = _; unfold lfN; rw [← hR]
  clear h hlen hR
  go_enter Try.func60, Try.ntmps60
  go_wp2_with fail
  refine HBL.out.mono ?_
  rintro e w1 ⟨A1, c1, rfl, i1, b1⟩
  have d1 : Below w.heap.size w (w1.alloc (.cells #[.slice A1 (balN l n R).length c1] 56)) := b1.alloc b1.size _
  have HB1 := Lib.hid d1
  have HK1 := Lib.hid (Blk.new w1 56 #[.slice A1 (balN l n R).length c1])
  have HI1 : Hid (Nums (w1.alloc (.cells #[.slice A1 (balN l n R).length c1] 56)) (.slice A1 (balN l n R).length c1) (balN l n R)) := i1.below ((Below.refl _ _).alloc (Nat.le_refl _) _)
  have HFS := Lib.hid (largestSet_any n 92 #[.pointer (some ⟨w1.heap.size, 0, none⟩)] (farB l n R) (w1.alloc (.cells #[.slice A1 (balN l n R).length c1] 56)) hn
    { enter := fun _ _ => by kernel_rfl
      call := fun W hW x hx => lfClo_any n R x w1.heap.size _ l W ((HK1.out.below hW HK1.out.lt).cell 0) (HI1.out.below hW) hn ((mem_all hn).1 hx) } (far_zero l n R))
  clear i1 b1 d1
  go_wp2_with fail
  refine HFS.out.mono ?_
  rintro e w2 ⟨hlt, rfl, b2⟩
  go_wp2_with fail
  go_ret
  rw [HV.out]
  exact ⟨hlt, rfl, btrans HB1.out b2⟩
set_option maxHeartbeats 1000000 in
set_option maxRecDepth 100000 in
theorem implLf_any (s k : Int) (v : Value) (l : List Ed) (w : World) (h : Edges w v l) (hl : l.length ≤ 1048576) :
    Calls Try.prog 25 #[.agg #[.int .i64 s, v], .int .i64 k] w (RetI w (NumOk s l k) (ndN (lfN l s.toNat k.toNat))) := by
  obtain ⟨A, c, rfl, -⟩ := h.form
  have H := Lib.hid h
  have b0 : Below w.heap.size w (w.alloc (.cells #[.int .i64 s, .slice A l.length c] 30)) := (Below.refl _ _).alloc (Nat.le_refl _) _
  have g0 := Blk.new w 30 #[.int .i64 s, .slice A l.length c]
  obtain ⟨p0, p1, -, -⟩ := g0.two
  have HN := Lib.hid (hasNumber_any s k _ l _ (h.below b0) hl)
  have HB0 := Lib.hid b0
  have HG0 := Lib.hid g0
  clear h b0 g0
  by_cases hnk : NumOk s l k
  · rw [okG_yes hnk] at HN
    have HOK := Lib.hid hnk
    have h0 := hnk.1.1
    have h8 := hnk.1.2.1
    obtain ⟨n, rfl⟩ : ∃ n : Nat, s = (n : Int) := ⟨s.toNat, by omega⟩
    have hn : n ≤ 8 := by omega
    obtain ⟨kk, rfl⟩ : ∃ kk : Nat, k = (kk : Int) := ⟨k.toNat, by have := hnk.2.1; omega⟩
    have hk1 : 1 ≤ kk := by have := hnk.2.1; omega
    have hk8 : kk ≤ 8 := by have := hnk.2.2; omega
    rw [Int.toNat_natCast, Int.toNat_natCast]
    clear hnk
    go_enter Try.func25, Try.ntmps25
    go_wp2_with fail
    refine HN.out.mono ?_
    rintro e w1 ⟨rfl, b1⟩
    have HE1 := Lib.hid (btrans HB0.out b1)
    have HG1 := Lib.hid (HG0.out.below b1 HG0.out.lt)
    clear p0 p1 b1 HN HB0 HG0
    obtain ⟨p0, p1, -, -⟩ := HG1.out.two
    have HCB := Lib.hid (closedBits_any n (.slice A l.length c) l w1 (H.out.below HE1.out) hl HOK.out.1 hn)
    go_wp2_with fail
    refine HCB.out.mono ?_
    rintro e w2 ⟨A3, c3, rfl, i3, b3⟩
    have HE2 := Lib.hid (btrans HE1.out b3)
    have HLF := Lib.hid (largestFar_any n kk _ l w2 i3 HOK.out.1 hn hk1 hk8)
    clear p0 p1 b3 i3 HCB
    go_wp2_with fail
    refine HLF.out.mono ?_
    rintro e w4 ⟨hlt, rfl, b4⟩
    have HE4 := Lib.hid (btrans HE2.out b4)
    have hy64 : lfN l n kk < 18446744073709551616 := Nat.lt_of_lt_of_le hlt (Nat.le_trans (pow_le hn) (by decide))
    have HND := Lib.hid (nodes_any (lfN l n kk) w4 hy64)
    clear hlt b4
    go_wp2_with fail
    refine HND.out.mono ?_
    rintro e w5 ⟨A8, c8, rfl, o8, b8⟩
    go_wp2_with fail
    go_ret2
    exact RetI.yes HOK.out (own_base o8 HE4.out.size) (btrans HE4.out b8)
  · rw [okG_no hnk] at HN
    have HNO := Lib.hid hnk
    clear hnk
    go_enter Try.func25, Try.ntmps25
    go_wp2_with fail
    refine HN.out.mono ?_
    rintro e w1 ⟨rfl, b1⟩
    have HE1 := Lib.hid (btrans HB0.out b1)
    clear p0 p1 b1
    go_wp2_with fail
    go_ret2
    exact RetI.nil HNO.out HE1.out
end Go.Proofs.Ytgfjdkjoeaghoaa.ups

/- The contracts of the model's l3Sign and l1Own. -/
namespace Go.Proofs.Ytgfjdkjoeaghoaa.times
open Go.RowKit P2 words edges ints good adjs fns sets rets apps
set_option linter.unusedVariables false

end Go.Proofs.Ytgfjdkjoeaghoaa.times

/- The contracts of the model's l8Number, l8Inside, l8Spread, SpreadOf and IsStopping. -/
namespace Go.Proofs.Ytgfjdkjoeaghoaa.ups
open Go.RowKit P2 words edges ints good adjs fns sets rets covs bags balls bitsI func
set_option linter.unusedVariables false

theorem l8Number_any (k : Int) (w : World) : Calls Try.prog 57 #[.int .i64 k] w fun e w' => e = .returned (.bool (inB k 1 8)) ∧ w = w' := by
  have HI := Lib.hid (l1In_any k 1 8 w)
  go_enter Try.func57, Try.ntmps57
  go_wp2_with fail
  refine HI.out.mono ?_
  rintro e w' ⟨rfl, rfl⟩
  go_wp2_with fail
  go_ret
  exact ⟨rfl, rfl⟩
theorem inB_num {k : Int} (h : 1 ≤ k ∧ k ≤ 8) : inB k 1 8 = true := by unfold inB; exact decide_eq_true h
theorem inB_non {k : Int} (h : ¬ (1 ≤ k ∧ k ≤ 8)) : inB k 1 8 = false := by unfold inB; exact decide_eq_false h
/-- how many of the first k numbers of a list are neighbors -/
def inK (l : List Ed) (xs : List Int) (x : Int) (k : Nat) : Nat := ((xs.take k).filter fun y => adj l y x).length
theorem inK_yes {l : List Ed} {xs : List Int} {x y : Int} {k : Nat} (h : xs[k]? = some y) (ha : adj l y x = true) : inK l xs x (k + 1) = inK l xs x k + 1 := by
  unfold inK
  rw [List.take_add_one, h, List.filter_append, List.length_append]
  simp [ha]
theorem inK_no {l : List Ed} {xs : List Int} {x y : Int} {k : Nat} (h : xs[k]? = some y) (ha : adj l y x = false) : inK l xs x (k + 1) = inK l xs x k := by
  unfold inK
  rw [List.take_add_one, h, List.filter_append, List.length_append]
  simp [ha]
theorem inK_len (l : List Ed) (xs : List Int) (x : Int) (k : Nat) : inK l xs x k ≤ k := by
  unfold inK
  exact Nat.le_trans (List.length_filter_le _ _) (by rw [List.length_take]; omega)
def inC (l : List Ed) (xs : List Int) (x : Int) : Nat := (xs.filter fun y => adj l y x).length
theorem inK_all (l : List Ed) (xs : List Int) (x : Int) : inK l xs x xs.length = inC l xs x := by unfold inK inC; rw [List.take_length]
theorem inC_nw (l : List Ed) (d n x : Nat) : inC l (nw (bitB d) n) (x : Int) = (nw (fun y => bitB d y && adj l (y : Int) (x : Int)) n).length := by
  unfold inC nw
  rw [List.filter_map, List.length_map, List.length_map, List.filter_filter]
  congr 1
  exact List.filter_congr fun z _ => by simp [Bool.and_comm]
theorem put_bits {n d x : Nat} {L : List Int} (h : PutI (nw (bitB d) n) (x : Int) L) (hx : x < n) : L = nw (bitB (d ||| 2 ^ x)) n :=
  asc_ext h.1 (nw_asc _ _) fun e => by
    rw [h.2.1 e, mem_nw, mem_nw]
    constructor
    · rintro (rfl | ⟨j, hj, hp, rfl⟩)
      · exact ⟨x, hx, by unfold bitB; rw [put_bit]; simp, rfl⟩
      · exact ⟨j, hj, by unfold bitB at hp ⊢; rw [put_bit, hp]; rfl, rfl⟩
    · rintro ⟨j, hj, hp, rfl⟩
      unfold bitB at hp
      rw [put_bit, Bool.or_eq_true, decide_eq_true_iff] at hp
      rcases hp with hp | rfl
      · exact .inr ⟨j, hj, hp, rfl⟩
      · exact .inl rfl
/-- what holds in a round behind the first x nodes -/
def SprR (n : Nat) (l : List Ed) (r R d x : Nat) : Prop := R + 1 ≤ onesN d ∨ ((∀ j, j < x → ¬ AddS n l r d j) ∧ (Stops n l r d ∨ R ≤ onesN d))
def SprO (n : Nat) (l : List Ed) (r R d : Nat) : Prop := Stops n l r d ∨ R ≤ onesN d
theorem SprO.start {n : Nat} {l : List Ed} {r R d : Nat} (h : SprO n l r R d) : SprR n l r R d 0 := .inr ⟨fun j hj => by omega, h⟩
theorem SprR.done {n : Nat} {l : List Ed} {r R d : Nat} (h : SprR n l r R d n) : SprO n l r (R + 1) d := by
  rcases h with h | ⟨h, _⟩
  · exact .inr h
  · exact .inl fun x hx => h x hx.1 hx
theorem SprR.keep {n : Nat} {l : List Ed} {r R d x : Nat} (h : SprR n l r R d x) (hx : ¬ AddS n l r d x) : SprR n l r R d (x + 1) := by
  rcases h with h | ⟨h, h2⟩
  · exact .inl h
  · refine .inr ⟨fun j hj => ?_, h2⟩
    by_cases e : j = x
    · subst e; exact hx
    · exact h j (by omega)
theorem SprR.add {n : Nat} {l : List Ed} {r R d x : Nat} (h : SprR n l r R d x) (hx : AddS n l r d x) (hd : d < 256) (hn : n ≤ 8) : SprR n l r R (d ||| 2 ^ x) (x + 1) := by
  have ho := ones_put hd (show x < 8 by have := hx.1; omega) hx.2.1
  refine .inl ?_
  rcases h with h | ⟨_, h | h⟩
  · omega
  · exact absurd hx (h x)
  · omega
theorem SprO.all {n : Nat} {l : List Ed} {r d : Nat} (h : SprO n l r n d) (hn : n ≤ 8) (hd : d < 2 ^ n) : Stops n l r d := by
  rcases h with h | h
  · exact h
  · have hd8 := Nat.lt_of_lt_of_le hd (pow_le hn)
    have h1 := ones_top ⟨n, by omega⟩ ⟨d, hd8⟩ hd
    have h2 := (ones_full ⟨n, by omega⟩ ⟨d, hd8⟩ hd).1 (by simp only at h1 ⊢; omega)
    exact full_stops h2
theorem setOk_code {n : Nat} {l : List Ed} {xs : List Int} (h : SetOk (n : Int) l xs) : xs = nw (bitB (codeL xs)) n := set_code h.2.2 h.2.1
theorem out_code {n : Nat} {l : List Ed} {d x : Nat} (hg : P2.Good (n : Int) l) (hn : n ≤ 8) (hx : d.testBit x = true) : (nw (fun y => adj l (x : Int) (y : Int)) n).length = inC l (nw (bitB d) n) (x : Int) + onesN (outN l n d x) := by
  rw [inC_nw]
  exact out_len hg hn hx _ fun z _ => rfl
theorem spr_len (s : Int) (l : List Ed) (xs : List Int) (r : Int) : (inG (SpOk s l xs r) (sprL s l xs r)).length ≤ 1048576 := inG_len fun _ => by
  unfold sprL ndN
  have := nw_len (bitB (spN s.toNat l r.toNat (codeL xs))) 8
  omega
end Go.Proofs.Ytgfjdkjoeaghoaa.ups
