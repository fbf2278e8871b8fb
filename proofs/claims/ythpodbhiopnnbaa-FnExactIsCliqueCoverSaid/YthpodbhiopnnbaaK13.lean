/- Guards: dominating, independent sets and cliques: mathematics. -/
import Derived.Test.YthpodbhiopnnbaaK08
import Derived.Test.YthpodbhiopnnbaaK09
import Derived.Test.YthpodbhiopnnbaaK12
import Derived.Handy
import Derived.Test.YthpodbhiopnnbaaK04
import Derived.Deep.DeepCutAuto
import Derived.Deep.RegionHeld3
import Derived.Deep.QuietTactic
namespace Go.Proofs.Ythpodbhiopnnbaa.ups
open Go.RowKit P2 words edges ints good adjs fns sets rets covs bitsI bags costs reach
set_option linter.unusedVariables false

/-- a set is dominating -/
def domB (n : Nat) (l : List Ed) (c : Nat) : Bool := arN l n c == 2 ^ n - 1
theorem inC_pos {l : List Ed} {xs : List Int} {x : Int} : inC l xs x ≠ 0 ↔ ∃ y ∈ xs, adj l y x = true := by
  unfold inC
  rw [Ne, List.length_eq_zero_iff, List.filter_eq_nil_iff]
  constructor
  · intro h
    simp only [Classical.not_forall] at h
    obtain ⟨y, hy, hp⟩ := h
    exact ⟨y, hy, by simpa using hp⟩
  · rintro ⟨y, hy, hp⟩ h
    exact h y hy hp
/-- a node is in the set, or one of its neighbors is -/
def domX (l : List Ed) (xs : List Int) (x : Int) : Bool := decide (x ∈ xs) || !(inC l xs x == 0)
theorem domX_iff {l : List Ed} {xs : List Int} {x : Int} : domX l xs x = true ↔ x ∈ xs ∨ ∃ y ∈ xs, adj l y x = true := by
  unfold domX
  rw [Bool.or_eq_true, decide_eq_true_iff, Bool.not_eq_true', beq_eq_false_iff_ne, inC_pos]
theorem dom_all {n : Nat} {l : List Ed} {xs : List Int} (hr : ∀ x ∈ xs, 0 ≤ x ∧ x < (n : Int)) : domB n l (codeL xs) = true ↔ ∀ x : Nat, x < n → domX l xs (x : Int) = true := by
  unfold domB
  rw [beq_iff_eq]
  have hbit : ∀ y, (arN l n (codeL xs)).testBit y = true ↔ y < n ∧ domX l xs (y : Int) = true := by
    intro y
    unfold arN
    rw [numOf_bit, Bool.and_eq_true, decide_eq_true_iff, arB_iff, domX_iff]
    constructor
    · rintro ⟨h1, x, hx, hc, h2⟩
      rw [code_bit (fun z hz => (hr z hz).1), decide_eq_true_iff] at hc
      rcases h2 with h2 | h2
      · subst h2; exact ⟨h1, .inl hc⟩
      · exact ⟨h1, .inr ⟨_, hc, h2⟩⟩
    · rintro ⟨h1, h2 | ⟨x, hx, h2⟩⟩
      · exact ⟨h1, y, h1, by rw [code_bit (fun z hz => (hr z hz).1), decide_eq_true_iff]; exact h2, .inl rfl⟩
      · obtain ⟨h3, h4⟩ := hr x hx
        refine ⟨h1, x.toNat, by omega, ?_, .inr ?_⟩
        · rw [code_bit (fun z hz => (hr z hz).1), decide_eq_true_iff, Int.toNat_of_nonneg h3]; exact hx
        · rw [Int.toNat_of_nonneg h3]; exact h2
  constructor
  · intro h x hx
    refine ((hbit x).1 ?_).2
    rw [h, Nat.testBit_two_pow_sub_one, decide_eq_true_iff]; exact hx
  · intro h
    apply Nat.eq_of_testBit_eq
    intro y
    rw [Nat.testBit_two_pow_sub_one, Bool.eq_iff_iff, hbit, decide_eq_true_iff]
    exact ⟨fun h => h.1, fun hy => ⟨hy, h y hy⟩⟩
/-- the first k nodes are dominated -/
def DomK (l : List Ed) (xs : List Int) (k : Nat) : Prop := ∀ x : Nat, x < k → domX l xs (x : Int) = true
theorem DomK.next {l : List Ed} {xs : List Int} {k : Nat} (h : DomK l xs k) (hk : domX l xs (k : Int) = true) : DomK l xs (k + 1) := fun x hx => by
  by_cases e : x = k
  · subst e; exact hk
  · exact h x (by omega)
theorem dom_no {n k : Nat} {l : List Ed} {xs : List Int} (hr : ∀ x ∈ xs, 0 ≤ x ∧ x < (n : Int)) (hk : k < n) (h : domX l xs (k : Int) = false) : domB n l (codeL xs) = false := by
  rw [Bool.eq_false_iff]
  intro h2
  have := (dom_all hr).1 h2 k hk
  rw [h] at this; cases this
theorem dom_full (n : Nat) (l : List Ed) : domB n l (2 ^ n - 1) = true := by
  rw [← code_all, dom_all (fun x hx => mem_allN.1 hx)]
  intro x hx
  rw [domX_iff]
  exact .inl (mem_allN.2 ⟨by omega, by omega⟩)
/-- the neighborhoods with the nodes are the balls of one step -/
theorem clos_bal {n : Nat} {l : List Ed} (hg : P2.Good (n : Int) l) : clos l n = balN l n 1 := by
  unfold clos balN
  refine List.map_congr_left fun x hx => ?_
  have hx := List.mem_range.1 hx
  apply Nat.eq_of_testBit_eq
  intro z
  rw [cloB_bit hg, Bool.eq_iff_iff, bN_iff hx, Bool.or_eq_true, beq_iff_eq]
  show _ ↔ z < n ∧ ∃ y, y < n ∧ x = y ∧ (y = z ∨ adj l (y : Int) (z : Int) = true)
  constructor
  · rintro (rfl | h)
    · exact ⟨hx, x, hx, rfl, .inl rfl⟩
    · have := (adj_node hg h).2
      exact ⟨by omega, x, hx, rfl, .inr h⟩
  · rintro ⟨_, y, _, rfl, h⟩
    exact h
/-- any two numbers of a list are neighbors, or none are -/
def AlkL (l : List Ed) (xs : List Int) (b : Bool) : Prop := ∀ (i k : Nat) (x y : Int), k < i → xs[i]? = some x → xs[k]? = some y → adj l x y = b
def AlkA (l : List Ed) (xs : List Int) (b : Bool) (m : Nat) : Prop := ∀ (i k : Nat) (x y : Int), i < m → k < i → xs[i]? = some x → xs[k]? = some y → adj l x y = b
def AlkB (l : List Ed) (xs : List Int) (b : Bool) (m j : Nat) : Prop := AlkA l xs b m ∧ ∀ (k : Nat) (x y : Int), k < j → k < m → xs[m]? = some x → xs[k]? = some y → adj l x y = b
theorem AlkB.next {l : List Ed} {xs : List Int} {b : Bool} {m j : Nat} {x y : Int} (h : AlkB l xs b m j) (hx : xs[m]? = some x) (hy : xs[j]? = some y) (ha : adj l x y = b) : AlkB l xs b m (j + 1) :=
  ⟨h.1, fun k x' y' h1 h2 h3 h4 => by
    by_cases e : k = j
    · subst e; rw [hx] at h3; rw [hy] at h4; cases h3; cases h4; exact ha
    · exact h.2 k x' y' (by omega) h2 h3 h4⟩
theorem AlkB.all {l : List Ed} {xs : List Int} {b : Bool} {m j : Nat} (h : AlkB l xs b m j) (hj : m ≤ j) : AlkA l xs b (m + 1) := fun i k x y h1 h2 h3 h4 => by
  by_cases e : i = m
  · subst e; exact h.2 k x y (by omega) h2 h3 h4
  · exact h.1 i k x y (by omega) h2 h3 h4
theorem AlkA.done {l : List Ed} {xs : List Int} {b : Bool} {m : Nat} (h : AlkA l xs b m) (hm : xs.length ≤ m) : AlkL l xs b := fun i k x y h1 h2 h3 =>
  h i k x y (by have := (List.getElem?_eq_some_iff.1 h2).1; omega) h1 h2 h3
theorem alk_clq {l : List Ed} {xs : List Int} : AlkL l xs true ↔ ClqL l xs :=
  ⟨fun h a b x y h1 h2 h3 => by rw [adj_comm]; exact h b a y x h1 h3 h2, fun h i k x y h1 h2 h3 => by rw [adj_comm]; exact h k i y x h1 h3 h2⟩
theorem alk_far {n c : Nat} {l : List Ed} (hg : P2.Good (n : Int) l) (hn : n ≤ 8) (hc : c < 2 ^ n) : okG (AlkL l (nw (bitB c) n) false) = farB l n 1 c := by
  rw [Bool.eq_iff_iff, okG_iff, far_iff hg hn hc]
  have hasc := List.pairwise_iff_getElem.1 (nw_asc (bitB c) n)
  constructor
  · intro h x y hx hyx hcx hcy hw
    obtain ⟨i, hi⟩ := List.getElem?_of_mem (mem_nw.2 ⟨x, hx, (show bitB c x = true from hcx), rfl⟩)
    obtain ⟨k, hk⟩ := List.getElem?_of_mem (mem_nw.2 ⟨y, (show y < n by omega), (show bitB c y = true from hcy), rfl⟩)
    have hki : k < i := by
      rcases Nat.lt_trichotomy k i with e | e | e
      · exact e
      · subst e; rw [hi] at hk; cases hk; omega
      · obtain ⟨a1, e1⟩ := List.getElem?_eq_some_iff.1 hi
        obtain ⟨a2, e2⟩ := List.getElem?_eq_some_iff.1 hk
        have := hasc i k a1 a2 e
        omega
    have h1 := h i k _ _ hki hi hk
    obtain ⟨z, _, hz, h2⟩ := hw
    have hz : x = z := hz
    subst hz
    rcases h2 with h2 | h2
    · omega
    · rw [h1] at h2; cases h2
  · intro h i k x y h1 h2 h3
    obtain ⟨x, rfl, hx, hcx⟩ := nw_at h2
    obtain ⟨y, rfl, hy, hcy⟩ := nw_at h3
    obtain ⟨a1, e1⟩ := List.getElem?_eq_some_iff.1 h2
    obtain ⟨a2, e2⟩ := List.getElem?_eq_some_iff.1 h3
    have := hasc k i a2 a1 h1
    rw [Bool.eq_false_iff]
    intro ha
    exact h x y hx (by omega) hcx hcy ⟨x, hx, rfl, .inr ha⟩
end Go.Proofs.Ythpodbhiopnnbaa.ups

/- The contract of the program's firstSet: the best set for which a test holds. -/
namespace Go.Proofs.Ythpodbhiopnnbaa.ups
open Go.RowKit P2 words edges ints good adjs fns sets rets covs bitsI func
set_option linter.unusedVariables false

theorem FnU.on {w w' : World} {f : FuncId} {caps : Array Value} {xs : List Nat} {p : Nat → Bool} (h : FnU w f caps xs p) (hb : Below w.heap.size w w') : FnU w' f caps xs p :=
  { enter := h.enter, call := fun W hW x hx => h.call W (btrans hb hW) x hx }
set_option maxHeartbeats 2000000 in
set_option maxRecDepth 100000 in
theorem firstSet_any (n : Nat) (f : FuncId) (caps : Array Value) (p : Nat → Bool) (w : World) (hn : n ≤ 8) (h : FnU w f caps (setsN n n) p) (ha : p (2 ^ n - 1) = true) :
    Calls Try.prog 48 #[.int .i64 (n : Int), .func (.func f) #[] caps] w fun e w' => bestC p rkMin n < 2 ^ n ∧ e = .returned (.int .u64 (bestC p rkMin n : Int)) ∧ Below w.heap.size w w' := by
  have HSU := Lib.hid (setsUpTo_own n n w hn hn)
  have HF := Lib.hid (fun (W : World) (hW : Below w.heap.size w W) (v : Value) (hv : Nums W v (setsN n n)) => indexFuncU_any v (setsN n n) f caps p W hv (by have := sets_len hn hn; omega) (FnU.on h hW))
  obtain ⟨i, y, hi, hy, hp, hf⟩ := idxF_some ((mem_all hn).2 (show 2 ^ n - 1 < 2 ^ n from by have := Nat.pow_pos (n := n) (show 0 < 2 by decide); omega)) ha
  have HV : Hid (bestC p rkMin n = y) := bestC_is hn rkMin_inj (min_C hn hy hp hf)
  have HYN : Hid (y < 2 ^ n) := (mem_all hn).1 (List.mem_of_getElem? hy)
  have hil : (i : Int) < ((setsN n n).length : Int) := by have := (List.getElem?_eq_some_iff.1 hy).1; omega
  have HY := Lib.hid hy
  have HHI := Lib.hid hi
  rw [HV.out]
  clear h ha hi hy hp hf HV
  generalize setsN n n = S at *
  go_enter Try.func48, Try.ntmps48
  go_wp2_with fail
  refine HSU.out.mono ?_
  rintro e w4 ⟨A5, c5, rfl, o5, b5⟩
  have HB4 := Lib.hid b5
  have HN5 : Hid (Nums w4 (.slice A5 S.length c5) S) := Reads.of_own o5
  have HIX := Lib.hid (HF.out w4 b5 _ HN5.out)
  rw [HHI.out] at HIX
  clear o5 b5 HF HSU
  go_wp2_with fail
  refine HIX.out.mono ?_
  rintro e w6 ⟨rfl, b6⟩
  have HB6 := Lib.hid (btrans HB4.out b6)
  obtain ⟨_, _, hf5, hcc⟩ := (show Nums w6 (.slice A5 S.length c5) S from HN5.out.below b6).form
  cases hf5
  obtain ⟨g7, o7, rfl, c7⟩ := hcc i y HY.out
  clear hcc b6
  go_wp2_with fail
  go_ret
  exact ⟨HYN.out, rfl, HB6.out⟩
end Go.Proofs.Ythpodbhiopnnbaa.ups

/- The contract of the program's largestSet: the largest set for which a test holds. -/
namespace Go.Proofs.Ythpodbhiopnnbaa.ups
open Go.RowKit P2 words edges ints good adjs fns sets rets covs bitsI func
set_option linter.unusedVariables false

set_option maxHeartbeats 4000000 in
set_option maxRecDepth 100000 in
theorem largestSet_any (n : Nat) (f : FuncId) (caps : Array Value) (p : Nat → Bool) (w : World) (hn : n ≤ 8) (h : FnU w f caps (setsN n n) p) (h0 : p 0 = true) :
    Calls Try.prog 53 #[.int .i64 (n : Int), .func (.func f) #[] caps] w fun e w' => bestC p rkMax n < 2 ^ n ∧ e = .returned (.int .u64 (bestC p rkMax n : Int)) ∧ Below w.heap.size w w' := by
  have HSU := Lib.hid (fun (W : World) => setsUpTo_own n n W hn hn)
  have HCT := Lib.hid (fun (d : Nat) (hd : d < 256) (W : World) => count_any d W hd)
  have HV : Hid (∀ b, MaxTo p (setsN n n) (setsN n n).length b → bestC p rkMax n = b ∧ b < 2 ^ n) := fun b hb => by
    have h1 := max_C hn hb
    exact ⟨bestC_is hn rkMax_inj h1, h1.1⟩
  have H0 := Lib.hid (max_start (P := p) (setsN n n) h0)
  have hsl := sets_len hn hn
  have HMA := Lib.hid (fun (c : Nat) => (mem_all (n := n) (c := c) hn))
  have HML : Hid (∀ k b c, MaxTo p (setsN n n) k b → (setsN n n)[k]? = some c → ¬ onesN b < onesN c → MaxTo p (setsN n n) (k + 1) b) := fun k b c h1 h2 h3 => max_less hn hn h1 h2 h3
  have HPW := Lib.hid (pow_le hn)
  have HP1 : Hid (0 < 2 ^ n) := Nat.pow_pos (by decide)
  have HLT : Hid (∀ k b, MaxTo p (setsN n n) k b → b < 2 ^ n) := fun k b h => by
    rcases h.1 with e | m
    · subst e; exact HP1.out
    · exact (HMA.out b).1 (List.mem_of_mem_take m)
  have hent := h.enter
  have HF := Lib.hid h.call
  clear h h0
  go_enter Try.func53, Try.ntmps53
  go_wp2_with fail
  refine (HSU.out w).mono ?_
  rintro e w2 ⟨A2, c2, rfl, o2, b2⟩
  have HB2 := Lib.hid b2
  have HN2 : Hid (Nums w2 (.slice A2 (setsN n n).length c2) (setsN n n)) := Reads.of_own o2
  clear o2 b2
  generalize setsN n n = L at *
  go_wp2_with fail
  go_loopg [5, 12] L.length (fun g lv iv wr => ∃ (k b : Nat), k + g = L.length ∧ lv = .int .u64 (b : Int) ∧ iv = .int .i64 (k : Int) ∧ Hid (MaxTo p L k b) ∧ Below w2.heap.size w2 wr)
  case atStart => exact ⟨0, 0, by omega, rfl, rfl, H0, Below.refl _ _⟩
  case round =>
    clear H0
    obtain ⟨k, b, hkg, rfl, rfl, hmx, hB⟩ := hrel
    have HB := Lib.hid hB
    have hbn := HLT.out k b hmx.out
    have hb8 : b < 256 := Nat.lt_of_lt_of_le hbn HPW.out
    cases gk with
    | zero =>
      obtain rfl : k = L.length := by omega
      have HVV := Lib.hid (HV.out b hmx.out)
      clear hB hbn
      go_wp2_with fail
      go_ret
      rw [HVV.out.1]
      exact ⟨HVV.out.2, rfl, btrans HB2.out HB.out⟩
    | succ g2 =>
      have hlt : k < L.length := by omega
      have hlt' : (k : Int) < (L.length : Int) := by omega
      obtain ⟨c, hc⟩ : ∃ c, L[k]? = some c := ⟨_, List.getElem?_eq_getElem hlt⟩
      have hcm := List.mem_of_getElem? hc
      have hcn := (HMA.out c).1 hcm
      have hc8 : c < 256 := Nat.lt_of_lt_of_le hcn HPW.out
      obtain ⟨_, _, hf2, hcc⟩ := (show Nums wr (.slice A2 L.length c2) L from HN2.out.below hB).form
      cases hf2
      obtain ⟨g5, o5, rfl, c5⟩ := hcc k c hc
      have HFR := Lib.hid (HF.out wr (btrans HB2.out hB) c hcm)
      have HC1 := Lib.hid (HCT.out c hc8)
      have HC2 := Lib.hid (HCT.out b hb8)
      by_cases ho : onesN b < onesN c
      · have ho' : (onesN b : Int) < (onesN c : Int) := by omega
        cases hf : p c with
        | true =>
          have HN := Lib.hid (max_take hmx.out hc hf ho)
          rw [hf] at HFR
          clear hcc hc hcn hcm hbn hB ho hf
          go_wp2_with fail
          refine (HC1.out _).mono ?_
          rintro e w' ⟨rfl, rfl⟩
          go_wp2_with fail
          refine (HC2.out _).mono ?_
          rintro e w' ⟨rfl, rfl⟩
          go_wp2_with fail
          refine HFR.out.mono ?_
          rintro e w3 ⟨rfl, b3⟩
          have HB3 := Lib.hid (HB.out.trans (b3.mono HB.out.size))
          clear b3 c5
          go_wp2_with fail
          go_roundg g2
          case measure => omega
          case rel => exact ⟨k + 1, c, by omega, rfl, by go_num, HN, HB3.out⟩
        | false =>
          have HN := Lib.hid (max_skip hmx.out hc hf)
          rw [hf] at HFR
          clear hcc hc hcn hcm hbn hB ho hf
          go_wp2_with fail
          refine (HC1.out _).mono ?_
          rintro e w' ⟨rfl, rfl⟩
          go_wp2_with fail
          refine (HC2.out _).mono ?_
          rintro e w' ⟨rfl, rfl⟩
          go_wp2_with fail
          refine HFR.out.mono ?_
          rintro e w3 ⟨rfl, b3⟩
          have HB3 := Lib.hid (HB.out.trans (b3.mono HB.out.size))
          clear b3 c5
          go_wp2_with fail
          go_roundg g2
          case measure => omega
          case rel => exact ⟨k + 1, b, by omega, rfl, by go_num, HN, HB3.out⟩
      · have ho' : ¬ (onesN b : Int) < (onesN c : Int) := by omega
        have HN := Lib.hid (HML.out k b c hmx.out hc ho)
        clear hcc hc hcn hcm hbn hB ho
        go_wp2_with fail
        refine (HC1.out _).mono ?_
        rintro e w' ⟨rfl, rfl⟩
        go_wp2_with fail
        refine (HC2.out _).mono ?_
        rintro e w' ⟨rfl, rfl⟩
        go_wp2_with fail
        clear c5
        go_roundg g2
        case measure => omega
        case rel => exact ⟨k + 1, b, by omega, rfl, by go_num, HN, HB.out⟩
end Go.Proofs.Ythpodbhiopnnbaa.ups

/- The contract of the program's LeastSpreading. -/
namespace Go.Proofs.Ythpodbhiopnnbaa.ups
open Go.RowKit P2 words edges ints good adjs fns sets rets covs bags bitsI func
set_option linter.unusedVariables false

/-- a set is spreading -/
noncomputable def fullB (n : Nat) (l : List Ed) (r c : Nat) : Bool := spN n l r c == 2 ^ n - 1
theorem full_all (n : Nat) (l : List Ed) (r : Nat) : fullB n l r (2 ^ n - 1) = true := by
  unfold fullB
  rw [spN_is Spr.base (full_stops rfl)]
  simp
noncomputable def lspN (n : Nat) (l : List Ed) (r : Nat) : Nat := bestC (fullB n l r) rkMin n
theorem beq_cast (a b : Nat) : (((a : Nat) : Int) == ((b : Nat) : Int)) = (a == b) := by
  rw [Bool.eq_iff_iff, beq_iff_eq, beq_iff_eq]; omega
end Go.Proofs.Ythpodbhiopnnbaa.ups

/- The contracts of the program's ballsIn, isFar, IsFarSet, largestFar, LargestFarSet and FarBound. -/
namespace Go.Proofs.Ythpodbhiopnnbaa.ups
open Go.RowKit P2 words edges ints good adjs fns sets rets covs bags bitsI func
set_option linter.unusedVariables false

theorem bne_cast (a b : Nat) : (((a : Nat) : Int) != ((b : Nat) : Int)) = !(a == b) := by
  show (!(((a : Nat) : Int) == ((b : Nat) : Int))) = _
  rw [beq_cast]
/-- another node of the set is in the ball -/
def farQ (l : List Ed) (n r c : Nat) (x : Int) : Bool := !(bN l n x.toNat r &&& c == 2 ^ x.toNat)
set_option maxHeartbeats 1000000 in
set_option maxRecDepth 100000 in
theorem farClo_any (n r d x b1 b2 : Nat) (v : Value) (l : List Ed) (w : World) (h1 : w.cell? ⟨b1, 0, none⟩ = some v) (h2 : w.cell? ⟨b2, 0, none⟩ = some (.int .u64 (d : Int))) (h : Nums w v (balN l n r)) (hn : n ≤ 8) (hd : d < 256) (hx : x < n) :
    Calls Try.prog 82 #[.int .i64 (x : Int), .pointer (some ⟨b1, 0, none⟩), .pointer (some ⟨b2, 0, none⟩)] w fun e w' => e = .returned (.bool (farQ l n r d (x : Int))) ∧ Below w.heap.size w w' := by
  obtain ⟨A, c, rfl, hcl⟩ := h.form
  obtain ⟨g6, o6, rfl, c6⟩ := hcl x _ (bal_at hx)
  have hlen := bal_len l n r
  rw [hlen] at h1
  have hx' : (x : Int) < (n : Int) := by omega
  have hbl := bN_lt l hx hn r
  have hand := bits_and_u64_nat (bN l n x r) d (by omega) (by omega)
  have hw := wrap_pow (m := x) (by omega)
  have HV : Hid (farQ l n r d (x : Int) = !(bN l n x r &&& d == 2 ^ x)) := by show _ = _; unfold farQ; rw [Int.toNat_natCast]
  rw [HV.out]
  clear hcl h hlen HV hbl
  generalize bN l n x r &&& d = y1 at *
  generalize bN l n x r = y2 at *
  go_enter Try.func82, Try.ntmps82
  go_wp2_with fail
  go_quiet (fail)
  go_wp2_with fail
  go_ret
  exact ⟨ret_bool (by first | exact bne_cast _ _ | (rw [hw]; exact bne_cast _ _)), below_drewN (Below.refl _ _) _⟩
set_option maxHeartbeats 1000000 in
set_option maxRecDepth 100000 in
theorem isFar_any (n r d : Nat) (v : Value) (l : List Ed) (w : World) (h : Nums w v (balN l n r)) (hn : n ≤ 8) (hd : d < 2 ^ n) :
    Calls Try.prog 55 #[v, .int .u64 (d : Int)] w fun e w' => e = .returned (.bool (farB l n r d)) ∧ Below w.heap.size w w' := by
  obtain ⟨A, c, rfl, -⟩ := h.form
  have hmf : ∀ (fn : Fn) (first cap : Array Value) (w : World), (Instr.makeFunc fn first cap).run Try.prog w = .ok (.func fn first cap) w := fun _ _ _ _ => rfl
  have hd8 : d < 256 := Nat.lt_of_lt_of_le hd (pow_le hn)
  have b2 : Below w.heap.size w ((w.alloc (.cells #[.slice A (balN l n r).length c] 57)).alloc (.cells #[.int .u64 (d : Int)] 55)) := ((Below.refl _ _).alloc (Nat.le_refl _) _).alloc (by simp) _
  have g1 := (Blk.new w 57 #[.slice A (balN l n r).length c]).alloc (.cells #[.int .u64 (d : Int)] 55)
  have g2 := Blk.new (w.alloc (.cells #[.slice A (balN l n r).length c] 57)) 55 #[.int .u64 (d : Int)]
  rw [World.size_alloc] at g2
  have p2 := g2.cell 0
  have HND := Lib.hid (nodes_any d ((w.alloc (.cells #[.slice A (balN l n r).length c] 57)).alloc (.cells #[.int .u64 (d : Int)] 55)) (by omega))
  have HCF := Lib.hid (fun (W : World) (hW : Below ((w.alloc (.cells #[.slice A (balN l n r).length c] 57)).alloc (.cells #[.int .u64 (d : Int)] 55)).heap.size ((w.alloc (.cells #[.slice A (balN l n r).length c] 57)).alloc (.cells #[.int .u64 (d : Int)] 55)) W) (u : Value) (hu : Ints W u (ndN d)) =>
    containsFuncI_any u (ndN d) 82 #[.pointer (some ⟨w.heap.size, 0, none⟩), .pointer (some ⟨w.heap.size + 1, 0, none⟩)] (farQ l n r d) W hu (by have := nw_len (bitB d) 8; unfold ndN; omega)
    { enter := fun _ _ => by kernel_rfl
      call := fun W' hW' x hx => by
        rw [← nd_bits hn hd] at hx
        obtain ⟨j, hj, _, rfl⟩ := mem_nw.1 hx
        exact farClo_any n r d j w.heap.size (w.heap.size + 1) _ l W' ((g1.below (btrans hW hW') g1.lt).cell 0) ((g2.below (btrans hW hW') g2.lt).cell 0) (h.below (btrans (btrans b2 hW) hW')) hn hd8 hj })
  have HB2 := Lib.hid b2
  clear h b2 g1 g2
  generalize hwx : (w.alloc (.cells #[.slice A (balN l n r).length c] 57)).alloc (.cells #[.int .u64 (d : Int)] 55) = wx at *
  have HWX := Lib.hid hwx
  clear hwx
  go_enter Try.func55, Try.ntmps55
  go_wp2_with fail
  rw [HWX.out]
  refine HND.out.mono ?_
  rintro e w3 ⟨A4, c4, rfl, o4, b4⟩
  have HC3 := Lib.hid (HCF.out w3 b4 _ (show Ints w3 (.slice A4 (ndN d).length c4) (ndN d) from Reads.of_own o4))
  have HB3 := Lib.hid (btrans HB2.out b4)
  clear o4 b4
  go_wp2_with fail
  refine HC3.out.mono ?_
  rintro e w4 ⟨rfl, b5⟩
  go_wp2_with fail
  go_ret
  exact ⟨rfl, btrans HB3.out b5⟩
def FarOk (s : Int) (l : List Ed) (xs : List Int) (k : Int) : Prop := NumOk s l k ∧ SetOk s l xs
noncomputable def farV (s : Int) (l : List Ed) (xs : List Int) (k : Int) : Bool := okG (FarOk s l xs k ∧ farB l s.toNat (2 * k.toNat - 2) (codeL xs) = true)
end Go.Proofs.Ythpodbhiopnnbaa.ups

/- Guards: the contracts of the program's IsDominating, LeastDominating and LargestIndependent. -/
namespace Go.Proofs.Ythpodbhiopnnbaa.ups
open Go.RowKit P2 words edges ints good adjs fns sets rets covs bags bitsI func
set_option linter.unusedVariables false

theorem beq_castD (a b : Nat) : (((a : Nat) : Int) == ((b : Nat) : Int)) = (a == b) := by
  rw [Bool.eq_iff_iff, beq_iff_eq, beq_iff_eq]; omega
def DomP (s : Int) (l : List Ed) (xs : List Int) : Prop := SetOk s l xs ∧ domB s.toNat l (codeL xs) = true
theorem domP_is {n : Nat} {l : List Ed} {xs : List Int} (h : SetOk (n : Int) l xs) : okG (DomP (n : Int) l xs) = domB n l (codeL xs) := by
  unfold DomP
  rw [Int.toNat_natCast, Bool.eq_iff_iff, okG_iff]
  exact ⟨fun h => h.2, fun h2 => ⟨h, h2⟩⟩
set_option maxHeartbeats 4000000 in
set_option maxRecDepth 100000 in
theorem implIsDom_any (s : Int) (v u : Value) (l : List Ed) (xs : List Int) (w : World) (h : Edges w v l) (hl : l.length ≤ 1048576) (hu : Ints w u xs) (hxl : xs.length ≤ 1048576) :
    Calls Try.prog 13 #[.agg #[.int .i64 s, v], u] w fun e w' => e = .returned (.tuple #[.bool (okG (DomP s l xs)), .bool (okG (SetOk s l xs))]) ∧ Below w.heap.size w w' := by
  obtain ⟨A, c, rfl, -⟩ := h.form
  have H := Lib.hid h
  have HU := Lib.hid hu
  have b0 : Below w.heap.size w (w.alloc (.cells #[.int .i64 s, .slice A l.length c] 29)) := (Below.refl _ _).alloc (Nat.le_refl _) _
  have g0 := Blk.new w 29 #[.int .i64 s, .slice A l.length c]
  obtain ⟨p0, p1, -, -⟩ := g0.two
  have HS := Lib.hid (hasSet_any s (.slice A l.length c) u l xs _ (h.below b0) hl (hu.below b0) hxl)
  have HB0 := Lib.hid b0
  have HG0 := Lib.hid g0
  clear h hu b0 g0
  by_cases hso : SetOk s l xs
  · rw [okG_yes hso] at HS ⊢
    have h0 := hso.1.1
    have h8 := hso.1.2.1
    obtain ⟨n, rfl⟩ : ∃ n : Nat, s = (n : Int) := ⟨s.toNat, by omega⟩
    have hn : n ≤ 8 := by omega
    have HOK := Lib.hid hso
    have hcl := code_set hso
    have hc8 : codeL xs < 256 := Nat.lt_of_lt_of_le hcl (pow_le hn)
    have HV : Hid (okG (DomP (n : Int) l xs) = (arN l n (codeL xs) == 2 ^ n - 1)) := domP_is hso
    rw [HV.out]
    have hp1 : 1 ≤ 2 ^ n := Nat.one_le_two_pow
    have hw1 : IntKind.u64.wrap (IntKind.u64.wrap ((2 : Int) ^ n) - 1) = ((2 ^ n - 1 : Nat) : Int) := by
      have hpn := pow_le hn
      rw [wrap_pow hn, IntKind.wrap_u64]
      generalize 2 ^ n = z at *
      omega
    have HCA := Lib.hid (fun (W : World) (u : Value) (hu : Nums W u (clos l n)) => closedAround_any n (codeL xs) u l W hu hso.1 hn hc8)
    clear hso HV hp1
    have HBO := Lib.hid (fun (W : World) (hW : Below w.heap.size w W) => bitsOf_any u xs W (HU.out.below hW) hxl (fun x hx => by have := HOK.out.2.1 x hx; omega))
    generalize arN l n (codeL xs) = y1 at *
    generalize 2 ^ n - 1 = z1 at *
    have hbq := beq_castD y1 z1
    go_enter Try.func13, Try.ntmps13
    go_wp2_with fail
    refine HS.out.mono ?_
    rintro e w1 ⟨rfl, b1⟩
    have HE1 := Lib.hid (btrans HB0.out b1)
    have HG1 := Lib.hid (HG0.out.below b1 HG0.out.lt)
    clear p0 p1 b1 HS HB0 HG0
    obtain ⟨p0, p1, -, -⟩ := HG1.out.two
    have HCB := Lib.hid (closedBits_any n (.slice A l.length c) l w1.drew (H.out.below HE1.out.drew) hl HOK.out.1 hn)
    go_wp2_with fail
    refine wp_region_held_drew (S := (fun w' : World => w'.cell? ⟨w.heap.size, 0, none⟩ = some (.int .i64 (n : Int)) ∧ w'.cell? ⟨w.heap.size, 1, none⟩ = some (.slice A l.length c))) (by kernel_rfl) (by (try dsimp only); simp [*]) (fun hHeld => ?_)
    change wpAnyH _ _ _ _ _ _ #[false, false, false, false, false, false, false, false, false, false, false, false] _ _
    refine wpAnyH_take (i := 0) (oi := ⟨some 10, _, _, _, _, _⟩) (v := ?_) rfl (by kernel_rfl) (by kernel_rfl) (by kernel_rfl) (fun _ _ _ h => h) (Or.inl ⟨by rfl, ?_⟩) (by assumption) ?_
    rotate_left
    · (intro w hSw; (try dsimp only at hSw); go_simp; (try (with_reducible rfl)))
    try simp only [Act.put, List.setIfInBounds_toArray, List.set_cons_zero, List.set_cons_succ]
    refine wpAnyH_take (i := 2) (oi := ⟨some 12, _, _, _, _, _⟩) (v := ?_) rfl (by kernel_rfl) (by kernel_rfl) (by kernel_rfl) (fun _ _ _ h => h) (Or.inl ⟨by rfl, ?_⟩) (by assumption) ?_
    rotate_left
    · (intro w hSw; (try dsimp only at hSw); go_simp; (try (with_reducible rfl)))
    try simp only [Act.put, List.setIfInBounds_toArray, List.set_cons_zero, List.set_cons_succ]
    refine wpAnyH_take (i := 5) (oi := ⟨some 15, _, _, _, _, _⟩) (v := ?_) rfl (by kernel_rfl) (by kernel_rfl) (by kernel_rfl) (fun _ _ _ h => h) (Or.inl ⟨by rfl, ?_⟩) (by assumption) ?_
    rotate_left
    · (intro w hSw; (try dsimp only at hSw); go_simp; (try (with_reducible rfl)))
    try simp only [Act.put, List.setIfInBounds_toArray, List.set_cons_zero, List.set_cons_succ]
    refine wpAnyH_take (i := 6) (oi := ⟨some 16, _, _, _, _, _⟩) (v := ?_) rfl (by kernel_rfl) (by kernel_rfl) (by kernel_rfl) (fun _ _ _ h => h) (Or.inl ⟨by rfl, ?_⟩) (by assumption) ?_
    rotate_left
    · (intro w hSw; (try dsimp only at hSw); go_simp; (try (with_reducible rfl)))
    try simp only [Act.put, List.setIfInBounds_toArray, List.set_cons_zero, List.set_cons_succ]
    refine wpAnyH_take (i := 7) (oi := ⟨some 17, _, _, _, _, _⟩) (v := ?_) rfl (by kernel_rfl) (by kernel_rfl) (by kernel_rfl) (fun _ _ _ h => h) (Or.inl ⟨by rfl, ?_⟩) (by assumption) ?_
    rotate_left
    · (intro w hSw; (try dsimp only at hSw); go_simp; (try (with_reducible rfl)))
    try simp only [Act.put, List.setIfInBounds_toArray, List.set_cons_zero, List.set_cons_succ]
    refine wpAnyH_take (i := 8) (oi := ⟨some 18, _, _, _, _, _⟩) (v := ?_) rfl (by kernel_rfl) (by kernel_rfl) (by kernel_rfl) (fun _ _ _ h => h) (Or.inl ⟨by rfl, ?_⟩) (by assumption) ?_
    rotate_left
    · (intro w hSw; (try dsimp only at hSw); go_simp; (try (with_reducible rfl)))
    try simp only [Act.put, List.setIfInBounds_toArray, List.set_cons_zero, List.set_cons_succ]
    refine wpAnyH_ready (rs := [1]) (by kernel_rfl) (by simp) ?_
    refine AllReadyH.cons (o := ⟨some 11, _, _, _, _, _⟩) rfl (fun K hK => ?_) AllReadyH.nil
    go_simp
    (with_reducible refine HCB.out.mono ?_); rintro e w3 ⟨A3, c3, rfl, i3, b3⟩; have d3 : Below w1.heap.size w1 w3 := btrans (Below.refl _ _).drew b3; obtain ⟨k0, k1, -, -⟩ := (HG1.out.below d3 HG1.out.lt).two
    go_wp2_with fail
    refine hK.out _ _ (by (try dsimp only); simp [*]) (fun hHeld => ?_)
    clear hK K
    try simp only [List.setIfInBounds_toArray, List.set_cons_zero, List.set_cons_succ]
    refine wpAnyH_ready (rs := [3]) (by kernel_rfl) (by simp) ?_
    refine AllReadyH.cons (o := ⟨some 13, _, _, _, _, _⟩) rfl (fun K hK => ?_) AllReadyH.nil
    go_simp
    (with_reducible refine (HBO.out w3 (btrans HE1.out d3)).mono ?_); rintro e w4 ⟨rfl, rfl⟩
    go_wp2_with fail
    refine hK.out _ _ (by (try dsimp only); simp [*]) (fun hHeld => ?_)
    clear hK K
    try simp only [List.setIfInBounds_toArray, List.set_cons_zero, List.set_cons_succ]
    refine wpAnyH_ready (rs := [4]) (by kernel_rfl) (by simp) ?_
    refine AllReadyH.cons (o := ⟨some 14, _, _, _, _, _⟩) rfl (fun K hK => ?_) AllReadyH.nil
    go_simp
    (with_reducible refine (HCA.out w3 _ i3).mono ?_); rintro e w4 ⟨rfl, rfl⟩
    go_wp2_with fail
    refine hK.out _ _ (by (try dsimp only); simp [*]) (fun hHeld => ?_)
    clear hK K
    try simp only [List.setIfInBounds_toArray, List.set_cons_zero, List.set_cons_succ]
    refine wpAnyH_take (i := 9) (oi := ⟨some 19, _, _, _, _, _⟩) (v := ?_) rfl (by kernel_rfl) (by kernel_rfl) (by kernel_rfl) (fun _ _ _ h => h) (Or.inl ⟨by rfl, ?_⟩) (by assumption) ?_
    rotate_left
    · (intro w hSw; (try dsimp only at hSw); go_simp; (try (with_reducible rfl)))
    try simp only [Act.put, List.setIfInBounds_toArray, List.set_cons_zero, List.set_cons_succ]
    refine wpAnyH_take (i := 10) (oi := ⟨some 4, _, _, _, _, _⟩) (v := ?_) rfl (by kernel_rfl) (by kernel_rfl) (by kernel_rfl) (fun _ _ _ h => h) (Or.inl ⟨by rfl, ?_⟩) (by assumption) ?_
    rotate_left
    · (intro w hSw; (try dsimp only at hSw); go_simp; (try (with_reducible rfl)))
    try simp only [Act.put, List.setIfInBounds_toArray, List.set_cons_zero, List.set_cons_succ]
    refine wpAnyH_take (i := 11) (oi := ⟨some 5, _, _, _, _, _⟩) (v := ?_) rfl (by kernel_rfl) (by kernel_rfl) (by kernel_rfl) (fun _ _ _ h => h) (Or.inl ⟨by rfl, ?_⟩) (by assumption) ?_
    rotate_left
    · (intro w hSw; (try dsimp only at hSw); go_simp; (try (with_reducible rfl)))
    try simp only [Act.put, List.setIfInBounds_toArray, List.set_cons_zero, List.set_cons_succ]
    refine wpAnyH_done (by kernel_rfl) ?_ _
    go_wp2_with fail
    go_ret2
    exact ⟨rfl, btrans HE1.out d3⟩
  · have HV2 : Hid (okG (DomP s l xs) = false) := okG_no fun h => hso h.1
    rw [okG_no hso] at HS ⊢
    rw [HV2.out]
    clear hso
    go_enter Try.func13, Try.ntmps13
    go_wp2_with fail
    refine HS.out.mono ?_
    rintro e w1 ⟨rfl, b1⟩
    have HE1 := Lib.hid (btrans HB0.out b1)
    clear p0 p1 b1
    go_wp2_with fail
    go_ret2
    exact ⟨rfl, HE1.out⟩
noncomputable def ldN (n : Nat) (l : List Ed) : Nat := bestC (domB n l) rkMin n
set_option maxHeartbeats 1000000 in
set_option maxRecDepth 100000 in
theorem ldClo_any (n d b1 b2 : Nat) (v sv : Value) (l : List Ed) (w : World) (h1 : w.cell? ⟨b1, 0, none⟩ = some v) (h2 : w.cell? ⟨b2, 0, none⟩ = some (.int .i64 (n : Int))) (h : Nums w v (clos l n)) (hg : P2.Good (n : Int) l) (hn : n ≤ 8) (hd : d < 2 ^ n) :
    Calls Try.prog 49 #[.int .u64 (d : Int), .pointer (some ⟨b1, 0, none⟩), .pointer (some ⟨b2, 0, none⟩)] w fun e w' => e = .returned (.bool (domB n l d)) ∧ Below w.heap.size w w' := by
  obtain ⟨A, c, rfl, -⟩ := h.form
  have hlen := clos_len l n
  rw [hlen] at h1
  have hd8 : d < 256 := Nat.lt_of_lt_of_le hd (pow_le hn)
  have HCA := Lib.hid (fun (nq : Nat) => closedAround_any n d (.slice A (clos l n).length c) l (w.drewN nq) (h.below (below_drewN (Below.refl _ _) nq)) hg hn hd8)
  rw [hlen] at HCA
  have hp1 : 1 ≤ 2 ^ n := Nat.one_le_two_pow
  have hw1 : IntKind.u64.wrap (IntKind.u64.wrap ((2 : Int) ^ n) - 1) = ((2 ^ n - 1 : Nat) : Int) := by
    have hpn := pow_le hn
    rw [wrap_pow hn, IntKind.wrap_u64]
    generalize 2 ^ n = z at *
    omega
  unfold domB
  clear h hg hlen
  generalize arN l n d = y1 at *
  go_enter Try.func49, Try.ntmps49
  go_wp2_with fail
  go_quiet (first | (go_at_call 40; exact quiet_left (HCA.out _)))
  go_wp2_with fail
  go_ret
  exact ⟨ret_bool (beq_castD _ _), below_drewN (Below.refl _ _) _⟩
set_option maxHeartbeats 2000000 in
set_option maxRecDepth 100000 in
theorem implLd_any (s : Int) (v : Value) (l : List Ed) (w : World) (h : Edges w v l) (hl : l.length ≤ 1048576) :
    Calls Try.prog 17 #[.agg #[.int .i64 s, v]] w (RetI w (P2.Good s l) (ndN (ldN s.toNat l))) := by
  obtain ⟨A, c, rfl, -⟩ := h.form
  have hmf : ∀ (fn : Fn) (first cap : Array Value) (w : World), (Instr.makeFunc fn first cap).run Try.prog w = .ok (.func fn first cap) w := fun _ _ _ _ => rfl
  have H := Lib.hid h
  have b0 : Below w.heap.size w (w.alloc (.cells #[.int .i64 s, .slice A l.length c] 29)) := (Below.refl _ _).alloc (Nat.le_refl _) _
  have g0 := Blk.new w 29 #[.int .i64 s, .slice A l.length c]
  obtain ⟨p0, p1, -, -⟩ := g0.two
  have HN := Lib.hid (implIsGraph_any s _ l _ (h.below b0) hl)
  have HB0 := Lib.hid b0
  have HG0 := Lib.hid g0
  clear h b0 g0
  by_cases hgd : P2.Good s l
  · rw [goodB_yes hgd] at HN
    have HOK := Lib.hid hgd
    have h0 := hgd.1
    have h8 := hgd.2.1
    obtain ⟨n, rfl⟩ : ∃ n : Nat, s = (n : Int) := ⟨s.toNat, by omega⟩
    have hn : n ≤ 8 := by omega
    rw [Int.toNat_natCast]
    clear hgd
    go_enter Try.func17, Try.ntmps17
    go_wp2_with fail
    refine HN.out.mono ?_
    rintro e w1 ⟨rfl, b1⟩
    have HE1 := Lib.hid (btrans HB0.out b1)
    have HG1 := Lib.hid (HG0.out.below b1 HG0.out.lt)
    clear p0 p1 b1 HN HB0 HG0
    obtain ⟨p0, p1, -, -⟩ := HG1.out.two
    have HCB := Lib.hid (closedBits_any n (.slice A l.length c) l w1 (H.out.below HE1.out) hl HOK.out hn)
    go_wp2_with fail
    refine HCB.out.mono ?_
    rintro e w2 ⟨A3, c3, rfl, i3, b3⟩
    have d3 : Below w1.heap.size w1 (w2.alloc (.cells #[.slice A3 (clos l n).length c3] 57)) := b3.alloc b3.size _
    have HE3 := Lib.hid (btrans HE1.out d3)
    have HG3 := Lib.hid (HG1.out.below d3 HG1.out.lt)
    have HK3 := Lib.hid (Blk.new w2 57 #[.slice A3 (clos l n).length c3])
    have HI3 : Hid (Nums (w2.alloc (.cells #[.slice A3 (clos l n).length c3] 57)) (.slice A3 (clos l n).length c3) (clos l n)) := i3.below ((Below.refl _ _).alloc (Nat.le_refl _) _)
    obtain ⟨k0, k1, -, -⟩ := HG3.out.two
    have HFS := Lib.hid (firstSet_any n 49 #[.pointer (some ⟨w2.heap.size, 0, none⟩), .pointer (some ⟨w.heap.size, 0, none⟩)] (domB n l) (w2.alloc (.cells #[.slice A3 (clos l n).length c3] 57)) hn
      { enter := fun _ _ => by kernel_rfl
        call := fun W hW x hx => ldClo_any n x w2.heap.size w.heap.size _ (.slice A l.length c) l W ((HK3.out.below hW HK3.out.lt).cell 0) ((HG3.out.below hW HG3.out.lt).cell 0) (HI3.out.below hW) HOK.out hn ((mem_all hn).1 hx) } (dom_full n l))
    have HV : Hid (ldN n l = bestC (domB n l) rkMin n) := rfl
    clear p0 p1 b3 i3 d3 HCB
    go_wp2_with fail
    refine HFS.out.mono ?_
    rintro e w6 ⟨hyn, rfl, b6⟩
    have HE6 := Lib.hid (btrans HE3.out b6)
    have hy64 : bestC (domB n l) rkMin n < 18446744073709551616 := Nat.lt_of_lt_of_le hyn (Nat.le_trans (pow_le hn) (by decide))
    clear b6 k0 k1 hyn
    generalize bestC (domB n l) rkMin n = y at *
    have HND := Lib.hid (nodes_any y w6 hy64)
    go_wp2_with fail
    refine HND.out.mono ?_
    rintro e w7 ⟨A8, c8, rfl, o8, b8⟩
    go_wp2_with fail
    go_ret2
    rw [HV.out]
    exact RetI.yes HOK.out (own_base o8 HE6.out.size) (btrans HE6.out b8)
  · rw [goodB_no hgd] at HN
    have HNO := Lib.hid hgd
    clear hgd
    go_enter Try.func17, Try.ntmps17
    go_wp2_with fail
    refine HN.out.mono ?_
    rintro e w1 ⟨rfl, b1⟩
    have HE1 := Lib.hid (btrans HB0.out b1)
    clear p0 p1 b1
    go_wp2_with fail
    go_ret2
    exact RetI.nil HNO.out HE1.out
noncomputable def liN (n : Nat) (l : List Ed) : Nat := bestC (farB l n 1) rkMax n
set_option maxHeartbeats 1000000 in
set_option maxRecDepth 100000 in
theorem liClo_any (n d b1 : Nat) (v : Value) (l : List Ed) (w : World) (h1 : w.cell? ⟨b1, 0, none⟩ = some v) (h : Nums w v (clos l n)) (hg : P2.Good (n : Int) l) (hn : n ≤ 8) (hd : d < 2 ^ n) :
    Calls Try.prog 54 #[.int .u64 (d : Int), .pointer (some ⟨b1, 0, none⟩)] w fun e w' => e = .returned (.bool (farB l n 1 d)) ∧ Below w.heap.size w w' := by
  obtain ⟨A, c, rfl, -⟩ := h.form
  rw [clos_bal hg] at h h1
  have HF := Lib.hid (isFar_any n 1 d _ l w h hn hd)
  clear h hg
  go_enter Try.func54, Try.ntmps54
  go_wp2_with fail
  refine HF.out.mono ?_
  rintro e w1 ⟨rfl, b1⟩
  go_wp2_with fail
  go_ret
  exact ⟨rfl, b1⟩
set_option maxHeartbeats 2000000 in
set_option maxRecDepth 100000 in
theorem implLi_any (s : Int) (v : Value) (l : List Ed) (w : World) (h : Edges w v l) (hl : l.length ≤ 1048576) :
    Calls Try.prog 22 #[.agg #[.int .i64 s, v]] w (RetI w (P2.Good s l) (ndN (liN s.toNat l))) := by
  obtain ⟨A, c, rfl, -⟩ := h.form
  have hmf : ∀ (fn : Fn) (first cap : Array Value) (w : World), (Instr.makeFunc fn first cap).run Try.prog w = .ok (.func fn first cap) w := fun _ _ _ _ => rfl
  have H := Lib.hid h
  have b0 : Below w.heap.size w (w.alloc (.cells #[.int .i64 s, .slice A l.length c] 29)) := (Below.refl _ _).alloc (Nat.le_refl _) _
  have g0 := Blk.new w 29 #[.int .i64 s, .slice A l.length c]
  obtain ⟨p0, p1, -, -⟩ := g0.two
  have HN := Lib.hid (implIsGraph_any s _ l _ (h.below b0) hl)
  have HB0 := Lib.hid b0
  have HG0 := Lib.hid g0
  clear h b0 g0
  by_cases hgd : P2.Good s l
  · rw [goodB_yes hgd] at HN
    have HOK := Lib.hid hgd
    have h0 := hgd.1
    have h8 := hgd.2.1
    obtain ⟨n, rfl⟩ : ∃ n : Nat, s = (n : Int) := ⟨s.toNat, by omega⟩
    have hn : n ≤ 8 := by omega
    rw [Int.toNat_natCast]
    clear hgd
    go_enter Try.func22, Try.ntmps22
    go_wp2_with fail
    refine HN.out.mono ?_
    rintro e w1 ⟨rfl, b1⟩
    have HE1 := Lib.hid (btrans HB0.out b1)
    have HG1 := Lib.hid (HG0.out.below b1 HG0.out.lt)
    clear p0 p1 b1 HN HB0 HG0
    obtain ⟨p0, p1, -, -⟩ := HG1.out.two
    have HCB := Lib.hid (closedBits_any n (.slice A l.length c) l w1 (H.out.below HE1.out) hl HOK.out hn)
    go_wp2_with fail
    refine HCB.out.mono ?_
    rintro e w2 ⟨A3, c3, rfl, i3, b3⟩
    have d3 : Below w1.heap.size w1 (w2.alloc (.cells #[.slice A3 (clos l n).length c3] 57)) := b3.alloc b3.size _
    have HE3 := Lib.hid (btrans HE1.out d3)
    have HG3 := Lib.hid (HG1.out.below d3 HG1.out.lt)
    have HK3 := Lib.hid (Blk.new w2 57 #[.slice A3 (clos l n).length c3])
    have HI3 : Hid (Nums (w2.alloc (.cells #[.slice A3 (clos l n).length c3] 57)) (.slice A3 (clos l n).length c3) (clos l n)) := i3.below ((Below.refl _ _).alloc (Nat.le_refl _) _)
    obtain ⟨k0, k1, -, -⟩ := HG3.out.two
    have HFS := Lib.hid (largestSet_any n 54 #[.pointer (some ⟨w2.heap.size, 0, none⟩)] (farB l n 1) (w2.alloc (.cells #[.slice A3 (clos l n).length c3] 57)) hn
      { enter := fun _ _ => by kernel_rfl
        call := fun W hW x hx => liClo_any n x w2.heap.size _ l W ((HK3.out.below hW HK3.out.lt).cell 0) (HI3.out.below hW) HOK.out hn ((mem_all hn).1 hx) } (far_zero l n 1))
    have HV : Hid (liN n l = bestC (farB l n 1) rkMax n) := rfl
    clear p0 p1 b3 i3 d3 HCB
    go_wp2_with fail
    refine HFS.out.mono ?_
    rintro e w6 ⟨hyn, rfl, b6⟩
    have HE6 := Lib.hid (btrans HE3.out b6)
    have hy64 : bestC (farB l n 1) rkMax n < 18446744073709551616 := Nat.lt_of_lt_of_le hyn (Nat.le_trans (pow_le hn) (by decide))
    clear b6 k0 k1 hyn
    generalize bestC (farB l n 1) rkMax n = y at *
    have HND := Lib.hid (nodes_any y w6 hy64)
    go_wp2_with fail
    refine HND.out.mono ?_
    rintro e w7 ⟨A8, c8, rfl, o8, b8⟩
    go_wp2_with fail
    go_ret2
    rw [HV.out]
    exact RetI.yes HOK.out (own_base o8 HE6.out.size) (btrans HE6.out b8)
  · rw [goodB_no hgd] at HN
    have HNO := Lib.hid hgd
    clear hgd
    go_enter Try.func22, Try.ntmps22
    go_wp2_with fail
    refine HN.out.mono ?_
    rintro e w1 ⟨rfl, b1⟩
    have HE1 := Lib.hid (btrans HB0.out b1)
    clear p0 p1 b1
    go_wp2_with fail
    go_ret2
    exact RetI.nil HNO.out HE1.out
end Go.Proofs.Ythpodbhiopnnbaa.ups
