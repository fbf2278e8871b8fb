/- Guards: dominating, independent sets and cliques: mathematics. -/
import Derived.Test.YtdhbaegkogklgaaDoorK08
import Derived.Test.YtdhbaegkogklgaaDoorK09
import Derived.Test.YtdhbaegkogklgaaDoorK12
import Derived.Handy
import Derived.Test.YtdhbaegkogklgaaDoorK04
import Derived.Deep.DeepCutAuto
import Derived.Deep.RegionHeld3
import Derived.Deep.QuietTactic
namespace Go.Proofs.YtdhbaegkogklgaaDoor.ups
open Go.RowKit P2 words edges ints good adjs fns sets rets covs bitsI bags costs reach
set_option linter.unusedVariables false

/-- a set is dominating -/
def domB (n : Nat) (l : List Ed) (c : Nat) : Bool := arN l n c == 2 ^ n - 1
theorem inC_pos {l : List Ed} {xs : List Int} {x : Int} : inC l xs x ≠ 0 ↔ ∃ y ∈ xs, adj l y x = true := by
  unfold inC
  rw [Ne, List.length_eq_zero_iff, List.filter_eq_nil_iff]
  constructor
  · intro h
    simp only [Classical.not_forall] at h
    obtain ⟨y, hy, hp⟩ := h
    exact ⟨y, hy, by simpa using hp⟩
  · rintro ⟨y, hy, hp⟩ h
    exact h y hy hp
/-- a node is in the set, or one of its neighbors is -/
def domX (l : List Ed) (xs : List Int) (x : Int) : Bool := decide (x ∈ xs) || !(inC l xs x == 0)
theorem domX_iff {l : List Ed} {xs : List Int} {x : Int} : domX l xs x = true ↔ x ∈ xs ∨ ∃ y ∈ xs, adj l y x = true := by
  unfold domX
  rw [Bool.or_eq_true, decide_eq_true_iff, Bool.not_eq_true', beq_eq_false_iff_ne, inC_pos]
theorem dom_all {n : Nat} {l : List Ed} {xs : List Int} (hr : ∀ x ∈ xs, 0 ≤ x ∧ x < (n : Int)) : domB n l (codeL xs) = true ↔ ∀ x : Nat, x < n → domX l xs (x : Int) = true := by
  unfold domB
  rw [beq_iff_eq]
  have hbit : ∀ y, (arN l n (codeL xs)).testBit y = true ↔ y < n ∧ domX l xs (y : Int) = true := by
    intro y
    unfold arN
    rw [numOf_bit, Bool.and_eq_true, decide_eq_true_iff, arB_iff, domX_iff]
    constructor
    · rintro ⟨h1, x, hx, hc, h2⟩
      rw [code_bit (fun z hz => (hr z hz).1), decide_eq_true_iff] at hc
      rcases h2 with h2 | h2
      · subst h2; exact ⟨h1, .inl hc⟩
      · exact ⟨h1, .inr ⟨_, hc, h2⟩⟩
    · rintro ⟨h1, h2 | ⟨x, hx, h2⟩⟩
      · exact ⟨h1, y, h1, by rw [code_bit (fun z hz => (hr z hz).1), decide_eq_true_iff]; exact h2, .inl rfl⟩
      · obtain ⟨h3, h4⟩ := hr x hx
        refine ⟨h1, x.toNat, by omega, ?_, .inr ?_⟩
        · rw [code_bit (fun z hz => (hr z hz).1), decide_eq_true_iff, Int.toNat_of_nonneg h3]; exact hx
        · rw [Int.toNat_of_nonneg h3]; exact h2
  constructor
  · intro h x hx
    refine ((hbit x).1 ?_).2
    rw [h, Nat.testBit_two_pow_sub_one, decide_eq_true_iff]; exact hx
  · intro h
    apply Nat.eq_of_testBit_eq
    intro y
    rw [Nat.testBit_two_pow_sub_one, Bool.eq_iff_iff, hbit, decide_eq_true_iff]
    exact ⟨fun h => h.1, fun hy => ⟨hy, h y hy⟩⟩
/-- the first k nodes are dominated -/
def DomK (l : List Ed) (xs : List Int) (k : Nat) : Prop := ∀ x : Nat, x < k → domX l xs (x : Int) = true
theorem DomK.next {l : List Ed} {xs : List Int} {k : Nat} (h : DomK l xs k) (hk : domX l xs (k : Int) = true) : DomK l xs (k + 1) := fun x hx => by
  by_cases e : x = k
  · subst e; exact hk
  · exact h x (by omega)
theorem dom_no {n k : Nat} {l : List Ed} {xs : List Int} (hr : ∀ x ∈ xs, 0 ≤ x ∧ x < (n : Int)) (hk : k < n) (h : domX l xs (k : Int) = false) : domB n l (codeL xs) = false := by
  rw [Bool.eq_false_iff]
  intro h2
  have := (dom_all hr).1 h2 k hk
  rw [h] at this; cases this
theorem dom_full (n : Nat) (l : List Ed) : domB n l (2 ^ n - 1) = true := by
  rw [← code_all, dom_all (fun x hx => mem_allN.1 hx)]
  intro x hx
  rw [domX_iff]
  exact .inl (mem_allN.2 ⟨by omega, by omega⟩)
/-- the neighborhoods with the nodes are the balls of one step -/
theorem clos_bal {n : Nat} {l : List Ed} (hg : P2.Good (n : Int) l) : clos l n = balN l n 1 := by
  unfold clos balN
  refine List.map_congr_left fun x hx => ?_
  have hx := List.mem_range.1 hx
  apply Nat.eq_of_testBit_eq
  intro z
  rw [cloB_bit hg, Bool.eq_iff_iff, bN_iff hx, Bool.or_eq_true, beq_iff_eq]
  show _ ↔ z < n ∧ ∃ y, y < n ∧ x = y ∧ (y = z ∨ adj l (y : Int) (z : Int) = true)
  constructor
  · rintro (rfl | h)
    · exact ⟨hx, x, hx, rfl, .inl rfl⟩
    · have := (adj_node hg h).2
      exact ⟨by omega, x, hx, rfl, .inr h⟩
  · rintro ⟨_, y, _, rfl, h⟩
    exact h
/-- any two numbers of a list are neighbors, or none are -/
def AlkL (l : List Ed) (xs : List Int) (b : Bool) : Prop := ∀ (i k : Nat) (x y : Int), k < i → xs[i]? = some x → xs[k]? = some y → adj l x y = b
def AlkA (l : List Ed) (xs : List Int) (b : Bool) (m : Nat) : Prop := ∀ (i k : Nat) (x y : Int), i < m → k < i → xs[i]? = some x → xs[k]? = some y → adj l x y = b
def AlkB (l : List Ed) (xs : List Int) (b : Bool) (m j : Nat) : Prop := AlkA l xs b m ∧ ∀ (k : Nat) (x y : Int), k < j → k < m → xs[m]? = some x → xs[k]? = some y → adj l x y = b
theorem AlkB.next {l : List Ed} {xs : List Int} {b : Bool} {m j : Nat} {x y : Int} (h : AlkB l xs b m j) (hx : xs[m]? = some x) (hy : xs[j]? = some y) (ha : adj l x y = b) : AlkB l xs b m (j + 1) :=
  ⟨h.1, fun k x' y' h1 h2 h3 h4 => by
    by_cases e : k = j
    · subst e; rw [hx] at h3; rw [hy] at h4; cases h3; cases h4; exact ha
    · exact h.2 k x' y' (by omega) h2 h3 h4⟩
theorem AlkB.all {l : List Ed} {xs : List Int} {b : Bool} {m j : Nat} (h : AlkB l xs b m j) (hj : m ≤ j) : AlkA l xs b (m + 1) := fun i k x y h1 h2 h3 h4 => by
  by_cases e : i = m
  · subst e; exact h.2 k x y (by omega) h2 h3 h4
  · exact h.1 i k x y (by omega) h2 h3 h4
theorem AlkA.done {l : List Ed} {xs : List Int} {b : Bool} {m : Nat} (h : AlkA l xs b m) (hm : xs.length ≤ m) : AlkL l xs b := fun i k x y h1 h2 h3 =>
  h i k x y (by have := (List.getElem?_eq_some_iff.1 h2).1; omega) h1 h2 h3
theorem alk_clq {l : List Ed} {xs : List Int} : AlkL l xs true ↔ ClqL l xs :=
  ⟨fun h a b x y h1 h2 h3 => by rw [adj_comm]; exact h b a y x h1 h3 h2, fun h i k x y h1 h2 h3 => by rw [adj_comm]; exact h k i y x h1 h3 h2⟩
theorem alk_far {n c : Nat} {l : List Ed} (hg : P2.Good (n : Int) l) (hn : n ≤ 8) (hc : c < 2 ^ n) : okG (AlkL l (nw (bitB c) n) false) = farB l n 1 c := by
  rw [Bool.eq_iff_iff, okG_iff, far_iff hg hn hc]
  have hasc := List.pairwise_iff_getElem.1 (nw_asc (bitB c) n)
  constructor
  · intro h x y hx hyx hcx hcy hw
    obtain ⟨i, hi⟩ := List.getElem?_of_mem (mem_nw.2 ⟨x, hx, (show bitB c x = true from hcx), rfl⟩)
    obtain ⟨k, hk⟩ := List.getElem?_of_mem (mem_nw.2 ⟨y, (show y < n by omega), (show bitB c y = true from hcy), rfl⟩)
    have hki : k < i := by
      rcases Nat.lt_trichotomy k i with e | e | e
      · exact e
      · subst e; rw [hi] at hk; cases hk; omega
      · obtain ⟨a1, e1⟩ := List.getElem?_eq_some_iff.1 hi
        obtain ⟨a2, e2⟩ := List.getElem?_eq_some_iff.1 hk
        have := hasc i k a1 a2 e
        omega
    have h1 := h i k _ _ hki hi hk
    obtain ⟨z, _, hz, h2⟩ := hw
    have hz : x = z := hz
    subst hz
    rcases h2 with h2 | h2
    · omega
    · rw [h1] at h2; cases h2
  · intro h i k x y h1 h2 h3
    obtain ⟨x, rfl, hx, hcx⟩ := nw_at h2
    obtain ⟨y, rfl, hy, hcy⟩ := nw_at h3
    obtain ⟨a1, e1⟩ := List.getElem?_eq_some_iff.1 h2
    obtain ⟨a2, e2⟩ := List.getElem?_eq_some_iff.1 h3
    have := hasc k i a2 a1 h1
    rw [Bool.eq_false_iff]
    intro ha
    exact h x y hx (by omega) hcx hcy ⟨x, hx, rfl, .inr ha⟩
end Go.Proofs.YtdhbaegkogklgaaDoor.ups

/- The contracts of the program's isClique and PerfectElimination. -/
namespace Go.Proofs.YtdhbaegkogklgaaDoor.costs
open Go.RowKit P2 words edges ints good adjs fns sets rets covs reach bags bitsI fronts func
set_option linter.unusedVariables false

/-- all of a set are neighbors of a node, or it -/
def allN (n : Nat) (l : List Ed) (S : Nat → Bool) (x : Nat) : Bool := decide (numOf S n &&& cloB l x = numOf S n)
theorem allN_iff {n : Nat} {l : List Ed} (hg : P2.Good (n : Int) l) {S : Nat → Bool} {x : Nat} : allN n l S x = true ↔ ∀ z, z < n → S z = true → z ≠ x → adj l (x : Int) (z : Int) = true := by
  unfold allN
  rw [decide_eq_true_iff, sub_iff]
  constructor
  · intro h z hz hs hne
    have h1 := h z (by rw [numOf_bit]; simp [hz, hs])
    rw [cloB_bit hg, Bool.or_eq_true] at h1
    rcases h1 with h1 | h1
    · exact absurd (beq_iff_eq.1 h1).symm hne
    · exact h1
  · intro h z hz
    rw [numOf_bit, Bool.and_eq_true, decide_eq_true_iff] at hz
    rw [cloB_bit hg, Bool.or_eq_true]
    by_cases e : x = z
    · exact .inl (by simpa using e)
    · exact .inr (h z hz.1 hz.2 (fun h => e h.symm))
theorem clique_any {n : Nat} {l : List Ed} (hg : P2.Good (n : Int) l) {S : Nat → Bool} : (!(nw S n).any fun x => !allN n l S x.toNat) = cliqueB n l S := by
  rw [Bool.eq_iff_iff, cliqueB_iff, Bool.not_eq_true', List.any_eq_false]
  constructor
  · intro h a b ha hb hsa hsb hne
    have h1 := h (a : Int) (mem_nw.2 ⟨a, ha, hsa, rfl⟩)
    rw [Int.toNat_natCast] at h1
    exact (allN_iff hg).1 (by simpa using h1) b hb hsb (fun e => hne e.symm)
  · intro h x hx
    obtain ⟨j, hj, hs, rfl⟩ := mem_nw.1 hx
    rw [Int.toNat_natCast, (allN_iff hg).2 fun z hz hsz hne => h j z hj hz hs hsz (fun e => hne e.symm)]
    simp
end Go.Proofs.YtdhbaegkogklgaaDoor.costs

/- The contract of the program's firstSet: the best set for which a test holds. -/
namespace Go.Proofs.YtdhbaegkogklgaaDoor.ups
open Go.RowKit P2 words edges ints good adjs fns sets rets covs bitsI func
set_option linter.unusedVariables false

theorem FnU.on {w w' : World} {f : FuncId} {caps : Array Value} {xs : List Nat} {p : Nat → Bool} (h : FnU w f caps xs p) (hb : Below w.heap.size w w') : FnU w' f caps xs p :=
  { enter := h.enter, call := fun W hW x hx => h.call W (btrans hb hW) x hx }
set_option maxHeartbeats 2000000 in
set_option maxRecDepth 100000 in
theorem firstSet_any (n : Nat) (f : FuncId) (caps : Array Value) (p : Nat → Bool) (w : World) (hn : n ≤ 8) (h : FnU w f caps (setsN n n) p) (ha : p (2 ^ n - 1) = true) :
    Calls Tryd.prog 71 #[.int .i64 (n : Int), .func (.func f) #[] caps] w fun e w' => bestC p rkMin n < 2 ^ n ∧ e = .returned (.int .u64 (bestC p rkMin n : Int)) ∧ Below w.heap.size w w' := by
  have HSU := Lib.hid (setsUpTo_own n n w hn hn)
  have HF := Lib.hid (fun (W : World) (hW : Below w.heap.size w W) (v : Value) (hv : Nums W v (setsN n n)) => indexFuncU_any v (setsN n n) f caps p W hv (by have := sets_len hn hn; omega) (FnU.on h hW))
  obtain ⟨i, y, hi, hy, hp, hf⟩ := idxF_some ((mem_all hn).2 (show 2 ^ n - 1 < 2 ^ n from by have := Nat.pow_pos (n := n) (show 0 < 2 by decide); omega)) ha
  have HV : Hid (bestC p rkMin n = y) := bestC_is hn rkMin_inj (min_C hn hy hp hf)
  have HYN : Hid (y < 2 ^ n) := (mem_all hn).1 (List.mem_of_getElem? hy)
  have hil : (i : Int) < ((setsN n n).length : Int) := by have := (List.getElem?_eq_some_iff.1 hy).1; omega
  have HY := Lib.hid hy
  have HHI := Lib.hid hi
  rw [HV.out]
  clear h ha hi hy hp hf HV
  generalize setsN n n = S at *
  go_enter Tryd.func71, Tryd.ntmps71
  go_wp2_with fail
  refine HSU.out.mono ?_
  rintro e w4 ⟨A5, c5, rfl, o5, b5⟩
  have HB4 := Lib.hid b5
  have HN5 : Hid (Nums w4 (.slice A5 S.length c5) S) := Reads.of_own o5
  have HIX := Lib.hid (HF.out w4 b5 _ HN5.out)
  rw [HHI.out] at HIX
  clear o5 b5 HF HSU
  go_wp2_with fail
  refine HIX.out.mono ?_
  rintro e w6 ⟨rfl, b6⟩
  have HB6 := Lib.hid (btrans HB4.out b6)
  obtain ⟨_, _, hf5, hcc⟩ := (show Nums w6 (.slice A5 S.length c5) S from HN5.out.below b6).form
  cases hf5
  obtain ⟨g7, o7, rfl, c7⟩ := hcc i y HY.out
  clear hcc b6
  go_wp2_with fail
  go_ret
  exact ⟨HYN.out, rfl, HB6.out⟩
end Go.Proofs.YtdhbaegkogklgaaDoor.ups

/- The contract of the program's largestSet: the largest set for which a test holds. -/
namespace Go.Proofs.YtdhbaegkogklgaaDoor.ups
open Go.RowKit P2 words edges ints good adjs fns sets rets covs bitsI func
set_option linter.unusedVariables false

end Go.Proofs.YtdhbaegkogklgaaDoor.ups

/- CliqueOf: the contract of the program's function; num_bits. -/
namespace Go.Proofs.YtdhbaegkogklgaaDoor.ups
open Go.RowKit P2 words edges ints good adjs fns sets rets covs bags bitsI func costs
set_option linter.unusedVariables false

theorem numb {n g : Nat} (hg : g < 2 ^ n) : numOf (bitB g) n = g := by
  apply Nat.eq_of_testBit_eq
  intro i
  rw [numOf_bit]
  unfold bitB
  by_cases hi : i < n
  · simp [hi]
  · rw [decide_eq_false hi, Bool.false_and, Nat.testBit_lt_two_pow (Nat.lt_of_lt_of_le hg (Nat.pow_le_pow_right (by decide) (by omega)))]
noncomputable def clqC (n : Nat) (l : List Ed) (c : Nat) : Bool := cliqueB n l (bitB c)
theorem clq_zero (n : Nat) (l : List Ed) : clqC n l 0 = true := by
  unfold clqC
  rw [cliqueB_iff]
  intro a b ha hb hpa
  unfold bitB at hpa
  simp at hpa
noncomputable def clqN (n : Nat) (l : List Ed) : Nat := bestC (clqC n l) rkMax n
end Go.Proofs.YtdhbaegkogklgaaDoor.ups

/- The lists of cops, by their first nodes and by their last ones. It imports nothing of the program. -/
namespace Go.Proofs.YtdhbaegkogklgaaDoor.lists
set_option linter.unusedVariables false

def castL (L : List Nat) : List Int := L.map fun x : Nat => (x : Int)
theorem castL_len (L : List Nat) : (castL L).length = L.length := by simp [castL]
theorem castL_cons (x : Nat) (L : List Nat) : castL (x :: L) = (x : Int) :: castL L := rfl
theorem castL_snoc (L : List Nat) (x : Nat) : castL (L ++ [x]) = castL L ++ [(x : Int)] := by simp [castL]
theorem castL_at {L : List Nat} {k x : Nat} (h : L[k]? = some x) : (castL L)[k]? = some (x : Int) := by simp [castL, h]
/-- f, f + 1, .., x - 1 -/
def upL (f x : Nat) : List Nat := List.range' f (x - f)
theorem upL_nil (f : Nat) : upL f f = [] := by simp [upL]
theorem upL_succ {f x : Nat} (h : f ≤ x) : upL f (x + 1) = upL f x ++ [x] := by
  unfold upL
  rw [show x + 1 - f = (x - f) + 1 from by omega, List.range'_1_concat, show f + (x - f) = x from by omega]
theorem upL_mem {f x y : Nat} : y ∈ upL f x ↔ f ≤ y ∧ y < x := by
  unfold upL
  rw [List.mem_range'_1]
  omega
theorem upL_len (f x : Nat) : (upL f x).length = x - f := by simp [upL]
/-- all lists of k nodes of f, .., n - 1, in order -/
def listsN (n : Nat) : Nat → Nat → List (List Nat)
  | 0, _ => [[]]
  | k + 1, f => (upL f n).flatMap fun x => (listsN n k x).map (x :: ·)
def outK (n k f x : Nat) : List (List Nat) := (upL f x).flatMap fun y => (listsN n k y).map (y :: ·)
theorem outK_nil (n k f : Nat) : outK n k f f = [] := by unfold outK; rw [upL_nil]; rfl
theorem outK_all (n k f : Nat) : outK n k f n = listsN n (k + 1) f := rfl
theorem outK_succ {n k f x : Nat} (h : f ≤ x) : outK n k f (x + 1) = outK n k f x ++ (listsN n k x).map (x :: ·) := by
  unfold outK; rw [upL_succ h, List.flatMap_append]; simp
theorem flatMap_le {α β : Type} {M : Nat} {F : α → List β} : ∀ (L : List α), (∀ a ∈ L, (F a).length ≤ M) → (L.flatMap F).length ≤ L.length * M
  | [], _ => by simp
  | a :: L, h => by
    rw [List.flatMap_cons, List.length_append, List.length_cons, Nat.succ_mul]
    have h1 := h a List.mem_cons_self
    have h2 := flatMap_le L fun b hb => h b (List.mem_cons_of_mem _ hb)
    omega
theorem lists_len {n : Nat} (hn : n ≤ 8) : ∀ k f, (listsN n k f).length ≤ 8 ^ k
  | 0, f => by simp [listsN]
  | k + 1, f => by
    have h := flatMap_le (M := 8 ^ k) (F := fun x => (listsN n k x).map (x :: ·)) (upL f n) fun a _ => by rw [List.length_map]; exact lists_len hn k a
    rw [upL_len] at h
    have h2 : (n - f) * 8 ^ k ≤ 8 * 8 ^ k := Nat.mul_le_mul_right _ (by omega)
    rw [Nat.pow_succ, Nat.mul_comm (8 ^ k) 8]
    exact Nat.le_trans h h2
theorem out_len {n : Nat} (hn : n ≤ 8) {k f x : Nat} (hx : x ≤ n) : (outK n k f x).length ≤ 8 * 8 ^ k := by
  have h := flatMap_le (M := 8 ^ k) (F := fun x => (listsN n k x).map (x :: ·)) (upL f x) fun a _ => by rw [List.length_map]; exact lists_len hn k a
  rw [upL_len] at h
  exact Nat.le_trans h (Nat.mul_le_mul_right _ (by omega))
/-- each has k nodes -/
theorem lists_mem {n : Nat} : ∀ (k f : Nat) (L : List Nat), L ∈ listsN n k f → L.length = k ∧ ∀ x ∈ L, f ≤ x ∧ x < n
  | 0, f, L, h => by
    have : L = [] := by simpa [listsN] using h
    subst this
    exact ⟨rfl, fun x hx => by simp at hx⟩
  | k + 1, f, L, h => by
    obtain ⟨x, hx, h2⟩ := List.mem_flatMap.1 (show L ∈ (upL f n).flatMap _ from h)
    obtain ⟨M, hM, rfl⟩ := List.mem_map.1 h2
    obtain ⟨h3, h4⟩ := lists_mem k x M hM
    have hx2 := upL_mem.1 hx
    refine ⟨by simp [h3], fun y hy => ?_⟩
    rcases List.mem_cons.1 hy with rfl | hy
    · exact hx2
    · have := h4 y hy; omega
/-- the last node, f if there is none -/
def lastD (f : Nat) (L : List Nat) : Nat := L.getLast?.getD f
theorem last_cons (f x : Nat) (L : List Nat) : lastD f (x :: L) = lastD x L := by
  unfold lastD
  cases L with
  | nil => rfl
  | cons y L => simp [List.getLast?_eq_some_getLast]
/-- a list's longer ones -/
def extL (n f : Nat) (L : List Nat) : List (List Nat) := (upL (lastD f L) n).map fun x => L ++ [x]
theorem flatMap_one {α β : Type} {g : α → β} : ∀ L : List α, L.flatMap (fun x => [g x]) = L.map g
  | [] => rfl
  | a :: L => by rw [List.flatMap_cons, List.map_cons, flatMap_one L]; rfl
theorem lists_snoc (n : Nat) : ∀ k f, listsN n (k + 1) f = (listsN n k f).flatMap (extL n f)
  | 0, f => by
    show (upL f n).flatMap (fun x => (listsN n 0 x).map (x :: ·)) = [[]].flatMap (extL n f)
    show (upL f n).flatMap (fun x => [[x]]) = ((upL f n).map fun x => [] ++ [x]) ++ []
    rw [List.append_nil, flatMap_one]
    rfl
  | k + 1, f => by
    show (upL f n).flatMap (fun x => (listsN n (k + 1) x).map (x :: ·)) = ((upL f n).flatMap fun x => (listsN n k x).map (x :: ·)).flatMap (extL n f)
    rw [List.flatMap_assoc]
    congr 1
    funext x
    rw [lists_snoc n k x, List.map_flatMap, List.flatMap_map]
    congr 1
    funext L
    unfold extL
    rw [last_cons, List.map_map]
    rfl
end Go.Proofs.YtdhbaegkogklgaaDoor.lists
