/- Guards: dominating, independent sets and cliques: mathematics. -/
import Derived.Test.YtdhbaegkogklgaaK08
import Derived.Test.YtdhbaegkogklgaaK09
import Derived.Test.YtdhbaegkogklgaaK12
import Derived.Handy
import Derived.Test.YtdhbaegkogklgaaK04
import Derived.Deep.DeepCutAuto
import Derived.Deep.RegionHeld3
import Derived.Deep.QuietTactic
namespace Go.Proofs.Ytdhbaegkogklgaa.ups
open Go.RowKit P2 words edges ints good adjs fns sets rets covs bitsI bags costs reach
set_option linter.unusedVariables false

/-- a set is dominating -/
def domB (n : Nat) (l : List Ed) (c : Nat) : Bool := arN l n c == 2 ^ n - 1
theorem inC_pos {l : List Ed} {xs : List Int} {x : Int} : inC l xs x ≠ 0 ↔ ∃ y ∈ xs, adj l y x = true := by
  unfold inC
  rw [Ne, List.length_eq_zero_iff, List.filter_eq_nil_iff]
  constructor
  · intro h
    simp only [Classical.not_forall] at h
    obtain ⟨y, hy, hp⟩ := h
    exact ⟨y, hy, by simpa using hp⟩
  · rintro ⟨y, hy, hp⟩ h
    exact h y hy hp
/-- a node is in the set, or one of its neighbors is -/
def domX (l : List Ed) (xs : List Int) (x : Int) : Bool := decide (x ∈ xs) || !(inC l xs x == 0)
theorem domX_iff {l : List Ed} {xs : List Int} {x : Int} : domX l xs x = true ↔ x ∈ xs ∨ ∃ y ∈ xs, adj l y x = true := by
  unfold domX
  rw [Bool.or_eq_true, decide_eq_true_iff, Bool.not_eq_true', beq_eq_false_iff_ne, inC_pos]
theorem dom_all {n : Nat} {l : List Ed} {xs : List Int} (hr : ∀ x ∈ xs, 0 ≤ x ∧ x < (n : Int)) : domB n l (codeL xs) = true ↔ ∀ x : Nat, x < n → domX l xs (x : Int) = true := by
  unfold domB
  rw [beq_iff_eq]
  have hbit : ∀ y, (arN l n (codeL xs)).testBit y = true ↔ y < n ∧ domX l xs (y : Int) = true := by
    intro y
    unfold arN
    rw [numOf_bit, Bool.and_eq_true, decide_eq_true_iff, arB_iff, domX_iff]
    constructor
    · rintro ⟨h1, x, hx, hc, h2⟩
      rw [code_bit (fun z hz => (hr z hz).1), decide_eq_true_iff] at hc
      rcases h2 with h2 | h2
      · subst h2; exact ⟨h1, .inl hc⟩
      · exact ⟨h1, .inr ⟨_, hc, h2⟩⟩
    · rintro ⟨h1, h2 | ⟨x, hx, h2⟩⟩
      · exact ⟨h1, y, h1, by rw [code_bit (fun z hz => (hr z hz).1), decide_eq_true_iff]; exact h2, .inl rfl⟩
      · obtain ⟨h3, h4⟩ := hr x hx
        refine ⟨h1, x.toNat, by omega, ?_, .inr ?_⟩
        · rw [code_bit (fun z hz => (hr z hz).1), decide_eq_true_iff, Int.toNat_of_nonneg h3]; exact hx
        · rw [Int.toNat_of_nonneg h3]; exact h2
  constructor
  · intro h x hx
    refine ((hbit x).1 ?_).2
    rw [h, Nat.testBit_two_pow_sub_one, decide_eq_true_iff]; exact hx
  · intro h
    apply Nat.eq_of_testBit_eq
    intro y
    rw [Nat.testBit_two_pow_sub_one, Bool.eq_iff_iff, hbit, decide_eq_true_iff]
    exact ⟨fun h => h.1, fun hy => ⟨hy, h y hy⟩⟩
/-- the first k nodes are dominated -/
def DomK (l : List Ed) (xs : List Int) (k : Nat) : Prop := ∀ x : Nat, x < k → domX l xs (x : Int) = true
theorem DomK.next {l : List Ed} {xs : List Int} {k : Nat} (h : DomK l xs k) (hk : domX l xs (k : Int) = true) : DomK l xs (k + 1) := fun x hx => by
  by_cases e : x = k
  · subst e; exact hk
  · exact h x (by omega)
theorem dom_no {n k : Nat} {l : List Ed} {xs : List Int} (hr : ∀ x ∈ xs, 0 ≤ x ∧ x < (n : Int)) (hk : k < n) (h : domX l xs (k : Int) = false) : domB n l (codeL xs) = false := by
  rw [Bool.eq_false_iff]
  intro h2
  have := (dom_all hr).1 h2 k hk
  rw [h] at this; cases this
theorem dom_full (n : Nat) (l : List Ed) : domB n l (2 ^ n - 1) = true := by
  rw [← code_all, dom_all (fun x hx => mem_allN.1 hx)]
  intro x hx
  rw [domX_iff]
  exact .inl (mem_allN.2 ⟨by omega, by omega⟩)
/-- the neighborhoods with the nodes are the balls of one step -/
theorem clos_bal {n : Nat} {l : List Ed} (hg : P2.Good (n : Int) l) : clos l n = balN l n 1 := by
  unfold clos balN
  refine List.map_congr_left fun x hx => ?_
  have hx := List.mem_range.1 hx
  apply Nat.eq_of_testBit_eq
  intro z
  rw [cloB_bit hg, Bool.eq_iff_iff, bN_iff hx, Bool.or_eq_true, beq_iff_eq]
  show _ ↔ z < n ∧ ∃ y, y < n ∧ x = y ∧ (y = z ∨ adj l (y : Int) (z : Int) = true)
  constructor
  · rintro (rfl | h)
    · exact ⟨hx, x, hx, rfl, .inl rfl⟩
    · have := (adj_node hg h).2
      exact ⟨by omega, x, hx, rfl, .inr h⟩
  · rintro ⟨_, y, _, rfl, h⟩
    exact h
/-- any two numbers of a list are neighbors, or none are -/
def AlkL (l : List Ed) (xs : List Int) (b : Bool) : Prop := ∀ (i k : Nat) (x y : Int), k < i → xs[i]? = some x → xs[k]? = some y → adj l x y = b
def AlkA (l : List Ed) (xs : List Int) (b : Bool) (m : Nat) : Prop := ∀ (i k : Nat) (x y : Int), i < m → k < i → xs[i]? = some x → xs[k]? = some y → adj l x y = b
def AlkB (l : List Ed) (xs : List Int) (b : Bool) (m j : Nat) : Prop := AlkA l xs b m ∧ ∀ (k : Nat) (x y : Int), k < j → k < m → xs[m]? = some x → xs[k]? = some y → adj l x y = b
theorem AlkB.next {l : List Ed} {xs : List Int} {b : Bool} {m j : Nat} {x y : Int} (h : AlkB l xs b m j) (hx : xs[m]? = some x) (hy : xs[j]? = some y) (ha : adj l x y = b) : AlkB l xs b m (j + 1) :=
  ⟨h.1, fun k x' y' h1 h2 h3 h4 => by
    by_cases e : k = j
    · subst e; rw [hx] at h3; rw [hy] at h4; cases h3; cases h4; exact ha
    · exact h.2 k x' y' (by omega) h2 h3 h4⟩
theorem AlkB.all {l : List Ed} {xs : List Int} {b : Bool} {m j : Nat} (h : AlkB l xs b m j) (hj : m ≤ j) : AlkA l xs b (m + 1) := fun i k x y h1 h2 h3 h4 => by
  by_cases e : i = m
  · subst e; exact h.2 k x y (by omega) h2 h3 h4
  · exact h.1 i k x y (by omega) h2 h3 h4
theorem AlkA.done {l : List Ed} {xs : List Int} {b : Bool} {m : Nat} (h : AlkA l xs b m) (hm : xs.length ≤ m) : AlkL l xs b := fun i k x y h1 h2 h3 =>
  h i k x y (by have := (List.getElem?_eq_some_iff.1 h2).1; omega) h1 h2 h3
theorem alk_clq {l : List Ed} {xs : List Int} : AlkL l xs true ↔ ClqL l xs :=
  ⟨fun h a b x y h1 h2 h3 => by rw [adj_comm]; exact h b a y x h1 h3 h2, fun h i k x y h1 h2 h3 => by rw [adj_comm]; exact h k i y x h1 h3 h2⟩
theorem alk_far {n c : Nat} {l : List Ed} (hg : P2.Good (n : Int) l) (hn : n ≤ 8) (hc : c < 2 ^ n) : okG (AlkL l (nw (bitB c) n) false) = farB l n 1 c := by
  rw [Bool.eq_iff_iff, okG_iff, far_iff hg hn hc]
  have hasc := List.pairwise_iff_getElem.1 (nw_asc (bitB c) n)
  constructor
  · intro h x y hx hyx hcx hcy hw
    obtain ⟨i, hi⟩ := List.getElem?_of_mem (mem_nw.2 ⟨x, hx, (show bitB c x = true from hcx), rfl⟩)
    obtain ⟨k, hk⟩ := List.getElem?_of_mem (mem_nw.2 ⟨y, (show y < n by omega), (show bitB c y = true from hcy), rfl⟩)
    have hki : k < i := by
      rcases Nat.lt_trichotomy k i with e | e | e
      · exact e
      · subst e; rw [hi] at hk; cases hk; omega
      · obtain ⟨a1, e1⟩ := List.getElem?_eq_some_iff.1 hi
        obtain ⟨a2, e2⟩ := List.getElem?_eq_some_iff.1 hk
        have := hasc i k a1 a2 e
        omega
    have h1 := h i k _ _ hki hi hk
    obtain ⟨z, _, hz, h2⟩ := hw
    have hz : x = z := hz
    subst hz
    rcases h2 with h2 | h2
    · omega
    · rw [h1] at h2; cases h2
  · intro h i k x y h1 h2 h3
    obtain ⟨x, rfl, hx, hcx⟩ := nw_at h2
    obtain ⟨y, rfl, hy, hcy⟩ := nw_at h3
    obtain ⟨a1, e1⟩ := List.getElem?_eq_some_iff.1 h2
    obtain ⟨a2, e2⟩ := List.getElem?_eq_some_iff.1 h3
    have := hasc k i a2 a1 h1
    rw [Bool.eq_false_iff]
    intro ha
    exact h x y hx (by omega) hcx hcy ⟨x, hx, rfl, .inr ha⟩
end Go.Proofs.Ytdhbaegkogklgaa.ups

/- The contracts of the program's isClique and PerfectElimination. -/
namespace Go.Proofs.Ytdhbaegkogklgaa.costs
open Go.RowKit P2 words edges ints good adjs fns sets rets covs reach bags bitsI fronts func
set_option linter.unusedVariables false

/-- all of a set are neighbors of a node, or it -/
def allN (n : Nat) (l : List Ed) (S : Nat → Bool) (x : Nat) : Bool := decide (numOf S n &&& cloB l x = numOf S n)
theorem allN_iff {n : Nat} {l : List Ed} (hg : P2.Good (n : Int) l) {S : Nat → Bool} {x : Nat} : allN n l S x = true ↔ ∀ z, z < n → S z = true → z ≠ x → adj l (x : Int) (z : Int) = true := by
  unfold allN
  rw [decide_eq_true_iff, sub_iff]
  constructor
  · intro h z hz hs hne
    have h1 := h z (by rw [numOf_bit]; simp [hz, hs])
    rw [cloB_bit hg, Bool.or_eq_true] at h1
    rcases h1 with h1 | h1
    · exact absurd (beq_iff_eq.1 h1).symm hne
    · exact h1
  · intro h z hz
    rw [numOf_bit, Bool.and_eq_true, decide_eq_true_iff] at hz
    rw [cloB_bit hg, Bool.or_eq_true]
    by_cases e : x = z
    · exact .inl (by simpa using e)
    · exact .inr (h z hz.1 hz.2 (fun h => e h.symm))
theorem clique_any {n : Nat} {l : List Ed} (hg : P2.Good (n : Int) l) {S : Nat → Bool} : (!(nw S n).any fun x => !allN n l S x.toNat) = cliqueB n l S := by
  rw [Bool.eq_iff_iff, cliqueB_iff, Bool.not_eq_true', List.any_eq_false]
  constructor
  · intro h a b ha hb hsa hsb hne
    have h1 := h (a : Int) (mem_nw.2 ⟨a, ha, hsa, rfl⟩)
    rw [Int.toNat_natCast] at h1
    exact (allN_iff hg).1 (by simpa using h1) b hb hsb (fun e => hne e.symm)
  · intro h x hx
    obtain ⟨j, hj, hs, rfl⟩ := mem_nw.1 hx
    rw [Int.toNat_natCast, (allN_iff hg).2 fun z hz hsz hne => h j z hj hz hs hsz (fun e => hne e.symm)]
    simp
set_option maxHeartbeats 1000000 in
set_option maxRecDepth 100000 in
theorem cliqueClo_any (n x b1 b2 : Nat) (S : Nat → Bool) (v : Value) (l : List Ed) (w : World) (h1 : w.cell? ⟨b1, 0, none⟩ = some (.int .u64 (numOf S n : Int))) (h2 : w.cell? ⟨b2, 0, none⟩ = some v) (h : Nums w v (clos l n)) (hg : P2.Good (n : Int) l) (hn : n ≤ 8) (hx : x < n) :
    Calls Try.prog 105 #[.int .i64 (x : Int), .pointer (some ⟨b1, 0, none⟩), .pointer (some ⟨b2, 0, none⟩)] w fun e w' => e = .returned (.bool (!allN n l S x)) ∧ Below w.heap.size w w' := by
  obtain ⟨A, c, rfl, hcl⟩ := h.form
  obtain ⟨g6, o6, rfl, c6⟩ := hcl x _ (clos_at hx)
  have hlen := clos_len l n
  rw [hlen] at h2
  have hx' : (x : Int) < (n : Int) := by omega
  have HT : Hid ((bits .andNot .u64 ((numOf S n : Nat) : Int) ((cloB l x : Nat) : Int) == 0) = allN n l S x) := bits_andNot0 _ _ (by have := numOf_lt S hn; omega) (by have := cloB_lt' hg x (by omega); omega)
  clear hcl h hg hlen
  generalize numOf S n = a at *
  generalize cloB l x = b at *
  generalize allN n l S x = r at *
  go_enter Try.func105, Try.ntmps105
  go_wp2_with fail
  go_quiet (fail)
  go_wp2_with fail
  go_ret
  exact ⟨by rw [← HT.out]; rfl, below_drewN (Below.refl _ _) _⟩
set_option maxHeartbeats 1000000 in
set_option maxRecDepth 100000 in
theorem isClique_any (n : Nat) (S : Nat → Bool) (v : Value) (l : List Ed) (w : World) (h : Nums w v (clos l n)) (hg : P2.Good (n : Int) l) (hn : n ≤ 8) :
    Calls Try.prog 75 #[v, .int .u64 (numOf S n : Int)] w fun e w' => e = .returned (.bool (cliqueB n l S)) ∧ Below w.heap.size w w' := by
  obtain ⟨A, c, rfl, -⟩ := h.form
  have hmf : ∀ (fn : Fn) (first cap : Array Value) (w : World), (Instr.makeFunc fn first cap).run Try.prog w = .ok (.func fn first cap) w := fun _ _ _ _ => rfl
  have b1 : Below w.heap.size w (w.alloc (.cells #[.slice A (clos l n).length c] 57)) := (Below.refl _ _).alloc (Nat.le_refl _) _
  have b2 : Below w.heap.size w ((w.alloc (.cells #[.slice A (clos l n).length c] 57)).alloc (.cells #[.int .u64 (numOf S n : Int)] 62)) := b1.alloc (by simp) _
  have HB2 := Lib.hid b2
  have g1 := (Blk.new w 57 #[.slice A (clos l n).length c]).alloc (.cells #[.int .u64 (numOf S n : Int)] 62)
  have g2 := Blk.new (w.alloc (.cells #[.slice A (clos l n).length c] 57)) 62 #[.int .u64 (numOf S n : Int)]
  rw [World.size_alloc] at g2
  have HG1 := Lib.hid g1
  have HG2 := Lib.hid g2
  have p2 : ((w.alloc (.cells #[.slice A (clos l n).length c] 57)).alloc (.cells #[.int .u64 (numOf S n : Int)] 62)).cell? ⟨w.heap.size + 1, 0, none⟩ = some (.int .u64 (numOf S n : Int)) := g2.cell 0
  have HND := Lib.hid (nodes_any (numOf S n) ((w.alloc (.cells #[.slice A (clos l n).length c] 57)).alloc (.cells #[.int .u64 (numOf S n : Int)] 62)) (by have := numOf_lt S hn; omega))
  rw [nodes_num hn] at HND
  have HV := Lib.hid (clique_any (S := S) hg)
  have HGD := Lib.hid hg
  have HN := Lib.hid h
  have hl8 : (nw S n).length ≤ 1048576 := by have := nw_len S n; omega
  clear h hg b1 b2 g1 g2
  go_enter Try.func75, Try.ntmps75
  go_wp2_with fail
  refine HND.out.mono ?_
  rintro e w3 ⟨A3, c3, rfl, o3, b3⟩
  have HB3 := Lib.hid (btrans HB2.out b3)
  have HCF := Lib.hid (containsFuncI_any (.slice A3 (nw S n).length c3) (nw S n) 105 #[.pointer (some ⟨w.heap.size + 1, 0, none⟩), .pointer (some ⟨w.heap.size, 0, none⟩)] (fun x => !allN n l S x.toNat) w3 (show Ints _ _ _ from Reads.of_own o3) hl8
    { enter := fun _ _ => by kernel_rfl
      call := fun W hW x hx => by
        obtain ⟨j, hj, hs, rfl⟩ := mem_nw.1 hx
        rw [Int.toNat_natCast]
        exact cliqueClo_any n j (w.heap.size + 1) w.heap.size S _ l W (((HG2.out.below b3 HG2.out.lt).below hW (HG2.out.below b3 HG2.out.lt).lt).cell 0) (((HG1.out.below b3 HG1.out.lt).below hW (HG1.out.below b3 HG1.out.lt).lt).cell 0) (HN.out.below (btrans HB3.out hW)) HGD.out hn hj })
  clear o3 b3 p2
  go_wp2_with fail
  refine HCF.out.mono ?_
  rintro e w4 ⟨rfl, b4⟩
  have HB4 := Lib.hid (btrans HB3.out b4)
  go_wp2_with fail
  go_ret
  rw [HV.out]
  exact ⟨rfl, HB4.out⟩
end Go.Proofs.Ytdhbaegkogklgaa.costs

/- The contract of the program's firstSet: the best set for which a test holds. -/
namespace Go.Proofs.Ytdhbaegkogklgaa.ups
open Go.RowKit P2 words edges ints good adjs fns sets rets covs bitsI func
set_option linter.unusedVariables false

theorem FnU.on {w w' : World} {f : FuncId} {caps : Array Value} {xs : List Nat} {p : Nat → Bool} (h : FnU w f caps xs p) (hb : Below w.heap.size w w') : FnU w' f caps xs p :=
  { enter := h.enter, call := fun W hW x hx => h.call W (btrans hb hW) x hx }
end Go.Proofs.Ytdhbaegkogklgaa.ups

/- The contract of the program's largestSet: the largest set for which a test holds. -/
namespace Go.Proofs.Ytdhbaegkogklgaa.ups
open Go.RowKit P2 words edges ints good adjs fns sets rets covs bitsI func
set_option linter.unusedVariables false

end Go.Proofs.Ytdhbaegkogklgaa.ups

/- CliqueOf: the contract of the program's function; num_bits. -/
namespace Go.Proofs.Ytdhbaegkogklgaa.ups
open Go.RowKit P2 words edges ints good adjs fns sets rets covs bags bitsI func costs
set_option linter.unusedVariables false

theorem numb {n g : Nat} (hg : g < 2 ^ n) : numOf (bitB g) n = g := by
  apply Nat.eq_of_testBit_eq
  intro i
  rw [numOf_bit]
  unfold bitB
  by_cases hi : i < n
  · simp [hi]
  · rw [decide_eq_false hi, Bool.false_and, Nat.testBit_lt_two_pow (Nat.lt_of_lt_of_le hg (Nat.pow_le_pow_right (by decide) (by omega)))]
noncomputable def clqC (n : Nat) (l : List Ed) (c : Nat) : Bool := cliqueB n l (bitB c)
theorem clq_zero (n : Nat) (l : List Ed) : clqC n l 0 = true := by
  unfold clqC
  rw [cliqueB_iff]
  intro a b ha hb hpa
  unfold bitB at hpa
  simp at hpa
noncomputable def clqN (n : Nat) (l : List Ed) : Nat := bestC (clqC n l) rkMax n
end Go.Proofs.Ytdhbaegkogklgaa.ups

/- Clique covers: mathematics. -/
namespace Go.Proofs.Ytdhbaegkogklgaa.ups
open Go.RowKit P2 words edges ints good adjs fns sets rets covs bitsI bags costs reach
set_option linter.unusedVariables false

theorem countP_or {α : Type} (p q : α → Bool) : ∀ (L : List α), L.countP (fun x => p x || q x) + L.countP (fun x => p x && q x) = L.countP p + L.countP q
  | [] => rfl
  | x :: L => by
    have := countP_or p q L
    simp only [List.countP_cons]
    cases p x <;> cases q x <;> simp <;> omega
theorem ones_or {a b : Nat} (h : a &&& b = 0) : onesN (a ||| b) = onesN a + onesN b := by
  unfold onesN nw
  rw [List.length_map, List.length_map, List.length_map, ← List.countP_eq_length_filter, ← List.countP_eq_length_filter, ← List.countP_eq_length_filter]
  have h1 := countP_or (bitB a) (bitB b) (List.range 8)
  have h2 : (List.range 8).countP (fun x => bitB a x && bitB b x) = 0 := by
    rw [List.countP_eq_zero]
    intro x _
    have : (a &&& b).testBit x = false := by rw [h]; simp
    rw [Nat.testBit_and] at this
    unfold bitB
    rw [this]; simp
  have h3 : (List.range 8).countP (bitB (a ||| b)) = (List.range 8).countP (fun x => bitB a x || bitB b x) := by
    congr 1
    funext x
    unfold bitB
    rw [Nat.testBit_or]
  omega
theorem code_put {xs : List Int} {x : Int} : codeL (xs ++ [x]) = codeL xs ||| 2 ^ x.toNat := by unfold codeL; rw [List.foldl_append]; rfl
/-- what lists cover -/
def cvN (q : List (List Int)) (k : Nat) : Nat := (q.take k).foldl (fun a xs => a ||| codeL xs) 0
theorem cvN_zero (q : List (List Int)) : cvN q 0 = 0 := rfl
theorem cvN_succ {q : List (List Int)} {k : Nat} {xs : List Int} (h : q[k]? = some xs) : cvN q (k + 1) = cvN q k ||| codeL xs := by
  unfold cvN
  rw [List.take_add_one, h, List.foldl_append]; rfl
/-- a list is one more clique beside what is covered -/
def CvS (n : Nat) (l : List Ed) (cv : Nat) (xs : List Int) : Prop := (SetOk (n : Int) l xs ∧ xs ≠ []) ∧ (codeL xs &&& cv = 0 ∧ clqC n l (codeL xs) = true)
def CvK (n : Nat) (l : List Ed) (q : List (List Int)) (k : Nat) : Prop := ∀ i xs, i < k → q[i]? = some xs → CvS n l (cvN q i) xs
theorem CvK.zero (n : Nat) (l : List Ed) (q : List (List Int)) : CvK n l q 0 := fun i xs h => by omega
theorem CvK.next {n : Nat} {l : List Ed} {q : List (List Int)} {k : Nat} {xs : List Int} (h : CvK n l q k) (hx : q[k]? = some xs) (hs : CvS n l (cvN q k) xs) : CvK n l q (k + 1) := fun i ys hi hy => by
  by_cases e : i = k
  · subst e; rw [hx] at hy; cases hy; exact hs
  · exact h i ys (by omega) hy
theorem cvN_lt {n : Nat} {l : List Ed} {q : List (List Int)} : ∀ {k : Nat}, k ≤ q.length → CvK n l q k → cvN q k < 2 ^ n
  | 0, _, _ => Nat.pow_pos (by decide)
  | k + 1, hk, h => by
    obtain ⟨xs, hx⟩ : ∃ xs, q[k]? = some xs := ⟨_, List.getElem?_eq_getElem (by omega)⟩
    rw [cvN_succ hx]
    exact Nat.or_lt_two_pow (cvN_lt (by omega) fun i ys hi hy => h i ys (by omega) hy) (code_lt (m := n) (h k xs (by omega) hx).1.1.2.1)
/-- lists are a clique cover -/
def CvP (n : Nat) (l : List Ed) (q : List (List Int)) : Prop := CvK n l q q.length ∧ cvN q q.length = 2 ^ n - 1
def CovP (s : Int) (l : List Ed) (q : List (List Int)) : Prop := P2.Good s l ∧ CvP s.toNat l q
theorem cvP_no {n k : Nat} {l : List Ed} {q : List (List Int)} {xs : List Int} (hx : q[k]? = some xs) (h : ¬ CvS n l (cvN q k) xs) : ¬ CvP n l q := fun hp =>
  h (hp.1 k xs (List.getElem?_eq_some_iff.1 hx).1 hx)
theorem covP_is {n : Nat} {l : List Ed} {q : List (List Int)} (hg : P2.Good (n : Int) l) : CovP (n : Int) l q ↔ CvP n l q := by
  unfold CovP
  rw [Int.toNat_natCast]
  exact ⟨fun h => h.2, fun h => ⟨hg, h⟩⟩
/-- nothing is covered twice: as lists -/
theorem and_zero {xs : List Int} {cv n : Nat} (hr : ∀ x ∈ xs, 0 ≤ x ∧ x < (n : Int)) : codeL xs &&& cv = 0 ↔ ∀ x ∈ xs, cv.testBit x.toNat = false := by
  constructor
  · intro h x hx
    have h1 : (codeL xs &&& cv).testBit x.toNat = false := by rw [h]; simp
    rw [Nat.testBit_and, code_bit (fun z hz => (hr z hz).1), Int.toNat_of_nonneg (hr x hx).1, decide_eq_true hx, Bool.true_and] at h1
    exact h1
  · intro h
    apply Nat.eq_of_testBit_eq
    intro i
    rw [Nat.testBit_and, code_bit (fun z hz => (hr z hz).1), Nat.zero_testBit]
    by_cases hi : (i : Int) ∈ xs
    · have := h _ hi
      rw [Int.toNat_natCast] at this
      rw [this, Bool.and_false]
    · rw [decide_eq_false hi, Bool.false_and]
theorem set_ones {n : Nat} {l : List Ed} {xs : List Int} (hn : n ≤ 8) (h : SetOk (n : Int) l xs) : xs.length = onesN (codeL xs) := by
  have h1 : xs = nw (bitB (codeL xs)) n := by
    refine asc_ext h.2.2 (nw_asc _ _) fun x => ?_
    rw [mem_nw]
    constructor
    · intro hx
      have := h.2.1 x hx
      refine ⟨x.toNat, by omega, ?_, by omega⟩
      unfold bitB
      rw [code_bit (fun z hz => (h.2.1 z hz).1), Int.toNat_of_nonneg this.1, decide_eq_true hx]
    · rintro ⟨j, hj, hp, rfl⟩
      unfold bitB at hp
      rw [code_bit (fun z hz => (h.2.1 z hz).1)] at hp
      exact of_decide_eq_true hp
  rw [← nd_len, ← nd_bits hn (code_lt (m := n) h.2.1)]
  exact congrArg List.length h1
/-- what the model has seen: all that is covered, each node once -/
def SeenOk (n cv : Nat) (seen : List Int) : Prop := (∀ x : Int, x ∈ seen ↔ 0 ≤ x ∧ x < (n : Int) ∧ cv.testBit x.toNat = true) ∧ seen.length = onesN cv
theorem SeenOk.nil (n : Nat) : SeenOk n 0 [] := ⟨fun x => by simp, by decide⟩
theorem SeenOk.add {n cv : Nat} {l : List Ed} {seen xs : List Int} (hn : n ≤ 8) (h : SeenOk n cv seen) (hs : SetOk (n : Int) l xs) (hd : codeL xs &&& cv = 0) : SeenOk n (cv ||| codeL xs) (seen ++ xs) := by
  refine ⟨fun x => ?_, ?_⟩
  · rw [List.mem_append, h.1 x, Nat.testBit_or, Bool.or_eq_true]
    constructor
    · rintro (⟨h1, h2, h3⟩ | hx)
      · exact ⟨h1, h2, .inl h3⟩
      · have := hs.2.1 x hx
        exact ⟨this.1, this.2, .inr (by rw [code_bit (fun z hz => (hs.2.1 z hz).1), Int.toNat_of_nonneg this.1, decide_eq_true hx])⟩
    · rintro ⟨h1, h2, h3 | h3⟩
      · exact .inl ⟨h1, h2, h3⟩
      · rw [code_bit (fun z hz => (hs.2.1 z hz).1), Int.toNat_of_nonneg h1] at h3
        exact .inr (of_decide_eq_true h3)
  · rw [List.length_append, h.2, set_ones hn hs, ones_or (by rw [Nat.and_comm]; exact hd)]
theorem full_ones {n cv : Nat} (hn : n ≤ 8) (hc : cv < 2 ^ n) : onesN cv = n ↔ cv = 2 ^ n - 1 := by
  have := ones_full ⟨n, by omega⟩ ⟨cv, Nat.lt_of_lt_of_le hc (pow_le hn)⟩ hc
  exact this
/-- the model has put the first k nodes of a list -/
def SeenK (n cv : Nat) (seen xs : List Int) (k : Nat) (S : List Int) : Prop := S = seen ++ xs.take k ∧ ∀ x ∈ xs.take k, cv.testBit x.toNat = false
theorem seen_has {n cv k : Nat} {seen xs S : List Int} {x : Int} (h : SeenOk n cv seen) (ha : Asc xs) (hr : 0 ≤ x ∧ x < (n : Int)) (hk : SeenK n cv seen xs k S) (hx : xs[k]? = some x) : decide (x ∈ S) = cv.testBit x.toNat := by
  rw [hk.1, Bool.eq_iff_iff, decide_eq_true_iff, List.mem_append, h.1 x]
  constructor
  · rintro (⟨_, _, h3⟩ | h3)
    · exact h3
    · exfalso
      obtain ⟨j, hj⟩ := List.getElem?_of_mem h3
      have hjk : j < k := by have := (List.getElem?_eq_some_iff.1 hj).1; rw [List.length_take] at this; omega
      rw [List.getElem?_take_of_lt hjk] at hj
      obtain ⟨a1, e1⟩ := List.getElem?_eq_some_iff.1 hj
      obtain ⟨a2, e2⟩ := List.getElem?_eq_some_iff.1 hx
      have := List.pairwise_iff_getElem.1 ha j k a1 a2 hjk
      omega
  · intro h3
    exact .inl ⟨hr.1, hr.2, h3⟩
theorem SeenK.next {n cv k : Nat} {seen xs S : List Int} {x : Int} (hk : SeenK n cv seen xs k S) (hx : xs[k]? = some x) (hb : cv.testBit x.toNat = false) : SeenK n cv seen xs (k + 1) (S ++ [x]) := by
  refine ⟨by rw [hk.1, List.take_add_one, hx, List.append_assoc]; rfl, fun y hy => ?_⟩
  rw [List.take_add_one, hx, List.mem_append] at hy
  rcases hy with hy | hy
  · exact hk.2 y hy
  · have : y = x := by simpa using hy
    subst this; exact hb
end Go.Proofs.Ytdhbaegkogklgaa.ups
