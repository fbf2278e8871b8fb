/- The contracts of the program's isClique and PerfectElimination. -/
import Derived.Handy
import Derived.Test.YthpodbhiopnnbaaK12
import Derived.Test.YthpodbhiopnnbaaK08
import Derived.Test.YthpodbhiopnnbaaK04
import Derived.Deep.DeepCutAuto
import Derived.Deep.RegionHeld3
import Derived.Deep.QuietTactic
import Derived.Test.YthpodbhiopnnbaaK13
import Derived.Test.YthpodbhiopnnbaaK10
import Derived.Maps.AppendAt
import Derived.Test.YthpodbhiopnnbaaK14
import Derived.Test.YthpodbhiopnnbaaK01
import Derived.Test.YthpodbhiopnnbaaK11
import Derived.Test.YthpodbhiopnnbaaK07
namespace Go.Proofs.Ythpodbhiopnnbaa.costs
open Go.RowKit P2 words edges ints good adjs fns sets rets covs reach bags bitsI fronts func
set_option linter.unusedVariables false

/-- all of a set are neighbors of a node, or it -/
def allN (n : Nat) (l : List Ed) (S : Nat → Bool) (x : Nat) : Bool := decide (numOf S n &&& cloB l x = numOf S n)
theorem allN_iff {n : Nat} {l : List Ed} (hg : P2.Good (n : Int) l) {S : Nat → Bool} {x : Nat} : allN n l S x = true ↔ ∀ z, z < n → S z = true → z ≠ x → adj l (x : Int) (z : Int) = true := by
  unfold allN
  rw [decide_eq_true_iff, sub_iff]
  constructor
  · intro h z hz hs hne
    have h1 := h z (by rw [numOf_bit]; simp [hz, hs])
    rw [cloB_bit hg, Bool.or_eq_true] at h1
    rcases h1 with h1 | h1
    · exact absurd (beq_iff_eq.1 h1).symm hne
    · exact h1
  · intro h z hz
    rw [numOf_bit, Bool.and_eq_true, decide_eq_true_iff] at hz
    rw [cloB_bit hg, Bool.or_eq_true]
    by_cases e : x = z
    · exact .inl (by simpa using e)
    · exact .inr (h z hz.1 hz.2 (fun h => e h.symm))
theorem clique_any {n : Nat} {l : List Ed} (hg : P2.Good (n : Int) l) {S : Nat → Bool} : (!(nw S n).any fun x => !allN n l S x.toNat) = cliqueB n l S := by
  rw [Bool.eq_iff_iff, cliqueB_iff, Bool.not_eq_true', List.any_eq_false]
  constructor
  · intro h a b ha hb hsa hsb hne
    have h1 := h (a : Int) (mem_nw.2 ⟨a, ha, hsa, rfl⟩)
    rw [Int.toNat_natCast] at h1
    exact (allN_iff hg).1 (by simpa using h1) b hb hsb (fun e => hne e.symm)
  · intro h x hx
    obtain ⟨j, hj, hs, rfl⟩ := mem_nw.1 hx
    rw [Int.toNat_natCast, (allN_iff hg).2 fun z hz hsz hne => h j z hj hz hs hsz (fun e => hne e.symm)]
    simp
set_option maxHeartbeats 1000000 in
set_option maxRecDepth 100000 in
theorem cliqueClo_any (n x b1 b2 : Nat) (S : Nat → Bool) (v : Value) (l : List Ed) (w : World) (h1 : w.cell? ⟨b1, 0, none⟩ = some (.int .u64 (numOf S n : Int))) (h2 : w.cell? ⟨b2, 0, none⟩ = some v) (h : Nums w v (clos l n)) (hg : P2.Good (n : Int) l) (hn : n ≤ 8) (hx : x < n) :
    Calls Try.prog 94 #[.int .i64 (x : Int), .pointer (some ⟨b1, 0, none⟩), .pointer (some ⟨b2, 0, none⟩)] w fun e w' => e = .returned (.bool (!allN n l S x)) ∧ Below w.heap.size w w' := by
  obtain ⟨A, c, rfl, hcl⟩ := h.form
  obtain ⟨g6, o6, rfl, c6⟩ := hcl x _ (clos_at hx)
  have hlen := clos_len l n
  rw [hlen] at h2
  have hx' : (x : Int) < (n : Int) := by omega
  have HT : Hid ((bits .andNot .u64 ((numOf S n : Nat) : Int) ((cloB l x : Nat) : Int) == 0) = allN n l S x) := bits_andNot0 _ _ (by have := numOf_lt S hn; omega) (by have := cloB_lt' hg x (by omega); omega)
  clear hcl h hg hlen
  generalize numOf S n = a at *
  generalize cloB l x = b at *
  generalize allN n l S x = r at *
  go_enter Try.func94, Try.ntmps94
  go_wp2_with fail
  go_quiet (fail)
  go_wp2_with fail
  go_ret
  exact ⟨by rw [← HT.out]; rfl, below_drewN (Below.refl _ _) _⟩
set_option maxHeartbeats 1000000 in
set_option maxRecDepth 100000 in
theorem isClique_any (n : Nat) (S : Nat → Bool) (v : Value) (l : List Ed) (w : World) (h : Nums w v (clos l n)) (hg : P2.Good (n : Int) l) (hn : n ≤ 8) :
    Calls Try.prog 83 #[v, .int .u64 (numOf S n : Int)] w fun e w' => e = .returned (.bool (cliqueB n l S)) ∧ Below w.heap.size w w' := by
  obtain ⟨A, c, rfl, -⟩ := h.form
  have hmf : ∀ (fn : Fn) (first cap : Array Value) (w : World), (Instr.makeFunc fn first cap).run Try.prog w = .ok (.func fn first cap) w := fun _ _ _ _ => rfl
  have b1 : Below w.heap.size w (w.alloc (.cells #[.slice A (clos l n).length c] 57)) := (Below.refl _ _).alloc (Nat.le_refl _) _
  have b2 : Below w.heap.size w ((w.alloc (.cells #[.slice A (clos l n).length c] 57)).alloc (.cells #[.int .u64 (numOf S n : Int)] 55)) := b1.alloc (by simp) _
  have HB2 := Lib.hid b2
  have g1 := (Blk.new w 57 #[.slice A (clos l n).length c]).alloc (.cells #[.int .u64 (numOf S n : Int)] 55)
  have g2 := Blk.new (w.alloc (.cells #[.slice A (clos l n).length c] 57)) 55 #[.int .u64 (numOf S n : Int)]
  rw [World.size_alloc] at g2
  have HG1 := Lib.hid g1
  have HG2 := Lib.hid g2
  have p2 : ((w.alloc (.cells #[.slice A (clos l n).length c] 57)).alloc (.cells #[.int .u64 (numOf S n : Int)] 55)).cell? ⟨w.heap.size + 1, 0, none⟩ = some (.int .u64 (numOf S n : Int)) := g2.cell 0
  have HND := Lib.hid (nodes_any (numOf S n) ((w.alloc (.cells #[.slice A (clos l n).length c] 57)).alloc (.cells #[.int .u64 (numOf S n : Int)] 55)) (by have := numOf_lt S hn; omega))
  rw [nodes_num hn] at HND
  have HV := Lib.hid (clique_any (S := S) hg)
  have HGD := Lib.hid hg
  have HN := Lib.hid h
  have hl8 : (nw S n).length ≤ 1048576 := by have := nw_len S n; omega
  clear h hg b1 b2 g1 g2
  go_enter Try.func83, Try.ntmps83
  go_wp2_with fail
  refine HND.out.mono ?_
  rintro e w3 ⟨A3, c3, rfl, o3, b3⟩
  have HB3 := Lib.hid (btrans HB2.out b3)
  have HCF := Lib.hid (containsFuncI_any (.slice A3 (nw S n).length c3) (nw S n) 94 #[.pointer (some ⟨w.heap.size + 1, 0, none⟩), .pointer (some ⟨w.heap.size, 0, none⟩)] (fun x => !allN n l S x.toNat) w3 (show Ints _ _ _ from Reads.of_own o3) hl8
    { enter := fun _ _ => by kernel_rfl
      call := fun W hW x hx => by
        obtain ⟨j, hj, hs, rfl⟩ := mem_nw.1 hx
        rw [Int.toNat_natCast]
        exact cliqueClo_any n j (w.heap.size + 1) w.heap.size S _ l W (((HG2.out.below b3 HG2.out.lt).below hW (HG2.out.below b3 HG2.out.lt).lt).cell 0) (((HG1.out.below b3 HG1.out.lt).below hW (HG1.out.below b3 HG1.out.lt).lt).cell 0) (HN.out.below (btrans HB3.out hW)) HGD.out hn hj })
  clear o3 b3 p2
  go_wp2_with fail
  refine HCF.out.mono ?_
  rintro e w4 ⟨rfl, b4⟩
  have HB4 := Lib.hid (btrans HB3.out b4)
  go_wp2_with fail
  go_ret
  rw [HV.out]
  exact ⟨rfl, HB4.out⟩
end Go.Proofs.Ythpodbhiopnnbaa.costs

/- CliqueOf: the contract of the program's function; num_bits. -/
namespace Go.Proofs.Ythpodbhiopnnbaa.ups
open Go.RowKit P2 words edges ints good adjs fns sets rets covs bags bitsI func costs
set_option linter.unusedVariables false

theorem numb {n g : Nat} (hg : g < 2 ^ n) : numOf (bitB g) n = g := by
  apply Nat.eq_of_testBit_eq
  intro i
  rw [numOf_bit]
  unfold bitB
  by_cases hi : i < n
  · simp [hi]
  · rw [decide_eq_false hi, Bool.false_and, Nat.testBit_lt_two_pow (Nat.lt_of_lt_of_le hg (Nat.pow_le_pow_right (by decide) (by omega)))]
noncomputable def clqC (n : Nat) (l : List Ed) (c : Nat) : Bool := cliqueB n l (bitB c)
theorem clq_zero (n : Nat) (l : List Ed) : clqC n l 0 = true := by
  unfold clqC
  rw [cliqueB_iff]
  intro a b ha hb hpa
  unfold bitB at hpa
  simp at hpa
noncomputable def clqN (n : Nat) (l : List Ed) : Nat := bestC (clqC n l) rkMax n
end Go.Proofs.Ythpodbhiopnnbaa.ups

/- Clique covers: mathematics. -/
namespace Go.Proofs.Ythpodbhiopnnbaa.ups
open Go.RowKit P2 words edges ints good adjs fns sets rets covs bitsI bags costs reach
set_option linter.unusedVariables false

theorem countP_or {α : Type} (p q : α → Bool) : ∀ (L : List α), L.countP (fun x => p x || q x) + L.countP (fun x => p x && q x) = L.countP p + L.countP q
  | [] => rfl
  | x :: L => by
    have := countP_or p q L
    simp only [List.countP_cons]
    cases p x <;> cases q x <;> simp <;> omega
theorem ones_or {a b : Nat} (h : a &&& b = 0) : onesN (a ||| b) = onesN a + onesN b := by
  unfold onesN nw
  rw [List.length_map, List.length_map, List.length_map, ← List.countP_eq_length_filter, ← List.countP_eq_length_filter, ← List.countP_eq_length_filter]
  have h1 := countP_or (bitB a) (bitB b) (List.range 8)
  have h2 : (List.range 8).countP (fun x => bitB a x && bitB b x) = 0 := by
    rw [List.countP_eq_zero]
    intro x _
    have : (a &&& b).testBit x = false := by rw [h]; simp
    rw [Nat.testBit_and] at this
    unfold bitB
    rw [this]; simp
  have h3 : (List.range 8).countP (bitB (a ||| b)) = (List.range 8).countP (fun x => bitB a x || bitB b x) := by
    congr 1
    funext x
    unfold bitB
    rw [Nat.testBit_or]
  omega
theorem code_put {xs : List Int} {x : Int} : codeL (xs ++ [x]) = codeL xs ||| 2 ^ x.toNat := by unfold codeL; rw [List.foldl_append]; rfl
/-- what lists cover -/
def cvN (q : List (List Int)) (k : Nat) : Nat := (q.take k).foldl (fun a xs => a ||| codeL xs) 0
theorem cvN_zero (q : List (List Int)) : cvN q 0 = 0 := rfl
theorem cvN_succ {q : List (List Int)} {k : Nat} {xs : List Int} (h : q[k]? = some xs) : cvN q (k + 1) = cvN q k ||| codeL xs := by
  unfold cvN
  rw [List.take_add_one, h, List.foldl_append]; rfl
/-- a list is one more clique beside what is covered -/
def CvS (n : Nat) (l : List Ed) (cv : Nat) (xs : List Int) : Prop := (SetOk (n : Int) l xs ∧ xs ≠ []) ∧ (codeL xs &&& cv = 0 ∧ clqC n l (codeL xs) = true)
def CvK (n : Nat) (l : List Ed) (q : List (List Int)) (k : Nat) : Prop := ∀ i xs, i < k → q[i]? = some xs → CvS n l (cvN q i) xs
theorem CvK.zero (n : Nat) (l : List Ed) (q : List (List Int)) : CvK n l q 0 := fun i xs h => by omega
theorem CvK.next {n : Nat} {l : List Ed} {q : List (List Int)} {k : Nat} {xs : List Int} (h : CvK n l q k) (hx : q[k]? = some xs) (hs : CvS n l (cvN q k) xs) : CvK n l q (k + 1) := fun i ys hi hy => by
  by_cases e : i = k
  · subst e; rw [hx] at hy; cases hy; exact hs
  · exact h i ys (by omega) hy
theorem cvN_lt {n : Nat} {l : List Ed} {q : List (List Int)} : ∀ {k : Nat}, k ≤ q.length → CvK n l q k → cvN q k < 2 ^ n
  | 0, _, _ => Nat.pow_pos (by decide)
  | k + 1, hk, h => by
    obtain ⟨xs, hx⟩ : ∃ xs, q[k]? = some xs := ⟨_, List.getElem?_eq_getElem (by omega)⟩
    rw [cvN_succ hx]
    exact Nat.or_lt_two_pow (cvN_lt (by omega) fun i ys hi hy => h i ys (by omega) hy) (code_lt (m := n) (h k xs (by omega) hx).1.1.2.1)
/-- lists are a clique cover -/
def CvP (n : Nat) (l : List Ed) (q : List (List Int)) : Prop := CvK n l q q.length ∧ cvN q q.length = 2 ^ n - 1
def CovP (s : Int) (l : List Ed) (q : List (List Int)) : Prop := P2.Good s l ∧ CvP s.toNat l q
theorem cvP_no {n k : Nat} {l : List Ed} {q : List (List Int)} {xs : List Int} (hx : q[k]? = some xs) (h : ¬ CvS n l (cvN q k) xs) : ¬ CvP n l q := fun hp =>
  h (hp.1 k xs (List.getElem?_eq_some_iff.1 hx).1 hx)
theorem covP_is {n : Nat} {l : List Ed} {q : List (List Int)} (hg : P2.Good (n : Int) l) : CovP (n : Int) l q ↔ CvP n l q := by
  unfold CovP
  rw [Int.toNat_natCast]
  exact ⟨fun h => h.2, fun h => ⟨hg, h⟩⟩
/-- nothing is covered twice: as lists -/
theorem and_zero {xs : List Int} {cv n : Nat} (hr : ∀ x ∈ xs, 0 ≤ x ∧ x < (n : Int)) : codeL xs &&& cv = 0 ↔ ∀ x ∈ xs, cv.testBit x.toNat = false := by
  constructor
  · intro h x hx
    have h1 : (codeL xs &&& cv).testBit x.toNat = false := by rw [h]; simp
    rw [Nat.testBit_and, code_bit (fun z hz => (hr z hz).1), Int.toNat_of_nonneg (hr x hx).1, decide_eq_true hx, Bool.true_and] at h1
    exact h1
  · intro h
    apply Nat.eq_of_testBit_eq
    intro i
    rw [Nat.testBit_and, code_bit (fun z hz => (hr z hz).1), Nat.zero_testBit]
    by_cases hi : (i : Int) ∈ xs
    · have := h _ hi
      rw [Int.toNat_natCast] at this
      rw [this, Bool.and_false]
    · rw [decide_eq_false hi, Bool.false_and]
theorem set_ones {n : Nat} {l : List Ed} {xs : List Int} (hn : n ≤ 8) (h : SetOk (n : Int) l xs) : xs.length = onesN (codeL xs) := by
  have h1 : xs = nw (bitB (codeL xs)) n := by
    refine asc_ext h.2.2 (nw_asc _ _) fun x => ?_
    rw [mem_nw]
    constructor
    · intro hx
      have := h.2.1 x hx
      refine ⟨x.toNat, by omega, ?_, by omega⟩
      unfold bitB
      rw [code_bit (fun z hz => (h.2.1 z hz).1), Int.toNat_of_nonneg this.1, decide_eq_true hx]
    · rintro ⟨j, hj, hp, rfl⟩
      unfold bitB at hp
      rw [code_bit (fun z hz => (h.2.1 z hz).1)] at hp
      exact of_decide_eq_true hp
  rw [← nd_len, ← nd_bits hn (code_lt (m := n) h.2.1)]
  exact congrArg List.length h1
/-- what the model has seen: all that is covered, each node once -/
def SeenOk (n cv : Nat) (seen : List Int) : Prop := (∀ x : Int, x ∈ seen ↔ 0 ≤ x ∧ x < (n : Int) ∧ cv.testBit x.toNat = true) ∧ seen.length = onesN cv
theorem SeenOk.nil (n : Nat) : SeenOk n 0 [] := ⟨fun x => by simp, by decide⟩
theorem SeenOk.add {n cv : Nat} {l : List Ed} {seen xs : List Int} (hn : n ≤ 8) (h : SeenOk n cv seen) (hs : SetOk (n : Int) l xs) (hd : codeL xs &&& cv = 0) : SeenOk n (cv ||| codeL xs) (seen ++ xs) := by
  refine ⟨fun x => ?_, ?_⟩
  · rw [List.mem_append, h.1 x, Nat.testBit_or, Bool.or_eq_true]
    constructor
    · rintro (⟨h1, h2, h3⟩ | hx)
      · exact ⟨h1, h2, .inl h3⟩
      · have := hs.2.1 x hx
        exact ⟨this.1, this.2, .inr (by rw [code_bit (fun z hz => (hs.2.1 z hz).1), Int.toNat_of_nonneg this.1, decide_eq_true hx])⟩
    · rintro ⟨h1, h2, h3 | h3⟩
      · exact .inl ⟨h1, h2, h3⟩
      · rw [code_bit (fun z hz => (hs.2.1 z hz).1), Int.toNat_of_nonneg h1] at h3
        exact .inr (of_decide_eq_true h3)
  · rw [List.length_append, h.2, set_ones hn hs, ones_or (by rw [Nat.and_comm]; exact hd)]
theorem full_ones {n cv : Nat} (hn : n ≤ 8) (hc : cv < 2 ^ n) : onesN cv = n ↔ cv = 2 ^ n - 1 := by
  have := ones_full ⟨n, by omega⟩ ⟨cv, Nat.lt_of_lt_of_le hc (pow_le hn)⟩ hc
  exact this
/-- the model has put the first k nodes of a list -/
def SeenK (n cv : Nat) (seen xs : List Int) (k : Nat) (S : List Int) : Prop := S = seen ++ xs.take k ∧ ∀ x ∈ xs.take k, cv.testBit x.toNat = false
theorem seen_has {n cv k : Nat} {seen xs S : List Int} {x : Int} (h : SeenOk n cv seen) (ha : Asc xs) (hr : 0 ≤ x ∧ x < (n : Int)) (hk : SeenK n cv seen xs k S) (hx : xs[k]? = some x) : decide (x ∈ S) = cv.testBit x.toNat := by
  rw [hk.1, Bool.eq_iff_iff, decide_eq_true_iff, List.mem_append, h.1 x]
  constructor
  · rintro (⟨_, _, h3⟩ | h3)
    · exact h3
    · exfalso
      obtain ⟨j, hj⟩ := List.getElem?_of_mem h3
      have hjk : j < k := by have := (List.getElem?_eq_some_iff.1 hj).1; rw [List.length_take] at this; omega
      rw [List.getElem?_take_of_lt hjk] at hj
      obtain ⟨a1, e1⟩ := List.getElem?_eq_some_iff.1 hj
      obtain ⟨a2, e2⟩ := List.getElem?_eq_some_iff.1 hx
      have := List.pairwise_iff_getElem.1 ha j k a1 a2 hjk
      omega
  · intro h3
    exact .inl ⟨hr.1, hr.2, h3⟩
theorem SeenK.next {n cv k : Nat} {seen xs S : List Int} {x : Int} (hk : SeenK n cv seen xs k S) (hx : xs[k]? = some x) (hb : cv.testBit x.toNat = false) : SeenK n cv seen xs (k + 1) (S ++ [x]) := by
  refine ⟨by rw [hk.1, List.take_add_one, hx, List.append_assoc]; rfl, fun y hy => ?_⟩
  rw [List.take_add_one, hx, List.mem_append] at hy
  rcases hy with hy | hy
  · exact hk.2 y hy
  · have : y = x := by simpa using hy
    subst this; exact hb
end Go.Proofs.Ythpodbhiopnnbaa.ups

/- Clique covers: the contracts of the program's coverOf and IsCliqueCover. -/
namespace Go.Proofs.Ythpodbhiopnnbaa.ups
open Go.RowKit P2 words edges ints owns good adjs fns sets rets covs bags bitsI func costs gridr
set_option linter.unusedVariables false

theorem beq_castC (a b : Nat) : (((a : Nat) : Int) == ((b : Nat) : Int)) = (a == b) := by
  rw [Bool.eq_iff_iff, beq_iff_eq, beq_iff_eq]; omega
/-- what coverOf returns: the cliques and true, or false -/
def RetCv (w : World) (s : Int) (l : List Ed) (q : List (List Int)) (e : Ending) (w' : World) : Prop :=
  ∃ A N c, e = .returned (.tuple #[.slice A N c, .bool (okG (CovP s l q))]) ∧ (CovP s l q → N = q.length ∧ w'.ownsRow w.heap.size 55 1 (.slice A N c) N (cellsU (q.map codeL))) ∧ Below w.heap.size w w'
theorem RetCv.no {w w' : World} {s : Int} {l : List Ed} {q : List (List Int)} (h : ¬ CovP s l q) (hb : Below w.heap.size w w') : RetCv w s l q (.returned (.tuple #[.slice none 0 0, .bool false])) w' :=
  ⟨none, 0, 0, by rw [okG_no h], fun h2 => absurd h2 h, hb⟩
theorem map_take_succ {q : List (List Int)} {k : Nat} {xs : List Int} (h : q[k]? = some xs) : ((q.take (k + 1)).map codeL) = (q.take k).map codeL ++ [codeL xs] := by
  rw [List.take_add_one, h, List.map_append]; rfl
theorem cellsU_appC (l m : List Nat) : cellsU (l ++ m) = cellsU l ++ cellsU m := by simp [cellsU]
set_option maxHeartbeats 8000000 in
set_option maxRecDepth 100000 in
theorem coverOf_any (s : Int) (v : Value) (A2 : Option Addr) (c2 : Nat) (us : List Value) (q : List (List Int)) (l : List Ed) (w : World) (h : Edges w v l) (hl : l.length ≤ 1048576) (ht : ReadsG w (.slice A2 q.length c2) us q) (hql : q.length ≤ 1048576) (hqr : ∀ r ∈ q, r.length ≤ 1048576) :
    Calls Try.prog 58 #[.agg #[.int .i64 s, v], .slice A2 q.length c2] w (RetCv w s l q) := by
  obtain ⟨A, c, rfl, -⟩ := h.form
  obtain ⟨i0, hi, hz0, hz1, hz2⟩ := info_parts infoU
  have H := Lib.hid h
  have HT := Lib.hid ht
  have b0 : Below w.heap.size w (w.alloc (.cells #[.int .i64 s, .slice A l.length c] 29)) := (Below.refl _ _).alloc (Nat.le_refl _) _
  have g0 := Blk.new w 29 #[.int .i64 s, .slice A l.length c]
  obtain ⟨p0, p1, -, -⟩ := g0.two
  have HN := Lib.hid (implIsGraph_any s _ l _ (h.below b0) hl)
  have HB0 := Lib.hid b0
  have HG0 := Lib.hid g0
  clear h b0 g0 ht
  by_cases hgd : P2.Good s l
  · rw [goodB_yes hgd] at HN
    have HOK := Lib.hid hgd
    have h0 := hgd.1
    have h8 := hgd.2.1
    obtain ⟨n, rfl⟩ : ∃ n : Nat, s = (n : Int) := ⟨s.toNat, by omega⟩
    have hn : n ≤ 8 := by omega
    have HIF := Lib.hid (covP_is (q := q) hgd)
    have HS := Lib.hid (fun (xs : List Int) (u : Value) (W : World) (hW : Below w.heap.size w W) (hu : Ints W u xs) (hx : xs.length ≤ 1048576) => hasSet_any (n : Int) (.slice A l.length c) u l xs W (H.out.below hW) hl hu hx)
    have HBO := Lib.hid (fun (xs : List Int) (u : Value) (W : World) (hu : Ints W u xs) (hx : xs.length ≤ 1048576) (hr : ∀ x ∈ xs, 0 ≤ x ∧ x < (n : Int)) => bitsOf_any u xs W hu hx (fun x hx => by have := hr x hx; omega))
    have HCQ := Lib.hid (fun (d : Nat) (hd : d < 2 ^ n) (W : World) (u : Value) (hu : Nums W u (clos l n)) => (by have h_ := isClique_any n (bitB d) u l W hu hgd hn; rw [numb hd] at h_; exact h_ : Calls Try.prog 83 #[u, .int .u64 (d : Int)] W fun e w' => e = .returned (.bool (clqC n l d)) ∧ Below W.heap.size W w'))
    have HPW := Lib.hid (pow_le hn)
    have hp1 : 1 ≤ 2 ^ n := Nat.one_le_two_pow
    have hw1 : IntKind.u64.wrap (IntKind.u64.wrap ((2 : Int) ^ n) - 1) = ((2 ^ n - 1 : Nat) : Int) := by
      have hpn := pow_le hn
      rw [wrap_pow hn, IntKind.wrap_u64]
      generalize 2 ^ n = z at *
      omega
    clear hgd hp1
    go_enter Try.func58, Try.ntmps58
    go_wp2_with fail
    refine HN.out.mono ?_
    rintro e w1 ⟨rfl, b1⟩
    have HE1 := Lib.hid (btrans HB0.out b1)
    have HG1 := Lib.hid (HG0.out.below b1 HG0.out.lt)
    clear p0 p1 b1 HN HB0 HG0
    obtain ⟨p0, p1, -, -⟩ := HG1.out.two
    have HCB := Lib.hid (closedBits_any n (.slice A l.length c) l w1 (H.out.below HE1.out) hl HOK.out hn)
    go_wp2_with fail
    refine HCB.out.mono ?_
    rintro e w2 ⟨A3, c3, rfl, i3, b3⟩
    have HE2 := Lib.hid (btrans HE1.out b3)
    have HG2 := Lib.hid (HG1.out.below b3 HG1.out.lt)
    have HI2 := Lib.hid i3
    clear p0 p1 b3 i3 HCB HE1 HG1
    obtain ⟨p0, p1, -, -⟩ := HG2.out.two
    go_wp2_with fail
    clear p0 p1
    go_loopg [7, 8, 19] q.length (fun g kv cv iv wr => ∃ (k : Nat) (kw : Value), kw = kv ∧ k + g = q.length ∧ cv = .int .u64 (cvN q k : Int) ∧ iv = .int .i64 (k : Int) ∧ Hid (CvK n l q k) ∧ wr.ownsRow w2.heap.size 55 1 kw k (cellsU ((q.take k).map codeL)) ∧ Below w2.heap.size w2 wr)
    case atStart => exact ⟨0, _, rfl, by omega, rfl, rfl, CvK.zero n l q, World.ownsRow_nil _ _ _ _, Below.refl _ _⟩
    case round =>
      obtain ⟨k, kw, rfl, hkg, rfl, rfl, hck, hrow, hB⟩ := hrel
      obtain ⟨A4, c4, rfl⟩ := own_form hrow
      have HB := Lib.hid hB
      have HE := Lib.hid (btrans HE2.out hB)
      have HG := Lib.hid (HG2.out.below hB HG2.out.lt)
      have hcl := cvN_lt (by omega) hck.out
      obtain ⟨p0, p1, -, -⟩ := HG.out.two
      cases gk with
      | zero =>
        obtain rfl : k = q.length := by omega
        have HV : Hid (okG (CovP (n : Int) l q) = (cvN q q.length == 2 ^ n - 1)) := by
          show _ = _
          rw [Bool.eq_iff_iff, okG_iff, HIF.out, beq_iff_eq]
          exact ⟨fun h => h.2, fun h => ⟨hck.out, h⟩⟩
        rw [List.take_length] at hrow
        have HR := Lib.hid hrow
        have hsz := HE2.out.size
        clear hrow hcl hB
        generalize cvN q q.length = y1 at *
        generalize 2 ^ n - 1 = z1 at *
        have hbq := beq_castC y1 z1
        go_wp2_with fail
        go_quiet (fail)
        go_wp2_with fail
        go_ret2
        exact ⟨A4, _, c4, by rw [HV.out]; rfl, fun _ => ⟨rfl, own_below (own_base HR.out hsz) (below_drewN (Below.refl _ _) _)⟩, below_drewN HE.out _⟩
      | succ g2 =>
        have hlt : k < q.length := by omega
        have hlt' : (k : Int) < (q.length : Int) := by omega
        obtain ⟨xs, hxs⟩ : ∃ xs, q[k]? = some xs := ⟨_, List.getElem?_eq_getElem hlt⟩
        have hxl := hqr xs (List.mem_of_getElem? hxs)
        obtain ⟨u, g5, o5, hu5, hA5, c5, hu⟩ := (HT.out.below HE.out).row hxs
        subst hA5
        obtain ⟨Ax, cx, rfl, -⟩ := hu.form
        have HNO : Hid (¬ CvS n l (cvN q k) xs → ¬ CovP (n : Int) l q) := fun h1 h2 => cvP_no hxs h1 (HIF.out.1 h2)
        have HS1 := Lib.hid (HS.out xs _ wr HE.out hu hxl)
        have HU := Lib.hid hu
        have HE9 := HE.out
        have hsz := HE2.out.size
        have HRX := Lib.hid (hrow)
        by_cases hx0 : xs = []
        · have HF := Lib.hid (HNO.out fun h1 => h1.1.2 hx0)
          subst hx0
          clear hrow hcl hB HS1 HE9 HRX hu5
          go_wp2_with fail
          go_ret2
          exact RetCv.no HF.out HE.out
        · have hq0 : ((xs.length : Int) == 0) = false := by
            rw [beq_eq_false_iff_ne]
            intro e
            exact hx0 (List.length_eq_zero_iff.1 (by omega))
          by_cases hso : SetOk (n : Int) l xs
          · rw [okG_yes hso] at HS1
            have hcn := code_lt (m := n) hso.2.1
            have HBO1 := Lib.hid (fun (W : World) (hW : Below wr.heap.size wr W) => HBO.out xs _ W (HU.out.below hW) hxl hso.2.1)
            have hyc : bits .and .u64 (codeL xs : Int) (cvN q k : Int) = ((codeL xs &&& cvN q k : Nat) : Int) := bits_and_u64_nat _ _ (by have := HPW.out; omega) (by have := HPW.out; omega)
            have hyo : bits .or .u64 (cvN q k : Int) (codeL xs : Int) = ((cvN q k ||| codeL xs : Nat) : Int) := bits_or_u64_nat _ _ (by have := HPW.out; omega) (by have := HPW.out; omega)
            have HCQ1 := Lib.hid (fun (W : World) (hW : Below wr.heap.size wr W) => HCQ.out (codeL xs) hcn W _ ((HI2.out.below hB).below hW))
            have HNX := Lib.hid (cvN_succ hxs)
            have HMT := Lib.hid (map_take_succ hxs)
            have HCK : Hid (CvS n l (cvN q k) xs → CvK n l q (k + 1)) := fun h => hck.out.next hxs h
            have HCV : Hid (CvS n l (cvN q k) xs ↔ (codeL xs &&& cvN q k = 0 ∧ clqC n l (codeL xs) = true)) := ⟨fun h => h.2, fun h => ⟨⟨hso, hx0⟩, h⟩⟩
            clear hso hx0 hcl hu hu5 hxs hcn
            generalize codeL xs &&& cvN q k = ya at *
            generalize cvN q k ||| codeL xs = yo at *
            generalize codeL xs = yc at *
            by_cases hya : ya = 0
            · subst hya
              cases hcq : clqC n l yc with
              | true =>
                have HN := Lib.hid (HCK.out (HCV.out.2 ⟨rfl, hcq⟩))
                rw [hcq] at HCQ1
                clear hcq hrow hB HE9 hck
                go_wp2_with fail
                refine HS1.out.mono ?_
                rintro e w4 ⟨rfl, b4⟩
                have HB4 := Lib.hid b4
                clear p0 p1
                go_wp2_with fail
                refine (HBO1.out w4 HB4.out).mono ?_
                rintro e w' ⟨rfl, rfl⟩
                go_wp2_with fail
                refine (HCQ1.out w4 HB4.out).mono ?_
                rintro e w5 ⟨rfl, b5⟩
                have HB5 := Lib.hid (btrans HB4.out b5)
                have HR5 := own_below HRX.out HB5.out
                have hs5 := HB5.out.size
                have hs6 := HB.out.size
                have hz : w2.heap.size ≤ w5.heap.size := by omega
                clear b4 b5 c5
                go_wp2_with (at_builtin; refine wpList_append_own _ rfl _ _ 57 rfl w2.heap.size 55 i0 (.int .u64 0) 1 8 Try.underlying57 hi hz0 hz1 hz2 rfl (by decide) _ _ _ rfl (HR5.alloc _) ⟨w5.heap.size, 0, none⟩ 1 1 [.int .u64 (yc : Int)] rfl rfl (cell_one_new _ _ _) (fun x hx => by simp at hx; subst hx; rfl) (by unfold maxLen; omega) (by omega) (by simp; omega) ?_; intro v8 w8 hown8 hgrow8 _)
                have HR8 := Lib.hid hown8
                have HB8 := Lib.hid (((btrans HB.out HB5.out).alloc hz _).grown hgrow8 (by simp; omega) (fun j e => (HR5.lt j e).1))
                clear hown8 hgrow8 HR5
                go_roundg g2
                case measure => omega
                case rel => exact ⟨k + 1, v8, rfl, by omega, by rw [HNX.out], by go_num, HN, by rw [HMT.out, cellsU_appC]; exact HR8.out, HB8.out⟩
              | false =>
                have HF := Lib.hid (HNO.out fun h1 => by have := (HCV.out.1 h1).2; rw [hcq] at this; cases this)
                rw [hcq] at HCQ1
                clear hcq hrow hB HE9 hck
                go_wp2_with fail
                refine HS1.out.mono ?_
                rintro e w4 ⟨rfl, b4⟩
                have HB4 := Lib.hid b4
                clear p0 p1
                go_wp2_with fail
                refine (HBO1.out w4 HB4.out).mono ?_
                rintro e w' ⟨rfl, rfl⟩
                go_wp2_with fail
                refine (HCQ1.out w4 HB4.out).mono ?_
                rintro e w5 ⟨rfl, b5⟩
                have HB5 := Lib.hid (btrans HB4.out b5)
                clear b4 b5 c5
                go_wp2_with fail
                go_ret2
                exact RetCv.no HF.out (btrans HE.out HB5.out)
            · have HF := Lib.hid (HNO.out fun h1 => hya (HCV.out.1 h1).1)
              have hy1 : ((ya : Int) != 0) = true := by simpa using hya
              have hy2 : ((ya : Int) == 0) = false := by rw [beq_eq_false_iff_ne]; omega
              have hy3 : (ya == 0) = false := by rw [beq_eq_false_iff_ne]; omega
              clear hrow hB HE9 hck hya
              go_wp2_with fail
              refine HS1.out.mono ?_
              rintro e w4 ⟨rfl, b4⟩
              have HB4 := Lib.hid b4
              clear p0 p1
              go_wp2_with fail
              refine (HBO1.out w4 HB4.out).mono ?_
              rintro e w' ⟨rfl, rfl⟩
              clear b4 c5
              go_wp2_with fail
              go_ret2
              exact RetCv.no HF.out (btrans HE.out HB4.out)
          · rw [okG_no hso] at HS1
            have HF := Lib.hid (HNO.out fun h1 => hso h1.1.1)
            clear hso hx0 hcl hu hu5 hxs hrow hB HE9 hck
            go_wp2_with fail
            refine HS1.out.mono ?_
            rintro e w4 ⟨rfl, b4⟩
            clear c5
            go_wp2_with fail
            go_ret2
            exact RetCv.no HF.out (btrans HE.out b4)
  · rw [goodB_no hgd] at HN
    have HNO : Hid (¬ CovP s l q) := fun h => hgd h.1
    clear hgd
    go_enter Try.func58, Try.ntmps58
    go_wp2_with fail
    refine HN.out.mono ?_
    rintro e w1 ⟨rfl, b1⟩
    have HE1 := Lib.hid (btrans HB0.out b1)
    clear p0 p1 b1
    go_wp2_with fail
    go_ret2
    exact RetCv.no HNO.out HE1.out
end Go.Proofs.Ythpodbhiopnnbaa.ups

/- Guards: the contract of the model's l10Alike. -/
namespace Go.Proofs.Ythpodbhiopnnbaa.ups
open Go.RowKit P2 words edges ints good adjs fns sets rets covs bags balls bitsI func
set_option linter.unusedVariables false

set_option maxHeartbeats 4000000 in
set_option maxRecDepth 100000 in
theorem l10Alike_any (s : Int) (v u : Value) (l : List Ed) (xs : List Int) (b : Bool) (w : World) (h : Edges w v l) (hl : l.length ≤ 1048576) (hu : Ints w u xs) (hxl : xs.length ≤ 1048576) :
    Calls Try.prog 52 #[.agg #[.int .i64 s, v], u, .bool b] w fun e w' => e = .returned (.bool (okG (AlkL l xs b))) ∧ Below w.heap.size w w' := by
  obtain ⟨A, c, rfl, -⟩ := h.form
  obtain ⟨A2, c2, rfl, hc2⟩ := hu.form
  have H := Lib.hid h
  have HC2 := Lib.hid hc2
  have HB0 : Hid (Below w.heap.size w (w.alloc (.cells #[.int .i64 s, .slice A l.length c] 29))) := (Below.refl _ _).alloc (Nat.le_refl _) _
  have HG0 := Lib.hid (Blk.new w 29 #[.int .i64 s, .slice A l.length c])
  clear h hu hc2
  go_enter Try.func52, Try.ntmps52
  go_wp2_with fail
  go_loopg [7] xs.length (fun g iv wr => ∃ i : Nat, i + g = xs.length ∧ iv = .int .i64 (i : Int) ∧ Hid (AlkA l xs b i) ∧ Blk wr w.heap.size 29 #[.int .i64 s, .slice A l.length c] ∧ Below w.heap.size w wr)
  case atStart => exact ⟨0, by omega, rfl, fun a b x y h => by omega, HG0.out, HB0.out⟩
  case round =>
    clear HG0 HB0
    obtain ⟨i, hig, rfl, hcl, hgb, hB⟩ := hrel
    have HG := Lib.hid hgb
    have HB := Lib.hid hB
    cases gk with
    | zero =>
      have HV : Hid (okG (AlkL l xs b) = true) := okG_yes (hcl.out.done (by omega))
      obtain rfl : i = xs.length := by omega
      clear hgb hB
      go_wp2_with fail
      go_ret
      rw [HV.out]
      exact ⟨rfl, HB.out⟩
    | succ g2 =>
      have hlt : i < xs.length := by omega
      have hlt' : (i : Int) < (xs.length : Int) := by omega
      obtain ⟨x, hx⟩ : ∃ x, xs[i]? = some x := ⟨_, List.getElem?_eq_getElem hlt⟩
      obtain ⟨g5, o5, rfl, c5⟩ := HC2.out i _ hx
      have HX := Lib.hid hx
      have HI : Hid (AlkB l xs b i 0) := ⟨hcl.out, fun k x y h => by omega⟩
      have HC5 := Lib.hid c5
      clear hx c5 hgb hB hcl
      go_wp2_with fail
      obtain ⟨wo, hwo⟩ : ∃ wo, wo = wr := ⟨_, rfl⟩
      subst hwo
      go_loopg [8] i (fun g kv wr => ∃ k : Nat, k + g = i ∧ kv = .int .i64 (k : Int) ∧ Hid (AlkB l xs b i k) ∧ Blk wr w.heap.size 29 #[.int .i64 s, .slice A l.length c] ∧ Below w.heap.size w wr)
      case atStart => exact ⟨0, by omega, rfl, HI, HG.out, HB.out⟩
      case round =>
        clear HI HG HB
        obtain ⟨k, hkg, rfl, hcl, hgb, hB⟩ := hrel
        obtain ⟨p0, p1, -, -⟩ := hgb.two
        have HG := Lib.hid hgb
        have HB := Lib.hid hB
        cases gk with
        | zero =>
          obtain rfl : k = i := by omega
          have HN := Lib.hid (hcl.out.all (Nat.le_refl _))
          clear hgb hB hcl p0 p1
          obtain ⟨p0, p1, -, -⟩ := HG.out.two
          go_wp2_with fail
          go_roundg g2
          case measure => omega
          case rel => exact ⟨k + 1, by omega, by go_num, HN, HG.out, HB.out⟩
        | succ g4 =>
          have hklt : k < xs.length := by omega
          have hklt' : (k : Int) < (xs.length : Int) := by omega
          have hki' : (k : Int) < (i : Int) := by omega
          obtain ⟨y, hy⟩ : ∃ y, xs[k]? = some y := ⟨_, List.getElem?_eq_getElem hklt⟩
          obtain ⟨_, _, hf, c6⟩ := HC2.out k _ hy
          cases hf
          have q5 := nearv.cell_keep HC5.out hB
          have q6 := nearv.cell_keep c6 hB
          have HNR := Lib.hid (l2Near_any s x y (.slice A l.length c) l wr.drew (H.out.below hB.drew) hl)
          have HIJ : Hid (k < i) := by
            show _ < _
            omega
          by_cases hj : adj l x y = b
          · have HN := Lib.hid (hcl.out.next HX.out hy hj)
            have hq : (adj l x y == b) = true := by rw [hj]; simp
            clear hy c6 hgb hB hcl hj HIJ
            generalize adj l x y = q at *
            go_wp2_with fail
            refine wp_region_held_drew (S := (fun w' : World => w'.cell? ⟨w.heap.size, 0, none⟩ = some (.int .i64 s) ∧ w'.cell? ⟨w.heap.size, 1, none⟩ = some (.slice A l.length c) ∧ w'.cell? ⟨g5, o5 + i, none⟩ = some (.int .i64 x) ∧ w'.cell? ⟨g5, o5 + k, none⟩ = some (.int .i64 y))) (by kernel_rfl) (by (try dsimp only); simp [*]) (fun hHeld => ?_)
            change wpAnyH _ _ _ _ _ _ #[false, false, false, false, false, false, false, false, false, false, false, false] _ _
            refine wpAnyH_take (i := 0) (oi := ⟨some 20, _, _, _, _, _⟩) (v := ?_) rfl (by kernel_rfl) (by kernel_rfl) (by kernel_rfl) (fun _ _ _ h => h) (Or.inl ⟨by rfl, ?_⟩) (by assumption) ?_
            rotate_left
            · (intro w hSw; (try dsimp only at hSw); go_simp; (try (with_reducible rfl)))
            try simp only [Act.put, List.setIfInBounds_toArray, List.set_cons_zero, List.set_cons_succ]
            refine wpAnyH_take (i := 1) (oi := ⟨some 21, _, _, _, _, _⟩) (v := ?_) rfl (by kernel_rfl) (by kernel_rfl) (by kernel_rfl) (fun _ _ _ h => h) (Or.inl ⟨by rfl, ?_⟩) (by assumption) ?_
            rotate_left
            · (intro w hSw; (try dsimp only at hSw); go_simp; (try (with_reducible rfl)))
            try simp only [Act.put, List.setIfInBounds_toArray, List.set_cons_zero, List.set_cons_succ]
            refine wpAnyH_take (i := 2) (oi := ⟨some 22, _, _, _, _, _⟩) (v := ?_) rfl (by kernel_rfl) (by kernel_rfl) (by kernel_rfl) (fun _ _ _ h => h) (Or.inl ⟨by rfl, ?_⟩) (by assumption) ?_
            rotate_left
            · (intro w hSw; (try dsimp only at hSw); go_simp; (try (with_reducible rfl)))
            try simp only [Act.put, List.setIfInBounds_toArray, List.set_cons_zero, List.set_cons_succ]
            refine wpAnyH_take (i := 3) (oi := ⟨some 23, _, _, _, _, _⟩) (v := ?_) rfl (by kernel_rfl) (by kernel_rfl) (by kernel_rfl) (fun _ _ _ h => h) (Or.inl ⟨by rfl, ?_⟩) (by assumption) ?_
            rotate_left
            · (intro w hSw; (try dsimp only at hSw); go_simp; (try (with_reducible rfl)))
            try simp only [Act.put, List.setIfInBounds_toArray, List.set_cons_zero, List.set_cons_succ]
            refine wpAnyH_take (i := 4) (oi := ⟨some 24, _, _, _, _, _⟩) (v := ?_) rfl (by kernel_rfl) (by kernel_rfl) (by kernel_rfl) (fun _ _ _ h => h) (Or.inl ⟨by rfl, ?_⟩) (by assumption) ?_
            rotate_left
            · (intro w hSw; (try dsimp only at hSw); go_simp; (try (with_reducible rfl)))
            try simp only [Act.put, List.setIfInBounds_toArray, List.set_cons_zero, List.set_cons_succ]
            refine wpAnyH_take (i := 5) (oi := ⟨some 25, _, _, _, _, _⟩) (v := ?_) rfl (by kernel_rfl) (by kernel_rfl) (by kernel_rfl) (fun _ _ _ h => h) (Or.inl ⟨by rfl, ?_⟩) (by assumption) ?_
            rotate_left
            · (intro w hSw; (try dsimp only at hSw); go_simp; (try (with_reducible rfl)))
            try simp only [Act.put, List.setIfInBounds_toArray, List.set_cons_zero, List.set_cons_succ]
            refine wpAnyH_take (i := 6) (oi := ⟨some 26, _, _, _, _, _⟩) (v := ?_) rfl (by kernel_rfl) (by kernel_rfl) (by kernel_rfl) (fun _ _ _ h => h) (Or.inl ⟨by rfl, ?_⟩) (by assumption) ?_
            rotate_left
            · (intro w hSw; (try dsimp only at hSw); go_simp; (try (with_reducible rfl)))
            try simp only [Act.put, List.setIfInBounds_toArray, List.set_cons_zero, List.set_cons_succ]
            refine wpAnyH_take (i := 7) (oi := ⟨some 27, _, _, _, _, _⟩) (v := ?_) rfl (by kernel_rfl) (by kernel_rfl) (by kernel_rfl) (fun _ _ _ h => h) (Or.inl ⟨by rfl, ?_⟩) (by assumption) ?_
            rotate_left
            · (intro w hSw; (try dsimp only at hSw); go_simp; (try (with_reducible rfl)))
            try simp only [Act.put, List.setIfInBounds_toArray, List.set_cons_zero, List.set_cons_succ]
            refine wpAnyH_take (i := 8) (oi := ⟨some 28, _, _, _, _, _⟩) (v := ?_) rfl (by kernel_rfl) (by kernel_rfl) (by kernel_rfl) (fun _ _ _ h => h) (Or.inl ⟨by rfl, ?_⟩) (by assumption) ?_
            rotate_left
            · (intro w hSw; (try dsimp only at hSw); go_simp; (try (with_reducible rfl)))
            try simp only [Act.put, List.setIfInBounds_toArray, List.set_cons_zero, List.set_cons_succ]
            refine wpAnyH_take (i := 10) (oi := ⟨some 30, _, _, _, _, _⟩) (v := ?_) rfl (by kernel_rfl) (by kernel_rfl) (by kernel_rfl) (fun _ _ _ h => h) (Or.inl ⟨by rfl, ?_⟩) (by assumption) ?_
            rotate_left
            · (intro w hSw; (try dsimp only at hSw); go_simp; (try (with_reducible rfl)))
            try simp only [Act.put, List.setIfInBounds_toArray, List.set_cons_zero, List.set_cons_succ]
            refine wpAnyH_ready (rs := [9]) (by kernel_rfl) (by simp) ?_
            refine AllReadyH.cons (o := ⟨some 29, _, _, _, _, _⟩) rfl (fun K hK => ?_) AllReadyH.nil
            go_simp
            refine HNR.out.mono ?_; rintro e w3 ⟨rfl, b3⟩; have d3 : Below wr.heap.size wr w3 := btrans (Below.refl _ _).drew b3; obtain ⟨k0, k1, -, -⟩ := (HG.out.below d3 HG.out.lt).two; have q7 := nearv.cell_keep q5 d3; have q8 := nearv.cell_keep q6 d3
            go_wp2_with fail
            refine hK.out _ _ (by (try dsimp only); simp [*]) (fun hHeld => ?_)
            clear hK K
            try simp only [List.setIfInBounds_toArray, List.set_cons_zero, List.set_cons_succ]
            refine wpAnyH_take (i := 11) (oi := ⟨some 31, _, _, _, _, _⟩) (v := ?_) rfl (by kernel_rfl) (by kernel_rfl) (by kernel_rfl) (fun _ _ _ h => h) (Or.inl ⟨by rfl, ?_⟩) (by assumption) ?_
            rotate_left
            · (intro w hSw; (try dsimp only at hSw); go_simp; (try (with_reducible rfl)))
            try simp only [Act.put, List.setIfInBounds_toArray, List.set_cons_zero, List.set_cons_succ]
            refine wpAnyH_done (by kernel_rfl) ?_ _
            have HG3 := Lib.hid (HG.out.below d3 HG.out.lt)
            have HB3 := Lib.hid (btrans HB.out d3)
            clear b3 d3 k0 k1 q7 q8 q5 q6 p0 p1 hHeld
            go_wp2_with fail
            go_roundg g4
            case measure => omega
            case rel => exact ⟨k + 1, by omega, by go_num, HN, HG3.out, HB3.out⟩
          · have HV : Hid (okG (AlkL l xs b) = false) := okG_no fun h_ => hj (h_ i k x y HIJ.out HX.out hy)
            have hq : (adj l x y == b) = false := by simpa using hj
            clear hy c6 hgb hB hcl hj HIJ
            generalize adj l x y = q at *
            go_wp2_with fail
            refine wp_region_held_drew (S := (fun w' : World => w'.cell? ⟨w.heap.size, 0, none⟩ = some (.int .i64 s) ∧ w'.cell? ⟨w.heap.size, 1, none⟩ = some (.slice A l.length c) ∧ w'.cell? ⟨g5, o5 + i, none⟩ = some (.int .i64 x) ∧ w'.cell? ⟨g5, o5 + k, none⟩ = some (.int .i64 y))) (by kernel_rfl) (by (try dsimp only); simp [*]) (fun hHeld => ?_)
            change wpAnyH _ _ _ _ _ _ #[false, false, false, false, false, false, false, false, false, false, false, false] _ _
            refine wpAnyH_take (i := 0) (oi := ⟨some 20, _, _, _, _, _⟩) (v := ?_) rfl (by kernel_rfl) (by kernel_rfl) (by kernel_rfl) (fun _ _ _ h => h) (Or.inl ⟨by rfl, ?_⟩) (by assumption) ?_
            rotate_left
            · (intro w hSw; (try dsimp only at hSw); go_simp; (try (with_reducible rfl)))
            try simp only [Act.put, List.setIfInBounds_toArray, List.set_cons_zero, List.set_cons_succ]
            refine wpAnyH_take (i := 1) (oi := ⟨some 21, _, _, _, _, _⟩) (v := ?_) rfl (by kernel_rfl) (by kernel_rfl) (by kernel_rfl) (fun _ _ _ h => h) (Or.inl ⟨by rfl, ?_⟩) (by assumption) ?_
            rotate_left
            · (intro w hSw; (try dsimp only at hSw); go_simp; (try (with_reducible rfl)))
            try simp only [Act.put, List.setIfInBounds_toArray, List.set_cons_zero, List.set_cons_succ]
            refine wpAnyH_take (i := 2) (oi := ⟨some 22, _, _, _, _, _⟩) (v := ?_) rfl (by kernel_rfl) (by kernel_rfl) (by kernel_rfl) (fun _ _ _ h => h) (Or.inl ⟨by rfl, ?_⟩) (by assumption) ?_
            rotate_left
            · (intro w hSw; (try dsimp only at hSw); go_simp; (try (with_reducible rfl)))
            try simp only [Act.put, List.setIfInBounds_toArray, List.set_cons_zero, List.set_cons_succ]
            refine wpAnyH_take (i := 3) (oi := ⟨some 23, _, _, _, _, _⟩) (v := ?_) rfl (by kernel_rfl) (by kernel_rfl) (by kernel_rfl) (fun _ _ _ h => h) (Or.inl ⟨by rfl, ?_⟩) (by assumption) ?_
            rotate_left
            · (intro w hSw; (try dsimp only at hSw); go_simp; (try (with_reducible rfl)))
            try simp only [Act.put, List.setIfInBounds_toArray, List.set_cons_zero, List.set_cons_succ]
            refine wpAnyH_take (i := 4) (oi := ⟨some 24, _, _, _, _, _⟩) (v := ?_) rfl (by kernel_rfl) (by kernel_rfl) (by kernel_rfl) (fun _ _ _ h => h) (Or.inl ⟨by rfl, ?_⟩) (by assumption) ?_
            rotate_left
            · (intro w hSw; (try dsimp only at hSw); go_simp; (try (with_reducible rfl)))
            try simp only [Act.put, List.setIfInBounds_toArray, List.set_cons_zero, List.set_cons_succ]
            refine wpAnyH_take (i := 5) (oi := ⟨some 25, _, _, _, _, _⟩) (v := ?_) rfl (by kernel_rfl) (by kernel_rfl) (by kernel_rfl) (fun _ _ _ h => h) (Or.inl ⟨by rfl, ?_⟩) (by assumption) ?_
            rotate_left
            · (intro w hSw; (try dsimp only at hSw); go_simp; (try (with_reducible rfl)))
            try simp only [Act.put, List.setIfInBounds_toArray, List.set_cons_zero, List.set_cons_succ]
            refine wpAnyH_take (i := 6) (oi := ⟨some 26, _, _, _, _, _⟩) (v := ?_) rfl (by kernel_rfl) (by kernel_rfl) (by kernel_rfl) (fun _ _ _ h => h) (Or.inl ⟨by rfl, ?_⟩) (by assumption) ?_
            rotate_left
            · (intro w hSw; (try dsimp only at hSw); go_simp; (try (with_reducible rfl)))
            try simp only [Act.put, List.setIfInBounds_toArray, List.set_cons_zero, List.set_cons_succ]
            refine wpAnyH_take (i := 7) (oi := ⟨some 27, _, _, _, _, _⟩) (v := ?_) rfl (by kernel_rfl) (by kernel_rfl) (by kernel_rfl) (fun _ _ _ h => h) (Or.inl ⟨by rfl, ?_⟩) (by assumption) ?_
            rotate_left
            · (intro w hSw; (try dsimp only at hSw); go_simp; (try (with_reducible rfl)))
            try simp only [Act.put, List.setIfInBounds_toArray, List.set_cons_zero, List.set_cons_succ]
            refine wpAnyH_take (i := 8) (oi := ⟨some 28, _, _, _, _, _⟩) (v := ?_) rfl (by kernel_rfl) (by kernel_rfl) (by kernel_rfl) (fun _ _ _ h => h) (Or.inl ⟨by rfl, ?_⟩) (by assumption) ?_
            rotate_left
            · (intro w hSw; (try dsimp only at hSw); go_simp; (try (with_reducible rfl)))
            try simp only [Act.put, List.setIfInBounds_toArray, List.set_cons_zero, List.set_cons_succ]
            refine wpAnyH_take (i := 10) (oi := ⟨some 30, _, _, _, _, _⟩) (v := ?_) rfl (by kernel_rfl) (by kernel_rfl) (by kernel_rfl) (fun _ _ _ h => h) (Or.inl ⟨by rfl, ?_⟩) (by assumption) ?_
            rotate_left
            · (intro w hSw; (try dsimp only at hSw); go_simp; (try (with_reducible rfl)))
            try simp only [Act.put, List.setIfInBounds_toArray, List.set_cons_zero, List.set_cons_succ]
            refine wpAnyH_ready (rs := [9]) (by kernel_rfl) (by simp) ?_
            refine AllReadyH.cons (o := ⟨some 29, _, _, _, _, _⟩) rfl (fun K hK => ?_) AllReadyH.nil
            go_simp
            refine HNR.out.mono ?_; rintro e w3 ⟨rfl, b3⟩; have d3 : Below wr.heap.size wr w3 := btrans (Below.refl _ _).drew b3; obtain ⟨k0, k1, -, -⟩ := (HG.out.below d3 HG.out.lt).two; have q7 := nearv.cell_keep q5 d3; have q8 := nearv.cell_keep q6 d3
            go_wp2_with fail
            refine hK.out _ _ (by (try dsimp only); simp [*]) (fun hHeld => ?_)
            clear hK K
            try simp only [List.setIfInBounds_toArray, List.set_cons_zero, List.set_cons_succ]
            refine wpAnyH_take (i := 11) (oi := ⟨some 31, _, _, _, _, _⟩) (v := ?_) rfl (by kernel_rfl) (by kernel_rfl) (by kernel_rfl) (fun _ _ _ h => h) (Or.inl ⟨by rfl, ?_⟩) (by assumption) ?_
            rotate_left
            · (intro w hSw; (try dsimp only at hSw); go_simp; (try (with_reducible rfl)))
            try simp only [Act.put, List.setIfInBounds_toArray, List.set_cons_zero, List.set_cons_succ]
            refine wpAnyH_done (by kernel_rfl) ?_ _
            have HB3 := Lib.hid (btrans HB.out d3)
            go_wp2_with fail
            first | go_ret | (rw [Exit.noGoto_ret]; go_ret)
            rw [HV.out]
            exact ⟨rfl, HB3.out⟩
end Go.Proofs.Ythpodbhiopnnbaa.ups

/- Clique covers: the contracts of the program's and the model's IsCliqueCover. -/
namespace Go.Proofs.Ythpodbhiopnnbaa.ups
open Go.RowKit P2 words edges ints owns good adjs fns sets rets covs bags balls bitsI func costs gridr
set_option linter.unusedVariables false

set_option maxHeartbeats 2000000 in
set_option maxRecDepth 100000 in
theorem implIcc_any (s : Int) (v : Value) (A2 : Option Addr) (c2 : Nat) (us : List Value) (q : List (List Int)) (l : List Ed) (w : World) (h : Edges w v l) (hl : l.length ≤ 1048576) (ht : ReadsG w (.slice A2 q.length c2) us q) (hql : q.length ≤ 1048576) (hqr : ∀ r ∈ q, r.length ≤ 1048576) :
    Calls Try.prog 26 #[.agg #[.int .i64 s, v], .slice A2 q.length c2] w fun e w' => e = .returned (.tuple #[.bool (okG (CovP s l q)), .bool (okG (P2.Good s l))]) ∧ Below w.heap.size w w' := by
  obtain ⟨A, c, rfl, -⟩ := h.form
  have H := Lib.hid h
  have b0 : Below w.heap.size w (w.alloc (.cells #[.int .i64 s, .slice A l.length c] 29)) := (Below.refl _ _).alloc (Nat.le_refl _) _
  have HG0 := Lib.hid (Blk.new w 29 #[.int .i64 s, .slice A l.length c])
  obtain ⟨p0, p1, -, -⟩ := HG0.out.two
  have HC := Lib.hid (coverOf_any s (.slice A l.length c) A2 c2 us q l _ (h.below b0) hl (ht.below b0) hql hqr)
  have HN := Lib.hid (fun (W : World) (hW : Below w.heap.size w W) => implIsGraph_any s (.slice A l.length c) l W (H.out.below hW) hl)
  have HGV : Hid (goodB s l = okG (P2.Good s l)) := by
    show _ = _
    by_cases hg : P2.Good s l
    · rw [goodB_yes hg, okG_yes hg]
    · rw [goodB_no hg, okG_no hg]
  rw [HGV.out] at HN
  have HB0 := Lib.hid b0
  clear h b0 ht HGV
  go_enter Try.func26, Try.ntmps26
  go_wp2_with fail
  refine HC.out.mono ?_
  rintro e w1 ⟨A4, N, c4, rfl, -, b1⟩
  have HE1 := Lib.hid (btrans HB0.out b1)
  have HG1 := Lib.hid (HG0.out.below b1 HG0.out.lt)
  clear p0 p1 b1
  obtain ⟨p0, p1, -, -⟩ := HG1.out.two
  go_wp2_with fail
  refine (HN.out w1 HE1.out).mono ?_
  rintro e w2 ⟨rfl, b2⟩
  go_wp2_with fail
  go_ret2
  exact ⟨rfl, btrans HE1.out b2⟩
set_option maxHeartbeats 8000000 in
set_option maxRecDepth 100000 in
theorem l10Cover_any (n : Nat) (v : Value) (A2 : Option Addr) (c2 : Nat) (us : List Value) (q : List (List Int)) (l : List Ed) (w : World) (h : Edges w v l) (hl : l.length ≤ 1048576) (ht : ReadsG w (.slice A2 q.length c2) us q) (hql : q.length ≤ 1048576) (hqr : ∀ r ∈ q, r.length ≤ 1048576) (hg : P2.Good (n : Int) l) (hn : n ≤ 8) :
    Calls Try.prog 57 #[.agg #[.int .i64 (n : Int), v], .slice A2 q.length c2] w fun e w' => e = .returned (.bool (okG (CvP n l q))) ∧ Below w.heap.size w w' := by
  obtain ⟨A, c, rfl, -⟩ := h.form
  obtain ⟨i0, hi, hz0, hz1, hz2⟩ := info_parts infoInt
  have H := Lib.hid h
  have HT := Lib.hid ht
  have HB0 : Hid (Below w.heap.size w ((w.alloc (.cells #[.int .i64 (n : Int), .slice A l.length c] 29)).alloc (.cells #[] 3))) := ((Below.refl _ _).alloc (Nat.le_refl _) _).alloc (by simp) _
  have HG0 := Lib.hid ((Blk.new w 29 #[.int .i64 (n : Int), .slice A l.length c]).alloc (.cells #[] 3))
  have o0 := own_new0 (w.alloc (.cells #[.int .i64 (n : Int), .slice A l.length c] 29)) 3 1
  rw [World.size_alloc] at o0
  have HO0 := Lib.hid (own_base (B' := w.heap.size) o0 (by omega))
  have HST := Lib.hid (fun (xs : List Int) (u : Value) (W : World) (hu : Ints W u xs) (hx : xs.length ≤ 1048576) => l2Set_any (n : Int) (.slice A l.length c) u l xs W hu hx (by omega) (by omega))
  have HRS : Hid (∀ xs, RisesIn xs 0 ((n : Int) - 1) ↔ SetOk (n : Int) l xs) := fun xs => rises_set hg
  have HAL := Lib.hid (fun (xs : List Int) (u : Value) (W : World) (hW : Below w.heap.size w W) (hu : Ints W u xs) (hx : xs.length ≤ 1048576) => l10Alike_any (n : Int) (.slice A l.length c) u l xs true W (H.out.below hW) hl hu hx)
  have HHS := Lib.hid (fun (xs : List Int) (x : Int) (u : Value) (W : World) (hu : Ints W u xs) (hx : xs.length ≤ 1048576) => l1Has_any u xs x W hu hx)
  have HCL : Hid (∀ xs, SetOk (n : Int) l xs → okG (AlkL l xs true) = clqC n l (codeL xs)) := fun xs hso => by
    have h1 : xs = nw (bitB (codeL xs)) n := by
      refine asc_ext hso.2.2 (nw_asc _ _) fun x => ?_
      rw [mem_nw]
      constructor
      · intro hx
        have := hso.2.1 x hx
        refine ⟨x.toNat, by omega, ?_, by omega⟩
        unfold bitB
        rw [code_bit (fun z hz => (hso.2.1 z hz).1), Int.toNat_of_nonneg this.1, decide_eq_true hx]
      · rintro ⟨j, hj, hp, rfl⟩
        unfold bitB at hp
        rw [code_bit (fun z hz => (hso.2.1 z hz).1)] at hp
        exact of_decide_eq_true hp
    have h2 : okG (AlkL l xs true) = okG (ClqL l xs) := by rw [Bool.eq_iff_iff, okG_iff, okG_iff]; exact alk_clq
    rw [h2]
    unfold clqC
    rw [← clq_nw, ← h1]
  clear h ht hg o0
  go_enter Try.func57, Try.ntmps57
  go_wp2_with fail
  go_loopg [5, 6] q.length (fun g sv iv wr => ∃ (k : Nat) (sw : Value) (S : List Int), sw = sv ∧ k + g = q.length ∧ iv = .int .i64 (k : Int) ∧ Hid (CvK n l q k ∧ SeenOk n (cvN q k) S) ∧ wr.ownsRow w.heap.size 3 1 sw S.length (cellsI S) ∧ Blk wr w.heap.size 29 #[.int .i64 (n : Int), .slice A l.length c] ∧ Below w.heap.size w wr)
  case atStart => exact ⟨0, _, [], rfl, by omega, rfl, ⟨CvK.zero n l q, SeenOk.nil n⟩, HO0.out, HG0.out, HB0.out⟩
  case round =>
    clear HO0 HG0 HB0
    obtain ⟨k, sw, S, rfl, hkg, rfl, hck, hrow, hgb, hB⟩ := hrel
    obtain ⟨A4, c4, rfl⟩ := own_form hrow
    obtain ⟨p0, p1, -, -⟩ := hgb.two
    have HB := Lib.hid hB
    have HG := Lib.hid hgb
    have HR := Lib.hid hrow
    have hcl := cvN_lt (by omega) hck.out.1
    have hsl := hck.out.2.2
    have ho8 := ones_le (cvN q k)
    cases gk with
    | zero =>
      obtain rfl : k = q.length := by omega
      have HV : Hid (okG (CvP n l q) = (S.length == n)) := by
        show _ = _
        rw [Bool.eq_iff_iff, okG_iff, beq_iff_eq, hck.out.2.2, full_ones hn hcl]
        exact ⟨fun h => h.2, fun h => ⟨hck.out.1, h⟩⟩
      clear hcl hsl hrow hgb hB
      generalize S.length = sl at *
      have hbq := beq_castC sl n
      go_wp2_with fail
      go_ret
      exact ⟨ret_bool (by first | exact HV.out.symm | (rw [HV.out]; first | rfl | exact hbq)), HB.out⟩
    | succ g2 =>
      have hlt : k < q.length := by omega
      have hlt' : (k : Int) < (q.length : Int) := by omega
      obtain ⟨xs, hxs⟩ : ∃ xs, q[k]? = some xs := ⟨_, List.getElem?_eq_getElem hlt⟩
      have hxl := hqr xs (List.mem_of_getElem? hxs)
      obtain ⟨u, g5, o5, hu5, hA5, c5w, huw⟩ := HT.out.row hxs
      subst hA5
      obtain ⟨Ax, cx, rfl, -⟩ := huw.form
      have c5 := nearv.cell_keep c5w hB
      have hu := huw.below hB
      have HC5W := Lib.hid c5w
      have HUW := Lib.hid huw
      clear c5w huw
      have HNO : Hid (¬ CvS n l (cvN q k) xs → okG (CvP n l q) = false) := fun h1 => okG_no (cvP_no hxs h1)
      have HU := Lib.hid hu
      have HS1 := Lib.hid (HST.out xs (.slice Ax xs.length cx) wr.drew (hu.below (Below.refl _ _).drew) hxl)
      by_cases hso : SetOk (n : Int) l xs
      · rw [okG_yes ((HRS.out xs).2 hso)] at HS1
        by_cases hx0 : xs = []
        · have HF := Lib.hid (HNO.out fun h1 => h1.1.2 hx0)
          subst hx0
          rw [List.length_nil] at HS1 c5
          clear hso hcl hu hu5 hxs hrow hB hck hgb hsl hxl HU
          go_wp2_with fail
          refine wp_region_held_drew (S := (fun w' : World => w'.cell? ⟨w.heap.size, 0, none⟩ = some (.int .i64 (n : Int)) ∧ w'.cell? ⟨w.heap.size, 1, none⟩ = some (.slice A l.length c) ∧ w'.cell? ⟨g5, o5 + k, none⟩ = some (.slice Ax 0 cx))) (by kernel_rfl) (by (try dsimp only); simp [*]) (fun hHeld => ?_)
          change wpAnyH _ _ _ _ _ _ #[false, false, false, false, false, false, false, false, false, false, false, false, false, false, false, false, false, false, false, false, false, false, false, false] _ _
          refine wpAnyH_take (i := 0) (oi := ⟨some 15, _, _, _, _, _⟩) (v := ?_) rfl (by kernel_rfl) (by kernel_rfl) (by kernel_rfl) (fun _ _ _ h => h) (Or.inl ⟨by rfl, ?_⟩) (by assumption) ?_
          rotate_left
          · (intro w hSw; (try dsimp only at hSw); go_simp; (try (with_reducible rfl)))
          try simp only [Act.put, List.setIfInBounds_toArray, List.set_cons_zero, List.set_cons_succ]
          refine wpAnyH_take (i := 1) (oi := ⟨some 16, _, _, _, _, _⟩) (v := ?_) rfl (by kernel_rfl) (by kernel_rfl) (by kernel_rfl) (fun _ _ _ h => h) (Or.inl ⟨by rfl, ?_⟩) (by assumption) ?_
          rotate_left
          · (intro w hSw; (try dsimp only at hSw); go_simp; (try (with_reducible rfl)))
          try simp only [Act.put, List.setIfInBounds_toArray, List.set_cons_zero, List.set_cons_succ]
          refine wpAnyH_take (i := 2) (oi := ⟨some 17, _, _, _, _, _⟩) (v := ?_) rfl (by kernel_rfl) (by kernel_rfl) (by kernel_rfl) (fun _ _ _ h => h) (Or.inl ⟨by rfl, ?_⟩) (by assumption) ?_
          rotate_left
          · (intro w hSw; (try dsimp only at hSw); go_simp; (try (with_reducible rfl)))
          try simp only [Act.put, List.setIfInBounds_toArray, List.set_cons_zero, List.set_cons_succ]
          refine wpAnyH_take (i := 3) (oi := ⟨some 18, _, _, _, _, _⟩) (v := ?_) rfl (by kernel_rfl) (by kernel_rfl) (by kernel_rfl) (fun _ _ _ h => h) (Or.inl ⟨by rfl, ?_⟩) (by assumption) ?_
          rotate_left
          · (intro w hSw; (try dsimp only at hSw); go_simp; (try (with_reducible rfl)))
          try simp only [Act.put, List.setIfInBounds_toArray, List.set_cons_zero, List.set_cons_succ]
          refine wpAnyH_take (i := 4) (oi := ⟨some 19, _, _, _, _, _⟩) (v := ?_) rfl (by kernel_rfl) (by kernel_rfl) (by kernel_rfl) (fun _ _ _ h => h) (Or.inl ⟨by rfl, ?_⟩) (by assumption) ?_
          rotate_left
          · (intro w hSw; (try dsimp only at hSw); go_simp; (try (with_reducible rfl)))
          try simp only [Act.put, List.setIfInBounds_toArray, List.set_cons_zero, List.set_cons_succ]
          refine wpAnyH_ready (rs := [5]) (by kernel_rfl) (by simp) ?_
          refine AllReadyH.cons (o := ⟨some 20, _, _, _, _, _⟩) rfl (fun K hK => ?_) AllReadyH.nil
          go_simp
          (with_reducible refine HS1.out.mono ?_); rintro e w4 ⟨rfl, b4⟩; have d4 : Below wr.heap.size wr w4 := btrans (Below.refl _ _).drew b4; obtain ⟨k0, k1, -, -⟩ := (HG.out.below d4 HG.out.lt).two; have k2 := nearv.cell_keep c5 d4
          go_wp2_with fail
          refine hK.out _ _ (by (try dsimp only); simp [*]) (fun hHeld => ?_)
          clear hK K
          try simp only [List.setIfInBounds_toArray, List.set_cons_zero, List.set_cons_succ]
          refine wpAnyH_take (i := 6) (oi := ⟨some 21, _, _, _, _, _⟩) (v := ?_) rfl (by kernel_rfl) (by kernel_rfl) (by kernel_rfl) (fun _ _ _ h => h) (Or.inl ⟨by rfl, ?_⟩) (by assumption) ?_
          rotate_left
          · (intro w hSw; (try dsimp only at hSw); go_simp; (try (with_reducible rfl)))
          try simp only [Act.put, List.setIfInBounds_toArray, List.set_cons_zero, List.set_cons_succ]
          refine wpAnyH_take (i := 7) (oi := ⟨some 22, _, _, _, _, _⟩) (v := ?_) rfl (by kernel_rfl) (by kernel_rfl) (by kernel_rfl) (fun _ _ _ h => h) (Or.inl ⟨by rfl, ?_⟩) (by assumption) ?_
          rotate_left
          · (intro w hSw; (try dsimp only at hSw); go_simp; (try (with_reducible rfl)))
          try simp only [Act.put, List.setIfInBounds_toArray, List.set_cons_zero, List.set_cons_succ]
          refine wpAnyH_take (i := 8) (oi := ⟨some 23, _, _, _, _, _⟩) (v := ?_) rfl (by kernel_rfl) (by kernel_rfl) (by kernel_rfl) (fun _ _ _ h => h) (Or.inl ⟨by rfl, ?_⟩) (by assumption) ?_
          rotate_left
          · (intro w hSw; (try dsimp only at hSw); go_simp; (try (with_reducible rfl)))
          try simp only [Act.put, List.setIfInBounds_toArray, List.set_cons_zero, List.set_cons_succ]
          refine wpAnyH_take (i := 9) (oi := ⟨some 24, _, _, _, _, _⟩) (v := ?_) rfl (by kernel_rfl) (by kernel_rfl) (by kernel_rfl) (fun _ _ _ h => h) (Or.inl ⟨by rfl, ?_⟩) (by assumption) ?_
          rotate_left
          · (intro w hSw; (try dsimp only at hSw); go_simp; (try (with_reducible rfl)))
          try simp only [Act.put, List.setIfInBounds_toArray, List.set_cons_zero, List.set_cons_succ]
          refine wpAnyH_take (i := 10) (oi := ⟨some 25, _, _, _, _, _⟩) (v := ?_) rfl (by kernel_rfl) (by kernel_rfl) (by kernel_rfl) (fun _ _ _ h => h) (Or.inl ⟨by rfl, ?_⟩) (by assumption) ?_
          rotate_left
          · (intro w hSw; (try dsimp only at hSw); go_simp; (try (with_reducible rfl)))
          try simp only [Act.put, List.setIfInBounds_toArray, List.set_cons_zero, List.set_cons_succ]
          refine wpAnyH_take (i := 11) (oi := ⟨some 26, _, _, _, _, _⟩) (v := ?_) rfl (by kernel_rfl) (by kernel_rfl) (by kernel_rfl) (fun _ _ _ h => h) (Or.inl ⟨by rfl, ?_⟩) (by assumption) ?_
          rotate_left
          · (intro w hSw; (try dsimp only at hSw); go_simp; (try (with_reducible rfl)))
          try simp only [Act.put, List.setIfInBounds_toArray, List.set_cons_zero, List.set_cons_succ]
          refine wpAnyH_take (i := 12) (oi := ⟨some 27, _, _, _, _, _⟩) (v := ?_) rfl (by kernel_rfl) (by kernel_rfl) (by kernel_rfl) (fun _ _ _ h => h) (Or.inl ⟨by rfl, ?_⟩) (by assumption) ?_
          rotate_left
          · (intro w hSw; (try dsimp only at hSw); go_simp; (try (with_reducible rfl)))
          try simp only [Act.put, List.setIfInBounds_toArray, List.set_cons_zero, List.set_cons_succ]
          refine wpAnyH_take (i := 13) (oi := ⟨some 28, _, _, _, _, _⟩) (v := ?_) rfl (by kernel_rfl) (by kernel_rfl) (by kernel_rfl) (fun _ _ _ h => h) (Or.inl ⟨by rfl, ?_⟩) (by assumption) ?_
          rotate_left
          · (intro w hSw; (try dsimp only at hSw); go_simp; (try (with_reducible rfl)))
          try simp only [Act.put, List.setIfInBounds_toArray, List.set_cons_zero, List.set_cons_succ]
          refine wpAnyH_take (i := 14) (oi := ⟨some 29, _, _, _, _, _⟩) (v := ?_) rfl (by kernel_rfl) (by kernel_rfl) (by kernel_rfl) (fun _ _ _ h => h) (Or.inl ⟨by rfl, ?_⟩) (by assumption) ?_
          rotate_left
          · (intro w hSw; (try dsimp only at hSw); go_simp; (try (with_reducible rfl)))
          try simp only [Act.put, List.setIfInBounds_toArray, List.set_cons_zero, List.set_cons_succ]
          refine wpAnyH_take (i := 15) (oi := ⟨some 30, _, _, _, _, _⟩) (v := ?_) rfl (by kernel_rfl) (by kernel_rfl) (by kernel_rfl) (fun _ _ _ h => h) (Or.inl ⟨by rfl, ?_⟩) (by assumption) ?_
          rotate_left
          · (intro w hSw; (try dsimp only at hSw); go_simp; (try (with_reducible rfl)))
          try simp only [Act.put, List.setIfInBounds_toArray, List.set_cons_zero, List.set_cons_succ]
          refine wpAnyH_take (i := 16) (oi := ⟨some 31, _, _, _, _, _⟩) (v := undef) rfl (by kernel_rfl) (by kernel_rfl) (by kernel_rfl) (fun _ _ _ h => h) (Or.inr ⟨by rfl, rfl⟩) (by assumption) ?_
          try simp only [Act.put, List.setIfInBounds_toArray, List.set_cons_zero, List.set_cons_succ]
          refine wpAnyH_take (i := 17) (oi := ⟨some 32, _, _, _, _, _⟩) (v := undef) rfl (by kernel_rfl) (by kernel_rfl) (by kernel_rfl) (fun _ _ _ h => h) (Or.inr ⟨by rfl, rfl⟩) (by assumption) ?_
          try simp only [Act.put, List.setIfInBounds_toArray, List.set_cons_zero, List.set_cons_succ]
          refine wpAnyH_take (i := 18) (oi := ⟨some 33, _, _, _, _, _⟩) (v := undef) rfl (by kernel_rfl) (by kernel_rfl) (by kernel_rfl) (fun _ _ _ h => h) (Or.inr ⟨by rfl, rfl⟩) (by assumption) ?_
          try simp only [Act.put, List.setIfInBounds_toArray, List.set_cons_zero, List.set_cons_succ]
          refine wpAnyH_take (i := 19) (oi := ⟨some 34, _, _, _, _, _⟩) (v := undef) rfl (by kernel_rfl) (by kernel_rfl) (by kernel_rfl) (fun _ _ _ h => h) (Or.inr ⟨by rfl, rfl⟩) (by assumption) ?_
          try simp only [Act.put, List.setIfInBounds_toArray, List.set_cons_zero, List.set_cons_succ]
          refine wpAnyH_take (i := 20) (oi := ⟨some 35, _, _, _, _, _⟩) (v := undef) rfl (by kernel_rfl) (by kernel_rfl) (by kernel_rfl) (fun _ _ _ h => h) (Or.inr ⟨by rfl, rfl⟩) (by assumption) ?_
          try simp only [Act.put, List.setIfInBounds_toArray, List.set_cons_zero, List.set_cons_succ]
          refine wpAnyH_take (i := 21) (oi := ⟨some 36, _, _, _, _, _⟩) (v := undef) rfl (by kernel_rfl) (by kernel_rfl) (by kernel_rfl) (fun _ _ _ h => h) (Or.inr ⟨by rfl, rfl⟩) (by assumption) ?_
          try simp only [Act.put, List.setIfInBounds_toArray, List.set_cons_zero, List.set_cons_succ]
          refine wpAnyH_take (i := 22) (oi := ⟨some 37, _, _, _, _, _⟩) (v := undef) rfl (by kernel_rfl) (by kernel_rfl) (by kernel_rfl) (fun _ _ _ h => h) (Or.inr ⟨by rfl, rfl⟩) (by assumption) ?_
          try simp only [Act.put, List.setIfInBounds_toArray, List.set_cons_zero, List.set_cons_succ]
          refine wpAnyH_take (i := 23) (oi := ⟨some 38, _, _, _, _, _⟩) (v := ?_) rfl (by kernel_rfl) (by kernel_rfl) (by kernel_rfl) (fun _ _ _ h => h) (Or.inl ⟨by rfl, ?_⟩) (by assumption) ?_
          rotate_left
          · (intro w hSw; (try dsimp only at hSw); go_simp; (try (with_reducible rfl)))
          try simp only [Act.put, List.setIfInBounds_toArray, List.set_cons_zero, List.set_cons_succ]
          refine wpAnyH_done (by kernel_rfl) ?_ _
          go_wp2_with fail
          go_ret
          rw [HF.out]
          exact ⟨rfl, btrans HB.out d4⟩
        · have hq0 : ((xs.length : Int) == 0) = false := by
            rw [beq_eq_false_iff_ne]
            intro e
            exact hx0 (List.length_eq_zero_iff.1 (by omega))
          have HA1 := Lib.hid (fun (W : World) (hW : Below wr.heap.size wr W) => HAL.out xs (.slice Ax xs.length cx) W (btrans HB.out hW) (HU.out.below hW) hxl)
          rw [HCL.out xs hso] at HA1
          cases hcq : clqC n l (codeL xs) with
          | false =>
            have HF := Lib.hid (HNO.out fun h1 => by have := h1.2.2; rw [hcq] at this; cases this)
            rw [hcq] at HA1
            clear hso hcl hu hu5 hxs hrow hB hck hgb hsl hx0 hcq
            go_wp2_with fail
            refine wp_region_held_drew (S := (fun w' : World => w'.cell? ⟨w.heap.size, 0, none⟩ = some (.int .i64 (n : Int)) ∧ w'.cell? ⟨w.heap.size, 1, none⟩ = some (.slice A l.length c) ∧ w'.cell? ⟨g5, o5 + k, none⟩ = some (.slice Ax xs.length cx))) (by kernel_rfl) (by (try dsimp only); simp [*]) (fun hHeld => ?_)
            change wpAnyH _ _ _ _ _ _ #[false, false, false, false, false, false, false, false, false, false, false, false, false, false, false, false, false, false, false, false, false, false, false, false] _ _
            refine wpAnyH_take (i := 0) (oi := ⟨some 15, _, _, _, _, _⟩) (v := ?_) rfl (by kernel_rfl) (by kernel_rfl) (by kernel_rfl) (fun _ _ _ h => h) (Or.inl ⟨by rfl, ?_⟩) (by assumption) ?_
            rotate_left
            · (intro w hSw; (try dsimp only at hSw); go_simp; (try (with_reducible rfl)))
            try simp only [Act.put, List.setIfInBounds_toArray, List.set_cons_zero, List.set_cons_succ]
            refine wpAnyH_take (i := 1) (oi := ⟨some 16, _, _, _, _, _⟩) (v := ?_) rfl (by kernel_rfl) (by kernel_rfl) (by kernel_rfl) (fun _ _ _ h => h) (Or.inl ⟨by rfl, ?_⟩) (by assumption) ?_
            rotate_left
            · (intro w hSw; (try dsimp only at hSw); go_simp; (try (with_reducible rfl)))
            try simp only [Act.put, List.setIfInBounds_toArray, List.set_cons_zero, List.set_cons_succ]
            refine wpAnyH_take (i := 2) (oi := ⟨some 17, _, _, _, _, _⟩) (v := ?_) rfl (by kernel_rfl) (by kernel_rfl) (by kernel_rfl) (fun _ _ _ h => h) (Or.inl ⟨by rfl, ?_⟩) (by assumption) ?_
            rotate_left
            · (intro w hSw; (try dsimp only at hSw); go_simp; (try (with_reducible rfl)))
            try simp only [Act.put, List.setIfInBounds_toArray, List.set_cons_zero, List.set_cons_succ]
            refine wpAnyH_take (i := 3) (oi := ⟨some 18, _, _, _, _, _⟩) (v := ?_) rfl (by kernel_rfl) (by kernel_rfl) (by kernel_rfl) (fun _ _ _ h => h) (Or.inl ⟨by rfl, ?_⟩) (by assumption) ?_
            rotate_left
            · (intro w hSw; (try dsimp only at hSw); go_simp; (try (with_reducible rfl)))
            try simp only [Act.put, List.setIfInBounds_toArray, List.set_cons_zero, List.set_cons_succ]
            refine wpAnyH_take (i := 4) (oi := ⟨some 19, _, _, _, _, _⟩) (v := ?_) rfl (by kernel_rfl) (by kernel_rfl) (by kernel_rfl) (fun _ _ _ h => h) (Or.inl ⟨by rfl, ?_⟩) (by assumption) ?_
            rotate_left
            · (intro w hSw; (try dsimp only at hSw); go_simp; (try (with_reducible rfl)))
            try simp only [Act.put, List.setIfInBounds_toArray, List.set_cons_zero, List.set_cons_succ]
            refine wpAnyH_ready (rs := [5]) (by kernel_rfl) (by simp) ?_
            refine AllReadyH.cons (o := ⟨some 20, _, _, _, _, _⟩) rfl (fun K hK => ?_) AllReadyH.nil
            go_simp
            (with_reducible refine HS1.out.mono ?_); rintro e w4 ⟨rfl, b4⟩; have d4 : Below wr.heap.size wr w4 := btrans (Below.refl _ _).drew b4; obtain ⟨k0, k1, -, -⟩ := (HG.out.below d4 HG.out.lt).two; have k2 := nearv.cell_keep c5 d4
            go_wp2_with fail
            refine hK.out _ _ (by (try dsimp only); simp [*]) (fun hHeld => ?_)
            clear hK K
            try simp only [List.setIfInBounds_toArray, List.set_cons_zero, List.set_cons_succ]
            refine wpAnyH_take (i := 6) (oi := ⟨some 21, _, _, _, _, _⟩) (v := ?_) rfl (by kernel_rfl) (by kernel_rfl) (by kernel_rfl) (fun _ _ _ h => h) (Or.inl ⟨by rfl, ?_⟩) (by assumption) ?_
            rotate_left
            · (intro w hSw; (try dsimp only at hSw); go_simp; (try (with_reducible rfl)))
            try simp only [Act.put, List.setIfInBounds_toArray, List.set_cons_zero, List.set_cons_succ]
            refine wpAnyH_take (i := 7) (oi := ⟨some 22, _, _, _, _, _⟩) (v := ?_) rfl (by kernel_rfl) (by kernel_rfl) (by kernel_rfl) (fun _ _ _ h => h) (Or.inl ⟨by rfl, ?_⟩) (by assumption) ?_
            rotate_left
            · (intro w hSw; (try dsimp only at hSw); go_simp; (try (with_reducible rfl)))
            try simp only [Act.put, List.setIfInBounds_toArray, List.set_cons_zero, List.set_cons_succ]
            refine wpAnyH_take (i := 8) (oi := ⟨some 23, _, _, _, _, _⟩) (v := ?_) rfl (by kernel_rfl) (by kernel_rfl) (by kernel_rfl) (fun _ _ _ h => h) (Or.inl ⟨by rfl, ?_⟩) (by assumption) ?_
            rotate_left
            · (intro w hSw; (try dsimp only at hSw); go_simp; (try (with_reducible rfl)))
            try simp only [Act.put, List.setIfInBounds_toArray, List.set_cons_zero, List.set_cons_succ]
            refine wpAnyH_take (i := 9) (oi := ⟨some 24, _, _, _, _, _⟩) (v := ?_) rfl (by kernel_rfl) (by kernel_rfl) (by kernel_rfl) (fun _ _ _ h => h) (Or.inl ⟨by rfl, ?_⟩) (by assumption) ?_
            rotate_left
            · (intro w hSw; (try dsimp only at hSw); go_simp; (try (with_reducible rfl)))
            try simp only [Act.put, List.setIfInBounds_toArray, List.set_cons_zero, List.set_cons_succ]
            refine wpAnyH_take (i := 10) (oi := ⟨some 25, _, _, _, _, _⟩) (v := ?_) rfl (by kernel_rfl) (by kernel_rfl) (by kernel_rfl) (fun _ _ _ h => h) (Or.inl ⟨by rfl, ?_⟩) (by assumption) ?_
            rotate_left
            · (intro w hSw; (try dsimp only at hSw); go_simp; (try (with_reducible rfl)))
            try simp only [Act.put, List.setIfInBounds_toArray, List.set_cons_zero, List.set_cons_succ]
            refine wpAnyH_take (i := 11) (oi := ⟨some 26, _, _, _, _, _⟩) (v := ?_) rfl (by kernel_rfl) (by kernel_rfl) (by kernel_rfl) (fun _ _ _ h => h) (Or.inl ⟨by rfl, ?_⟩) (by assumption) ?_
            rotate_left
            · (intro w hSw; (try dsimp only at hSw); go_simp; (try (with_reducible rfl)))
            try simp only [Act.put, List.setIfInBounds_toArray, List.set_cons_zero, List.set_cons_succ]
            refine wpAnyH_take (i := 12) (oi := ⟨some 27, _, _, _, _, _⟩) (v := ?_) rfl (by kernel_rfl) (by kernel_rfl) (by kernel_rfl) (fun _ _ _ h => h) (Or.inl ⟨by rfl, ?_⟩) (by assumption) ?_
            rotate_left
            · (intro w hSw; (try dsimp only at hSw); go_simp; (try (with_reducible rfl)))
            try simp only [Act.put, List.setIfInBounds_toArray, List.set_cons_zero, List.set_cons_succ]
            refine wpAnyH_take (i := 13) (oi := ⟨some 28, _, _, _, _, _⟩) (v := ?_) rfl (by kernel_rfl) (by kernel_rfl) (by kernel_rfl) (fun _ _ _ h => h) (Or.inl ⟨by rfl, ?_⟩) (by assumption) ?_
            rotate_left
            · (intro w hSw; (try dsimp only at hSw); go_simp; (try (with_reducible rfl)))
            try simp only [Act.put, List.setIfInBounds_toArray, List.set_cons_zero, List.set_cons_succ]
            refine wpAnyH_take (i := 14) (oi := ⟨some 29, _, _, _, _, _⟩) (v := ?_) rfl (by kernel_rfl) (by kernel_rfl) (by kernel_rfl) (fun _ _ _ h => h) (Or.inl ⟨by rfl, ?_⟩) (by assumption) ?_
            rotate_left
            · (intro w hSw; (try dsimp only at hSw); go_simp; (try (with_reducible rfl)))
            try simp only [Act.put, List.setIfInBounds_toArray, List.set_cons_zero, List.set_cons_succ]
            refine wpAnyH_take (i := 15) (oi := ⟨some 30, _, _, _, _, _⟩) (v := ?_) rfl (by kernel_rfl) (by kernel_rfl) (by kernel_rfl) (fun _ _ _ h => h) (Or.inl ⟨by rfl, ?_⟩) (by assumption) ?_
            rotate_left
            · (intro w hSw; (try dsimp only at hSw); go_simp; (try (with_reducible rfl)))
            try simp only [Act.put, List.setIfInBounds_toArray, List.set_cons_zero, List.set_cons_succ]
            refine wpAnyH_take (i := 16) (oi := ⟨some 31, _, _, _, _, _⟩) (v := ?_) rfl (by kernel_rfl) (by kernel_rfl) (by kernel_rfl) (fun _ _ _ h => h) (Or.inl ⟨by rfl, ?_⟩) (by assumption) ?_
            rotate_left
            · (intro w hSw; (try dsimp only at hSw); go_simp; (try (with_reducible rfl)))
            try simp only [Act.put, List.setIfInBounds_toArray, List.set_cons_zero, List.set_cons_succ]
            refine wpAnyH_take (i := 17) (oi := ⟨some 32, _, _, _, _, _⟩) (v := ?_) rfl (by kernel_rfl) (by kernel_rfl) (by kernel_rfl) (fun _ _ _ h => h) (Or.inl ⟨by rfl, ?_⟩) (by assumption) ?_
            rotate_left
            · (intro w hSw; (try dsimp only at hSw); go_simp; (try (with_reducible rfl)))
            try simp only [Act.put, List.setIfInBounds_toArray, List.set_cons_zero, List.set_cons_succ]
            refine wpAnyH_take (i := 18) (oi := ⟨some 33, _, _, _, _, _⟩) (v := ?_) rfl (by kernel_rfl) (by kernel_rfl) (by kernel_rfl) (fun _ _ _ h => h) (Or.inl ⟨by rfl, ?_⟩) (by assumption) ?_
            rotate_left
            · (intro w hSw; (try dsimp only at hSw); go_simp; (try (with_reducible rfl)))
            try simp only [Act.put, List.setIfInBounds_toArray, List.set_cons_zero, List.set_cons_succ]
            refine wpAnyH_take (i := 19) (oi := ⟨some 34, _, _, _, _, _⟩) (v := ?_) rfl (by kernel_rfl) (by kernel_rfl) (by kernel_rfl) (fun _ _ _ h => h) (Or.inl ⟨by rfl, ?_⟩) (by assumption) ?_
            rotate_left
            · (intro w hSw; (try dsimp only at hSw); go_simp; (try (with_reducible rfl)))
            try simp only [Act.put, List.setIfInBounds_toArray, List.set_cons_zero, List.set_cons_succ]
            refine wpAnyH_take (i := 20) (oi := ⟨some 35, _, _, _, _, _⟩) (v := ?_) rfl (by kernel_rfl) (by kernel_rfl) (by kernel_rfl) (fun _ _ _ h => h) (Or.inl ⟨by rfl, ?_⟩) (by assumption) ?_
            rotate_left
            · (intro w hSw; (try dsimp only at hSw); go_simp; (try (with_reducible rfl)))
            try simp only [Act.put, List.setIfInBounds_toArray, List.set_cons_zero, List.set_cons_succ]
            refine wpAnyH_ready (rs := [21]) (by kernel_rfl) (by simp) ?_
            refine AllReadyH.cons (o := ⟨some 36, _, _, _, _, _⟩) rfl (fun K hK => ?_) AllReadyH.nil
            go_simp
            (with_reducible refine (HA1.out w4 d4).mono ?_); rintro e w5 ⟨rfl, b5⟩; have d5 : Below wr.heap.size wr w5 := btrans d4 b5; obtain ⟨i0_, i1_, -, -⟩ := (HG.out.below d5 HG.out.lt).two; have i2_ := nearv.cell_keep c5 d5
            go_wp2_with fail
            refine hK.out _ _ (by (try dsimp only); simp [*]) (fun hHeld => ?_)
            clear hK K
            try simp only [List.setIfInBounds_toArray, List.set_cons_zero, List.set_cons_succ]
            refine wpAnyH_take (i := 22) (oi := ⟨some 37, _, _, _, _, _⟩) (v := ?_) rfl (by kernel_rfl) (by kernel_rfl) (by kernel_rfl) (fun _ _ _ h => h) (Or.inl ⟨by rfl, ?_⟩) (by assumption) ?_
            rotate_left
            · (intro w hSw; (try dsimp only at hSw); go_simp; (try (with_reducible rfl)))
            try simp only [Act.put, List.setIfInBounds_toArray, List.set_cons_zero, List.set_cons_succ]
            refine wpAnyH_take (i := 23) (oi := ⟨some 38, _, _, _, _, _⟩) (v := ?_) rfl (by kernel_rfl) (by kernel_rfl) (by kernel_rfl) (fun _ _ _ h => h) (Or.inl ⟨by rfl, ?_⟩) (by assumption) ?_
            rotate_left
            · (intro w hSw; (try dsimp only at hSw); go_simp; (try (with_reducible rfl)))
            try simp only [Act.put, List.setIfInBounds_toArray, List.set_cons_zero, List.set_cons_succ]
            refine wpAnyH_done (by kernel_rfl) ?_ _
            go_wp2_with fail
            go_ret
            rw [HF.out]
            exact ⟨rfl, btrans HB.out d5⟩
          | true =>
            have HAZ : Hid (codeL xs &&& cvN q k = 0 ↔ ∀ x ∈ xs, (cvN q k).testBit x.toNat = false) := and_zero hso.2.1
            have HCS : Hid (codeL xs &&& cvN q k = 0 → CvS n l (cvN q k) xs) := fun h1 => ⟨⟨hso, hx0⟩, h1, hcq⟩
            have HCN : Hid (¬ codeL xs &&& cvN q k = 0 → okG (CvP n l q) = false) := fun h1 => HNO.out fun h2 => h1 h2.2.1
            have HADD : Hid (codeL xs &&& cvN q k = 0 → CvK n l q (k + 1) ∧ SeenOk n (cvN q (k + 1)) (S ++ xs)) := fun h1 => ⟨hck.out.1.next hxs (HCS.out h1), by rw [cvN_succ hxs]; exact hck.out.2.add hn hso h1⟩
            have HSH : Hid (∀ (j : Nat) (x : Int) (T : List Int), SeenK n (cvN q k) S xs j T → xs[j]? = some x → decide (x ∈ T) = (cvN q k).testBit x.toNat) := fun j x T h1 h2 => seen_has hck.out.2 hso.2.2 (hso.2.1 x (List.mem_of_getElem? h2)) h1 h2
            have HXL : Hid (xs.length ≤ 8) := Nat.le_trans (asc_len hso.2.2 hso.2.1) hn
            have HSL : Hid (S.length ≤ 8) := by show _ ≤ _; omega
            rw [hcq] at HA1
            clear hso hcl hu hu5 hrow hB hgb hsl hx0 hcq
            go_wp2_with fail
            refine wp_region_held_drew (S := (fun w' : World => w'.cell? ⟨w.heap.size, 0, none⟩ = some (.int .i64 (n : Int)) ∧ w'.cell? ⟨w.heap.size, 1, none⟩ = some (.slice A l.length c) ∧ w'.cell? ⟨g5, o5 + k, none⟩ = some (.slice Ax xs.length cx))) (by kernel_rfl) (by (try dsimp only); simp [*]) (fun hHeld => ?_)
            change wpAnyH _ _ _ _ _ _ #[false, false, false, false, false, false, false, false, false, false, false, false, false, false, false, false, false, false, false, false, false, false, false, false] _ _
            refine wpAnyH_take (i := 0) (oi := ⟨some 15, _, _, _, _, _⟩) (v := ?_) rfl (by kernel_rfl) (by kernel_rfl) (by kernel_rfl) (fun _ _ _ h => h) (Or.inl ⟨by rfl, ?_⟩) (by assumption) ?_
            rotate_left
            · (intro w hSw; (try dsimp only at hSw); go_simp; (try (with_reducible rfl)))
            try simp only [Act.put, List.setIfInBounds_toArray, List.set_cons_zero, List.set_cons_succ]
            refine wpAnyH_take (i := 1) (oi := ⟨some 16, _, _, _, _, _⟩) (v := ?_) rfl (by kernel_rfl) (by kernel_rfl) (by kernel_rfl) (fun _ _ _ h => h) (Or.inl ⟨by rfl, ?_⟩) (by assumption) ?_
            rotate_left
            · (intro w hSw; (try dsimp only at hSw); go_simp; (try (with_reducible rfl)))
            try simp only [Act.put, List.setIfInBounds_toArray, List.set_cons_zero, List.set_cons_succ]
            refine wpAnyH_take (i := 2) (oi := ⟨some 17, _, _, _, _, _⟩) (v := ?_) rfl (by kernel_rfl) (by kernel_rfl) (by kernel_rfl) (fun _ _ _ h => h) (Or.inl ⟨by rfl, ?_⟩) (by assumption) ?_
            rotate_left
            · (intro w hSw; (try dsimp only at hSw); go_simp; (try (with_reducible rfl)))
            try simp only [Act.put, List.setIfInBounds_toArray, List.set_cons_zero, List.set_cons_succ]
            refine wpAnyH_take (i := 3) (oi := ⟨some 18, _, _, _, _, _⟩) (v := ?_) rfl (by kernel_rfl) (by kernel_rfl) (by kernel_rfl) (fun _ _ _ h => h) (Or.inl ⟨by rfl, ?_⟩) (by assumption) ?_
            rotate_left
            · (intro w hSw; (try dsimp only at hSw); go_simp; (try (with_reducible rfl)))
            try simp only [Act.put, List.setIfInBounds_toArray, List.set_cons_zero, List.set_cons_succ]
            refine wpAnyH_take (i := 4) (oi := ⟨some 19, _, _, _, _, _⟩) (v := ?_) rfl (by kernel_rfl) (by kernel_rfl) (by kernel_rfl) (fun _ _ _ h => h) (Or.inl ⟨by rfl, ?_⟩) (by assumption) ?_
            rotate_left
            · (intro w hSw; (try dsimp only at hSw); go_simp; (try (with_reducible rfl)))
            try simp only [Act.put, List.setIfInBounds_toArray, List.set_cons_zero, List.set_cons_succ]
            refine wpAnyH_ready (rs := [5]) (by kernel_rfl) (by simp) ?_
            refine AllReadyH.cons (o := ⟨some 20, _, _, _, _, _⟩) rfl (fun K hK => ?_) AllReadyH.nil
            go_simp
            (with_reducible refine HS1.out.mono ?_); rintro e w4 ⟨rfl, b4⟩; have d4 : Below wr.heap.size wr w4 := btrans (Below.refl _ _).drew b4; obtain ⟨k0, k1, -, -⟩ := (HG.out.below d4 HG.out.lt).two; have k2 := nearv.cell_keep c5 d4
            go_wp2_with fail
            refine hK.out _ _ (by (try dsimp only); simp [*]) (fun hHeld => ?_)
            clear hK K
            try simp only [List.setIfInBounds_toArray, List.set_cons_zero, List.set_cons_succ]
            refine wpAnyH_take (i := 6) (oi := ⟨some 21, _, _, _, _, _⟩) (v := ?_) rfl (by kernel_rfl) (by kernel_rfl) (by kernel_rfl) (fun _ _ _ h => h) (Or.inl ⟨by rfl, ?_⟩) (by assumption) ?_
            rotate_left
            · (intro w hSw; (try dsimp only at hSw); go_simp; (try (with_reducible rfl)))
            try simp only [Act.put, List.setIfInBounds_toArray, List.set_cons_zero, List.set_cons_succ]
            refine wpAnyH_take (i := 7) (oi := ⟨some 22, _, _, _, _, _⟩) (v := ?_) rfl (by kernel_rfl) (by kernel_rfl) (by kernel_rfl) (fun _ _ _ h => h) (Or.inl ⟨by rfl, ?_⟩) (by assumption) ?_
            rotate_left
            · (intro w hSw; (try dsimp only at hSw); go_simp; (try (with_reducible rfl)))
            try simp only [Act.put, List.setIfInBounds_toArray, List.set_cons_zero, List.set_cons_succ]
            refine wpAnyH_take (i := 8) (oi := ⟨some 23, _, _, _, _, _⟩) (v := ?_) rfl (by kernel_rfl) (by kernel_rfl) (by kernel_rfl) (fun _ _ _ h => h) (Or.inl ⟨by rfl, ?_⟩) (by assumption) ?_
            rotate_left
            · (intro w hSw; (try dsimp only at hSw); go_simp; (try (with_reducible rfl)))
            try simp only [Act.put, List.setIfInBounds_toArray, List.set_cons_zero, List.set_cons_succ]
            refine wpAnyH_take (i := 9) (oi := ⟨some 24, _, _, _, _, _⟩) (v := ?_) rfl (by kernel_rfl) (by kernel_rfl) (by kernel_rfl) (fun _ _ _ h => h) (Or.inl ⟨by rfl, ?_⟩) (by assumption) ?_
            rotate_left
            · (intro w hSw; (try dsimp only at hSw); go_simp; (try (with_reducible rfl)))
            try simp only [Act.put, List.setIfInBounds_toArray, List.set_cons_zero, List.set_cons_succ]
            refine wpAnyH_take (i := 10) (oi := ⟨some 25, _, _, _, _, _⟩) (v := ?_) rfl (by kernel_rfl) (by kernel_rfl) (by kernel_rfl) (fun _ _ _ h => h) (Or.inl ⟨by rfl, ?_⟩) (by assumption) ?_
            rotate_left
            · (intro w hSw; (try dsimp only at hSw); go_simp; (try (with_reducible rfl)))
            try simp only [Act.put, List.setIfInBounds_toArray, List.set_cons_zero, List.set_cons_succ]
            refine wpAnyH_take (i := 11) (oi := ⟨some 26, _, _, _, _, _⟩) (v := ?_) rfl (by kernel_rfl) (by kernel_rfl) (by kernel_rfl) (fun _ _ _ h => h) (Or.inl ⟨by rfl, ?_⟩) (by assumption) ?_
            rotate_left
            · (intro w hSw; (try dsimp only at hSw); go_simp; (try (with_reducible rfl)))
            try simp only [Act.put, List.setIfInBounds_toArray, List.set_cons_zero, List.set_cons_succ]
            refine wpAnyH_take (i := 12) (oi := ⟨some 27, _, _, _, _, _⟩) (v := ?_) rfl (by kernel_rfl) (by kernel_rfl) (by kernel_rfl) (fun _ _ _ h => h) (Or.inl ⟨by rfl, ?_⟩) (by assumption) ?_
            rotate_left
            · (intro w hSw; (try dsimp only at hSw); go_simp; (try (with_reducible rfl)))
            try simp only [Act.put, List.setIfInBounds_toArray, List.set_cons_zero, List.set_cons_succ]
            refine wpAnyH_take (i := 13) (oi := ⟨some 28, _, _, _, _, _⟩) (v := ?_) rfl (by kernel_rfl) (by kernel_rfl) (by kernel_rfl) (fun _ _ _ h => h) (Or.inl ⟨by rfl, ?_⟩) (by assumption) ?_
            rotate_left
            · (intro w hSw; (try dsimp only at hSw); go_simp; (try (with_reducible rfl)))
            try simp only [Act.put, List.setIfInBounds_toArray, List.set_cons_zero, List.set_cons_succ]
            refine wpAnyH_take (i := 14) (oi := ⟨some 29, _, _, _, _, _⟩) (v := ?_) rfl (by kernel_rfl) (by kernel_rfl) (by kernel_rfl) (fun _ _ _ h => h) (Or.inl ⟨by rfl, ?_⟩) (by assumption) ?_
            rotate_left
            · (intro w hSw; (try dsimp only at hSw); go_simp; (try (with_reducible rfl)))
            try simp only [Act.put, List.setIfInBounds_toArray, List.set_cons_zero, List.set_cons_succ]
            refine wpAnyH_take (i := 15) (oi := ⟨some 30, _, _, _, _, _⟩) (v := ?_) rfl (by kernel_rfl) (by kernel_rfl) (by kernel_rfl) (fun _ _ _ h => h) (Or.inl ⟨by rfl, ?_⟩) (by assumption) ?_
            rotate_left
            · (intro w hSw; (try dsimp only at hSw); go_simp; (try (with_reducible rfl)))
            try simp only [Act.put, List.setIfInBounds_toArray, List.set_cons_zero, List.set_cons_succ]
            refine wpAnyH_take (i := 16) (oi := ⟨some 31, _, _, _, _, _⟩) (v := ?_) rfl (by kernel_rfl) (by kernel_rfl) (by kernel_rfl) (fun _ _ _ h => h) (Or.inl ⟨by rfl, ?_⟩) (by assumption) ?_
            rotate_left
            · (intro w hSw; (try dsimp only at hSw); go_simp; (try (with_reducible rfl)))
            try simp only [Act.put, List.setIfInBounds_toArray, List.set_cons_zero, List.set_cons_succ]
            refine wpAnyH_take (i := 17) (oi := ⟨some 32, _, _, _, _, _⟩) (v := ?_) rfl (by kernel_rfl) (by kernel_rfl) (by kernel_rfl) (fun _ _ _ h => h) (Or.inl ⟨by rfl, ?_⟩) (by assumption) ?_
            rotate_left
            · (intro w hSw; (try dsimp only at hSw); go_simp; (try (with_reducible rfl)))
            try simp only [Act.put, List.setIfInBounds_toArray, List.set_cons_zero, List.set_cons_succ]
            refine wpAnyH_take (i := 18) (oi := ⟨some 33, _, _, _, _, _⟩) (v := ?_) rfl (by kernel_rfl) (by kernel_rfl) (by kernel_rfl) (fun _ _ _ h => h) (Or.inl ⟨by rfl, ?_⟩) (by assumption) ?_
            rotate_left
            · (intro w hSw; (try dsimp only at hSw); go_simp; (try (with_reducible rfl)))
            try simp only [Act.put, List.setIfInBounds_toArray, List.set_cons_zero, List.set_cons_succ]
            refine wpAnyH_take (i := 19) (oi := ⟨some 34, _, _, _, _, _⟩) (v := ?_) rfl (by kernel_rfl) (by kernel_rfl) (by kernel_rfl) (fun _ _ _ h => h) (Or.inl ⟨by rfl, ?_⟩) (by assumption) ?_
            rotate_left
            · (intro w hSw; (try dsimp only at hSw); go_simp; (try (with_reducible rfl)))
            try simp only [Act.put, List.setIfInBounds_toArray, List.set_cons_zero, List.set_cons_succ]
            refine wpAnyH_take (i := 20) (oi := ⟨some 35, _, _, _, _, _⟩) (v := ?_) rfl (by kernel_rfl) (by kernel_rfl) (by kernel_rfl) (fun _ _ _ h => h) (Or.inl ⟨by rfl, ?_⟩) (by assumption) ?_
            rotate_left
            · (intro w hSw; (try dsimp only at hSw); go_simp; (try (with_reducible rfl)))
            try simp only [Act.put, List.setIfInBounds_toArray, List.set_cons_zero, List.set_cons_succ]
            refine wpAnyH_ready (rs := [21]) (by kernel_rfl) (by simp) ?_
            refine AllReadyH.cons (o := ⟨some 36, _, _, _, _, _⟩) rfl (fun K hK => ?_) AllReadyH.nil
            go_simp
            (with_reducible refine (HA1.out w4 d4).mono ?_); rintro e w5 ⟨rfl, b5⟩; have d5 : Below wr.heap.size wr w5 := btrans d4 b5; obtain ⟨i0_, i1_, -, -⟩ := (HG.out.below d5 HG.out.lt).two; have i2_ := nearv.cell_keep c5 d5
            go_wp2_with fail
            refine hK.out _ _ (by (try dsimp only); simp [*]) (fun hHeld => ?_)
            clear hK K
            try simp only [List.setIfInBounds_toArray, List.set_cons_zero, List.set_cons_succ]
            refine wpAnyH_take (i := 22) (oi := ⟨some 37, _, _, _, _, _⟩) (v := ?_) rfl (by kernel_rfl) (by kernel_rfl) (by kernel_rfl) (fun _ _ _ h => h) (Or.inl ⟨by rfl, ?_⟩) (by assumption) ?_
            rotate_left
            · (intro w hSw; (try dsimp only at hSw); go_simp; (try (with_reducible rfl)))
            try simp only [Act.put, List.setIfInBounds_toArray, List.set_cons_zero, List.set_cons_succ]
            refine wpAnyH_take (i := 23) (oi := ⟨some 38, _, _, _, _, _⟩) (v := ?_) rfl (by kernel_rfl) (by kernel_rfl) (by kernel_rfl) (fun _ _ _ h => h) (Or.inl ⟨by rfl, ?_⟩) (by assumption) ?_
            rotate_left
            · (intro w hSw; (try dsimp only at hSw); go_simp; (try (with_reducible rfl)))
            try simp only [Act.put, List.setIfInBounds_toArray, List.set_cons_zero, List.set_cons_succ]
            refine wpAnyH_done (by kernel_rfl) ?_ _
            have HB5 := Lib.hid (btrans HB.out d5)
            have HG5 := Lib.hid (HG.out.below d5 HG.out.lt)
            have HR5 := Lib.hid (own_below HR.out d5)
            have HU5 := Lib.hid (HU.out.below d5)
            have HD5 := Lib.hid d5
            have HC5 := Lib.hid c5
            clear d4 d5 b4 b5 k0 k1 k2 i0_ i1_ i2_ hHeld p0 p1 HS1 HA1 HG HR
            go_wp2_with fail
            obtain ⟨wo, hwo⟩ : ∃ wo, wo = wr := ⟨_, rfl⟩
            subst hwo
            go_loopg [5, 7] xs.length (fun g sv jv wr => ∃ (j : Nat) (sw : Value) (T : List Int), sw = sv ∧ j + g = xs.length ∧ jv = .int .i64 (j : Int) ∧ Hid (SeenK n (cvN q k) S xs j T) ∧ wr.ownsRow w.heap.size 3 1 sw T.length (cellsI T) ∧ Blk wr w.heap.size 29 #[.int .i64 (n : Int), .slice A l.length c] ∧ Below w.heap.size w wr)
            case atStart => exact ⟨0, _, S, rfl, by omega, rfl, ⟨by simp, fun x hx => by simp at hx⟩, HR5.out, HG5.out, HB5.out⟩
            case round =>
              clear HR5 HG5 HU5 HD5 HC5 HB5
              obtain ⟨j, sw, T, rfl, hjg, rfl, hsk, hrow, hgb, hB⟩ := hrel
              obtain ⟨A4, c4, rfl⟩ := own_form hrow
              have c5 := nearv.cell_keep HC5W.out hB
              have hu := HUW.out.below hB
              have HB := Lib.hid hB
              have HG := Lib.hid hgb
              have HR := Lib.hid hrow
              have hTl : T.length ≤ 16 := by
                rw [hsk.out.1, List.length_append, List.length_take]
                have := HSL.out; have := HXL.out; omega
              cases gk with
              | zero =>
                obtain rfl : j = xs.length := by omega
                have hz : codeL xs &&& cvN q k = 0 := HAZ.out.2 (fun x hx => hsk.out.2 x (by rw [List.take_length]; exact hx))
                have HN := Lib.hid (HADD.out hz)
                have hTS : T = S ++ xs := by rw [hsk.out.1, List.take_length]
                have HT2 := Lib.hid hTS
                clear hz hTS hrow hgb hB hu
                go_wp2_with fail
                go_roundg g2
                case measure => omega
                case rel => exact ⟨k + 1, _, T, rfl, by omega, by go_num, by rw [HT2.out]; exact HN, HR.out, HG.out, HB.out⟩
              | succ g3 =>
                have hjl : j < xs.length := by omega
                have hjl' : (j : Int) < (xs.length : Int) := by omega
                obtain ⟨x, hx⟩ : ∃ x, xs[j]? = some x := ⟨_, List.getElem?_eq_getElem hjl⟩
                obtain ⟨_, _, hfx, hcx⟩ := (show Ints wr (.slice Ax xs.length cx) xs from hu).form
                cases hfx
                obtain ⟨gx, ox, rfl, cx0⟩ := hcx j x hx
                have HH := Lib.hid (HHS.out T x _ wr (show Ints wr _ _ from Reads.of_own hrow) (by omega))
                rw [HSH.out j x T hsk.out hx] at HH
                cases hb : (cvN q k).testBit x.toNat with
                | true =>
                  have HF := Lib.hid (HCN.out fun h1 => by have := HAZ.out.1 h1 x (List.mem_of_getElem? hx); rw [hb] at this; cases this)
                  rw [hb] at HH
                  clear hb hx hcx hrow hgb hB hu
                  go_wp2_with fail
                  refine HH.out.mono ?_
                  rintro e w' ⟨rfl, rfl⟩
                  go_wp2_with fail
                  first | go_ret | (rw [Exit.noGoto_ret]; go_ret)
                  rw [HF.out]
                  exact ⟨rfl, HB.out⟩
                | false =>
                  have HN := Lib.hid (hsk.out.next hx hb)
                  rw [hb] at HH
                  clear hb hx hcx hrow hgb hB hu
                  go_wp2_with fail
                  refine HH.out.mono ?_
                  rintro e w' ⟨rfl, rfl⟩
                  have hsz := HB.out.size
                  go_wp2_with (at_builtin; refine wpList_append_own _ rfl _ _ 25 rfl (w.heap.size) 3 i0 (.int .i64 0) 1 8 Try.underlying25 hi hz0 hz1 hz2 rfl (by decide) _ _ _ rfl (HR.out.alloc _) ⟨wr.heap.size, 0, none⟩ 1 1 [.int .i64 (x)] rfl rfl (cell_one_new _ _ _) (fun x hx => by simp at hx; subst hx; rfl) (by unfold maxLen; omega) (by omega) (by simp; omega) ?_; intro v2 w2 hown2 hgrow2 _)
                  have hown3 : w2.ownsRow w.heap.size 3 1 v2 (T ++ [x]).length (cellsI (T ++ [x])) := by
                    rw [List.length_append, show cellsI (T ++ [x]) = cellsI T ++ [.int .i64 x] from by simp [cellsI]]
                    exact hown2
                  have HR2 := Lib.hid hown3
                  clear hown3
                  have HB2 := Lib.hid ((HB.out.alloc hsz (.cells #[.int .i64 x] 3)).grown hgrow2 (by simp; omega) (fun b e => (HR.out.lt b e).1))
                  have HG2 := Lib.hid (mids.grown_blk (w := wr) HR.out HG.out (by decide) hgrow2)
                  clear hown2 hgrow2
                  go_roundg g3
                  case measure => omega
                  case rel => exact ⟨j + 1, v2, T ++ [x], rfl, by omega, by go_num, HN, HR2.out, HG2.out, HB2.out⟩
      · rw [okG_no fun h1 => hso ((HRS.out xs).1 h1)] at HS1
        have HF := Lib.hid (HNO.out fun h1 => hso h1.1.1)
        clear hso hcl hu hu5 hxs hrow hB hck hgb hsl
        go_wp2_with fail
        refine wp_region_held_drew (S := (fun w' : World => w'.cell? ⟨w.heap.size, 0, none⟩ = some (.int .i64 (n : Int)) ∧ w'.cell? ⟨w.heap.size, 1, none⟩ = some (.slice A l.length c) ∧ w'.cell? ⟨g5, o5 + k, none⟩ = some (.slice Ax xs.length cx))) (by kernel_rfl) (by (try dsimp only); simp [*]) (fun hHeld => ?_)
        change wpAnyH _ _ _ _ _ _ #[false, false, false, false, false, false, false, false, false, false, false, false, false, false, false, false, false, false, false, false, false, false, false, false] _ _
        refine wpAnyH_take (i := 0) (oi := ⟨some 15, _, _, _, _, _⟩) (v := ?_) rfl (by kernel_rfl) (by kernel_rfl) (by kernel_rfl) (fun _ _ _ h => h) (Or.inl ⟨by rfl, ?_⟩) (by assumption) ?_
        rotate_left
        · (intro w hSw; (try dsimp only at hSw); go_simp; (try (with_reducible rfl)))
        try simp only [Act.put, List.setIfInBounds_toArray, List.set_cons_zero, List.set_cons_succ]
        refine wpAnyH_take (i := 1) (oi := ⟨some 16, _, _, _, _, _⟩) (v := ?_) rfl (by kernel_rfl) (by kernel_rfl) (by kernel_rfl) (fun _ _ _ h => h) (Or.inl ⟨by rfl, ?_⟩) (by assumption) ?_
        rotate_left
        · (intro w hSw; (try dsimp only at hSw); go_simp; (try (with_reducible rfl)))
        try simp only [Act.put, List.setIfInBounds_toArray, List.set_cons_zero, List.set_cons_succ]
        refine wpAnyH_take (i := 2) (oi := ⟨some 17, _, _, _, _, _⟩) (v := ?_) rfl (by kernel_rfl) (by kernel_rfl) (by kernel_rfl) (fun _ _ _ h => h) (Or.inl ⟨by rfl, ?_⟩) (by assumption) ?_
        rotate_left
        · (intro w hSw; (try dsimp only at hSw); go_simp; (try (with_reducible rfl)))
        try simp only [Act.put, List.setIfInBounds_toArray, List.set_cons_zero, List.set_cons_succ]
        refine wpAnyH_take (i := 3) (oi := ⟨some 18, _, _, _, _, _⟩) (v := ?_) rfl (by kernel_rfl) (by kernel_rfl) (by kernel_rfl) (fun _ _ _ h => h) (Or.inl ⟨by rfl, ?_⟩) (by assumption) ?_
        rotate_left
        · (intro w hSw; (try dsimp only at hSw); go_simp; (try (with_reducible rfl)))
        try simp only [Act.put, List.setIfInBounds_toArray, List.set_cons_zero, List.set_cons_succ]
        refine wpAnyH_take (i := 4) (oi := ⟨some 19, _, _, _, _, _⟩) (v := ?_) rfl (by kernel_rfl) (by kernel_rfl) (by kernel_rfl) (fun _ _ _ h => h) (Or.inl ⟨by rfl, ?_⟩) (by assumption) ?_
        rotate_left
        · (intro w hSw; (try dsimp only at hSw); go_simp; (try (with_reducible rfl)))
        try simp only [Act.put, List.setIfInBounds_toArray, List.set_cons_zero, List.set_cons_succ]
        refine wpAnyH_ready (rs := [5]) (by kernel_rfl) (by simp) ?_
        refine AllReadyH.cons (o := ⟨some 20, _, _, _, _, _⟩) rfl (fun K hK => ?_) AllReadyH.nil
        go_simp
        (with_reducible refine HS1.out.mono ?_); rintro e w4 ⟨rfl, b4⟩; have d4 : Below wr.heap.size wr w4 := btrans (Below.refl _ _).drew b4; obtain ⟨k0, k1, -, -⟩ := (HG.out.below d4 HG.out.lt).two; have k2 := nearv.cell_keep c5 d4
        go_wp2_with fail
        refine hK.out _ _ (by (try dsimp only); simp [*]) (fun hHeld => ?_)
        clear hK K
        try simp only [List.setIfInBounds_toArray, List.set_cons_zero, List.set_cons_succ]
        refine wpAnyH_take (i := 6) (oi := ⟨some 21, _, _, _, _, _⟩) (v := ?_) rfl (by kernel_rfl) (by kernel_rfl) (by kernel_rfl) (fun _ _ _ h => h) (Or.inl ⟨by rfl, ?_⟩) (by assumption) ?_
        rotate_left
        · (intro w hSw; (try dsimp only at hSw); go_simp; (try (with_reducible rfl)))
        try simp only [Act.put, List.setIfInBounds_toArray, List.set_cons_zero, List.set_cons_succ]
        refine wpAnyH_take (i := 7) (oi := ⟨some 22, _, _, _, _, _⟩) (v := ?_) rfl (by kernel_rfl) (by kernel_rfl) (by kernel_rfl) (fun _ _ _ h => h) (Or.inl ⟨by rfl, ?_⟩) (by assumption) ?_
        rotate_left
        · (intro w hSw; (try dsimp only at hSw); go_simp; (try (with_reducible rfl)))
        try simp only [Act.put, List.setIfInBounds_toArray, List.set_cons_zero, List.set_cons_succ]
        refine wpAnyH_take (i := 8) (oi := ⟨some 23, _, _, _, _, _⟩) (v := undef) rfl (by kernel_rfl) (by kernel_rfl) (by kernel_rfl) (fun _ _ _ h => h) (Or.inr ⟨by rfl, rfl⟩) (by assumption) ?_
        try simp only [Act.put, List.setIfInBounds_toArray, List.set_cons_zero, List.set_cons_succ]
        refine wpAnyH_take (i := 9) (oi := ⟨some 24, _, _, _, _, _⟩) (v := undef) rfl (by kernel_rfl) (by kernel_rfl) (by kernel_rfl) (fun _ _ _ h => h) (Or.inr ⟨by rfl, rfl⟩) (by assumption) ?_
        try simp only [Act.put, List.setIfInBounds_toArray, List.set_cons_zero, List.set_cons_succ]
        refine wpAnyH_take (i := 10) (oi := ⟨some 25, _, _, _, _, _⟩) (v := undef) rfl (by kernel_rfl) (by kernel_rfl) (by kernel_rfl) (fun _ _ _ h => h) (Or.inr ⟨by rfl, rfl⟩) (by assumption) ?_
        try simp only [Act.put, List.setIfInBounds_toArray, List.set_cons_zero, List.set_cons_succ]
        refine wpAnyH_take (i := 11) (oi := ⟨some 26, _, _, _, _, _⟩) (v := undef) rfl (by kernel_rfl) (by kernel_rfl) (by kernel_rfl) (fun _ _ _ h => h) (Or.inr ⟨by rfl, rfl⟩) (by assumption) ?_
        try simp only [Act.put, List.setIfInBounds_toArray, List.set_cons_zero, List.set_cons_succ]
        refine wpAnyH_take (i := 12) (oi := ⟨some 27, _, _, _, _, _⟩) (v := undef) rfl (by kernel_rfl) (by kernel_rfl) (by kernel_rfl) (fun _ _ _ h => h) (Or.inr ⟨by rfl, rfl⟩) (by assumption) ?_
        try simp only [Act.put, List.setIfInBounds_toArray, List.set_cons_zero, List.set_cons_succ]
        refine wpAnyH_take (i := 13) (oi := ⟨some 28, _, _, _, _, _⟩) (v := undef) rfl (by kernel_rfl) (by kernel_rfl) (by kernel_rfl) (fun _ _ _ h => h) (Or.inr ⟨by rfl, rfl⟩) (by assumption) ?_
        try simp only [Act.put, List.setIfInBounds_toArray, List.set_cons_zero, List.set_cons_succ]
        refine wpAnyH_take (i := 14) (oi := ⟨some 29, _, _, _, _, _⟩) (v := ?_) rfl (by kernel_rfl) (by kernel_rfl) (by kernel_rfl) (fun _ _ _ h => h) (Or.inl ⟨by rfl, ?_⟩) (by assumption) ?_
        rotate_left
        · (intro w hSw; (try dsimp only at hSw); go_simp; (try (with_reducible rfl)))
        try simp only [Act.put, List.setIfInBounds_toArray, List.set_cons_zero, List.set_cons_succ]
        refine wpAnyH_take (i := 15) (oi := ⟨some 30, _, _, _, _, _⟩) (v := ?_) rfl (by kernel_rfl) (by kernel_rfl) (by kernel_rfl) (fun _ _ _ h => h) (Or.inl ⟨by rfl, ?_⟩) (by assumption) ?_
        rotate_left
        · (intro w hSw; (try dsimp only at hSw); go_simp; (try (with_reducible rfl)))
        try simp only [Act.put, List.setIfInBounds_toArray, List.set_cons_zero, List.set_cons_succ]
        refine wpAnyH_take (i := 16) (oi := ⟨some 31, _, _, _, _, _⟩) (v := undef) rfl (by kernel_rfl) (by kernel_rfl) (by kernel_rfl) (fun _ _ _ h => h) (Or.inr ⟨by rfl, rfl⟩) (by assumption) ?_
        try simp only [Act.put, List.setIfInBounds_toArray, List.set_cons_zero, List.set_cons_succ]
        refine wpAnyH_take (i := 17) (oi := ⟨some 32, _, _, _, _, _⟩) (v := undef) rfl (by kernel_rfl) (by kernel_rfl) (by kernel_rfl) (fun _ _ _ h => h) (Or.inr ⟨by rfl, rfl⟩) (by assumption) ?_
        try simp only [Act.put, List.setIfInBounds_toArray, List.set_cons_zero, List.set_cons_succ]
        refine wpAnyH_take (i := 18) (oi := ⟨some 33, _, _, _, _, _⟩) (v := undef) rfl (by kernel_rfl) (by kernel_rfl) (by kernel_rfl) (fun _ _ _ h => h) (Or.inr ⟨by rfl, rfl⟩) (by assumption) ?_
        try simp only [Act.put, List.setIfInBounds_toArray, List.set_cons_zero, List.set_cons_succ]
        refine wpAnyH_take (i := 19) (oi := ⟨some 34, _, _, _, _, _⟩) (v := undef) rfl (by kernel_rfl) (by kernel_rfl) (by kernel_rfl) (fun _ _ _ h => h) (Or.inr ⟨by rfl, rfl⟩) (by assumption) ?_
        try simp only [Act.put, List.setIfInBounds_toArray, List.set_cons_zero, List.set_cons_succ]
        refine wpAnyH_take (i := 20) (oi := ⟨some 35, _, _, _, _, _⟩) (v := undef) rfl (by kernel_rfl) (by kernel_rfl) (by kernel_rfl) (fun _ _ _ h => h) (Or.inr ⟨by rfl, rfl⟩) (by assumption) ?_
        try simp only [Act.put, List.setIfInBounds_toArray, List.set_cons_zero, List.set_cons_succ]
        refine wpAnyH_take (i := 21) (oi := ⟨some 36, _, _, _, _, _⟩) (v := undef) rfl (by kernel_rfl) (by kernel_rfl) (by kernel_rfl) (fun _ _ _ h => h) (Or.inr ⟨by rfl, rfl⟩) (by assumption) ?_
        try simp only [Act.put, List.setIfInBounds_toArray, List.set_cons_zero, List.set_cons_succ]
        refine wpAnyH_take (i := 22) (oi := ⟨some 37, _, _, _, _, _⟩) (v := undef) rfl (by kernel_rfl) (by kernel_rfl) (by kernel_rfl) (fun _ _ _ h => h) (Or.inr ⟨by rfl, rfl⟩) (by assumption) ?_
        try simp only [Act.put, List.setIfInBounds_toArray, List.set_cons_zero, List.set_cons_succ]
        refine wpAnyH_take (i := 23) (oi := ⟨some 38, _, _, _, _, _⟩) (v := ?_) rfl (by kernel_rfl) (by kernel_rfl) (by kernel_rfl) (fun _ _ _ h => h) (Or.inl ⟨by rfl, ?_⟩) (by assumption) ?_
        rotate_left
        · (intro w hSw; (try dsimp only at hSw); go_simp; (try (with_reducible rfl)))
        try simp only [Act.put, List.setIfInBounds_toArray, List.set_cons_zero, List.set_cons_succ]
        refine wpAnyH_done (by kernel_rfl) ?_ _
        go_wp2_with fail
        go_ret
        rw [HF.out]
        exact ⟨rfl, btrans HB.out d4⟩
set_option maxHeartbeats 2000000 in
set_option maxRecDepth 100000 in
theorem specIcc_any (s : Int) (v : Value) (A2 : Option Addr) (c2 : Nat) (us : List Value) (q : List (List Int)) (l : List Ed) (w : World) (h : Edges w v l) (hl : l.length ≤ 1048576) (ht : ReadsG w (.slice A2 q.length c2) us q) (hql : q.length ≤ 1048576) (hqr : ∀ r ∈ q, r.length ≤ 1048576) (hs1 : -9223372036854775808 ≤ s) (hs2 : s ≤ 9223372036854775807) :
    Calls Try.prog 24 #[.agg #[.int .i64 s, v], .slice A2 q.length c2] w fun e w' => e = .returned (.tuple #[.bool (okG (CovP s l q)), .bool (okG (P2.Good s l))]) ∧ Below w.heap.size w w' := by
  obtain ⟨A, c, rfl, -⟩ := h.form
  have H := Lib.hid h
  have HT := Lib.hid ht
  have b0 : Below w.heap.size w (w.alloc (.cells #[.int .i64 s, .slice A l.length c] 29)) := (Below.refl _ _).alloc (Nat.le_refl _) _
  have HG0 := Lib.hid (Blk.new w 29 #[.int .i64 s, .slice A l.length c])
  obtain ⟨p0, p1, -, -⟩ := HG0.out.two
  have HGD := Lib.hid (l2Good_any s _ l _ (h.below b0) hl hs1 hs2)
  have HB0 := Lib.hid b0
  clear h b0 ht
  by_cases hgd : P2.Good s l
  · rw [goodB_yes hgd] at HGD
    have h0 := hgd.1
    have h8 := hgd.2.1
    obtain ⟨n, rfl⟩ : ∃ n : Nat, s = (n : Int) := ⟨s.toNat, by omega⟩
    have hn : n ≤ 8 := by omega
    have HC := Lib.hid (fun (W : World) (hW : Below w.heap.size w W) => l10Cover_any n (.slice A l.length c) A2 c2 us q l W (H.out.below hW) hl (HT.out.below hW) hql hqr hgd hn)
    have HV : Hid (okG (CovP (n : Int) l q) = okG (CvP n l q)) := by
      show _ = _
      rw [Bool.eq_iff_iff, okG_iff, okG_iff]; exact covP_is hgd
    have HV2 : Hid (okG (P2.Good (n : Int) l) = true) := okG_yes hgd
    clear hgd
    go_enter Try.func24, Try.ntmps24
    go_wp2_with fail
    refine HGD.out.mono ?_
    rintro e w1 ⟨rfl, b1⟩
    have HE1 := Lib.hid (btrans HB0.out b1)
    have HG1 := Lib.hid (HG0.out.below b1 HG0.out.lt)
    clear p0 p1 b1
    obtain ⟨p0, p1, -, -⟩ := HG1.out.two
    go_wp2_with fail
    refine (HC.out w1 HE1.out).mono ?_
    rintro e w2 ⟨rfl, b2⟩
    go_wp2_with fail
    go_ret2
    rw [HV.out, HV2.out]
    exact ⟨rfl, btrans HE1.out b2⟩
  · rw [goodB_no hgd] at HGD
    have HV : Hid (okG (CovP s l q) = false) := okG_no fun h => hgd h.1
    have HV2 : Hid (okG (P2.Good s l) = false) := okG_no hgd
    clear hgd
    go_enter Try.func24, Try.ntmps24
    go_wp2_with fail
    refine HGD.out.mono ?_
    rintro e w1 ⟨rfl, b1⟩
    have HE1 := Lib.hid (btrans HB0.out b1)
    clear p0 p1 b1
    go_wp2_with fail
    go_ret2
    rw [HV.out, HV2.out]
    exact ⟨rfl, HE1.out⟩
end Go.Proofs.Ythpodbhiopnnbaa.ups

/- The laws' helpers over arguments of type [][]int: szIntS, szIntSS, toIntSS. -/
namespace Go.Proofs.Ythpodbhiopnnbaa.gridl
open Go.RowKit P2 words ints grid gridr owns
set_option linter.unusedVariables false

def szS (left m : Int) : Int := if left - m < 0 then -1 else left - m
/-- what is left of a budget behind a slice of slices, -1 if it is used up -/
def szSS (left : Int) (rows : List (List Int)) : Int := if left - (rows.length : Int) < 0 then -1 else szS (left - (rows.length : Int)) (tot rows : Int)
set_option maxHeartbeats 400000 in
theorem szIntS_any (v : Value) (l : List Int) (left : Int) (w : World) (h : Ints w v l) (h0 : 0 ≤ left) (h1 : left ≤ 1048576) (hl : (l.length : Int) ≤ 9223372036854775807) :
    Calls Try.prog 56 #[v, .int .i64 left] w fun e w' => e = .returned (.int .i64 (szS left (l.length : Int))) ∧ w = w' := by
  obtain ⟨A, c, rfl, -⟩ := h.form
  clear h
  have hw : IntKind.i64.wrap (left - (l.length : Int)) = left - (l.length : Int) := IntWalk.i64_in _ (by omega)
  by_cases hn : left - (l.length : Int) < 0
  · have HV : Hid (szS left (l.length : Int) = -1) := by show _ = _; unfold szS; rw [if_pos hn]
    go_enter Try.func56, Try.ntmps56
    go_wp2_with fail
    go_ret
    exact ⟨ret_int HV.out.symm, rfl⟩
  · have HV : Hid (szS left (l.length : Int) = left - (l.length : Int)) := by show _ = _; unfold szS; rw [if_neg hn]
    go_enter Try.func56, Try.ntmps56
    go_wp2_with fail
    go_ret
    exact ⟨ret_int HV.out.symm, rfl⟩
set_option maxHeartbeats 1000000 in
theorem szIntSS_any (v : Value) (us : List Value) (rows : List (List Int)) (left : Int) (w : World) (h : ReadsG w v us rows) (h0 : 0 ≤ left) (h1 : left ≤ 1048576) (hl : (rows.length : Int) ≤ 9223372036854775807) (hr : ∀ r ∈ rows, (r.length : Int) ≤ 9223372036854775807) :
    Calls Try.prog 23 #[v, .int .i64 left] w fun e w' => e = .returned (.int .i64 (szSS left rows)) ∧ w = w' := by
  obtain ⟨A, c, rfl, -⟩ := h.1
  have H := Lib.hid h
  have HR := Lib.hid hr
  clear h hr
  have hw : IntKind.i64.wrap (left - (rows.length : Int)) = left - (rows.length : Int) := IntWalk.i64_in _ (by omega)
  by_cases hn : left - (rows.length : Int) < 0
  · have HV : Hid (szSS left rows = -1) := by show _ = _; unfold szSS; rw [if_pos hn]
    go_enter Try.func23, Try.ntmps23
    go_wp2_with fail
    go_ret
    exact ⟨ret_int HV.out.symm, rfl⟩
  · have HV : Hid (szSS left rows = szS (left - (rows.length : Int)) (tot rows : Int)) := by show _ = _; unfold szSS; rw [if_neg hn]
    go_enter Try.func23, Try.ntmps23
    go_wp2_with fail
    go_loopg [1, 5] rows.length (fun g lv iv wr => ∃ (k : Nat) (b : Int), k + g = rows.length ∧ iv = .int .i64 (k : Int) ∧ lv = .int .i64 b ∧ Hid (b = left - (rows.length : Int) - (tot (rows.take k) : Int) ∧ 0 ≤ b) ∧ w = wr)
    case atStart => exact ⟨0, _, by omega, rfl, rfl, (by show _ ∧ _; simp [tot]; omega), rfl⟩
    case round =>
      obtain ⟨k, b, hkg, rfl, rfl, hb, rfl⟩ := hrel
      cases gk with
      | zero =>
        obtain rfl : k = rows.length := by omega
        have HB : Hid (szSS left rows = b) := by
          show _ = _
          have := hb.out
          rw [HV.out]
          unfold szS
          rw [List.take_length] at this
          rw [if_neg (by omega)]; omega
        go_wp2_with fail
        go_ret
        exact ⟨ret_int HB.out.symm, rfl⟩
      | succ g2 =>
        have hlt : k < rows.length := by omega
        have hlt' : (k : Int) < (rows.length : Int) := by omega
        obtain ⟨r, hrk⟩ : ∃ r, rows[k]? = some r := ⟨_, List.getElem?_eq_getElem hlt⟩
        obtain ⟨u, g, o, hu, rfl, c0, hru⟩ := H.out.row hrk
        have hrl := HR.out r (List.mem_of_getElem? hrk)
        have ht := tot_succ hrk
        have hle := tot_le rows (k + 1)
        have hb0 := hb.out
        have HSZ := Lib.hid (szIntS_any u r b w hru (by omega) (by omega) hrl)
        by_cases hneg : b - (r.length : Int) < 0
        · have HS1 : Hid (szS b (r.length : Int) = -1) := by show _ = _; unfold szS; rw [if_pos hneg]
          have HB : Hid (szSS left rows = -1) := by
            show _ = _
            rw [HV.out]
            unfold szS
            rw [if_pos (by omega)]
          rw [HS1.out] at HSZ
          clear hu hru hrk ht hle hb0
          go_wp2_with fail
          refine HSZ.out.mono ?_
          rintro e w' ⟨rfl, rfl⟩
          go_wp2_with fail
          go_ret
          exact ⟨ret_int HB.out.symm, rfl⟩
        · have HS1 : Hid (szS b (r.length : Int) = b - (r.length : Int)) := by show _ = _; unfold szS; rw [if_neg hneg]
          have HB : Hid (b - (r.length : Int) = left - (rows.length : Int) - (tot (rows.take (k + 1)) : Int) ∧ 0 ≤ b - (r.length : Int)) := by
            show _ ∧ _
            omega
          rw [HS1.out] at HSZ
          clear hu hru hrk ht hle hb0
          generalize b - (r.length : Int) = b2 at *
          go_wp2_with fail
          refine HSZ.out.mono ?_
          rintro e w' ⟨rfl, rfl⟩
          have hb2 : ¬ b2 < 0 := by have := HB.out; omega
          go_wp2_with fail
          go_roundg g2
          case measure => omega
          case rel => exact ⟨k + 1, b2, by omega, by go_num, rfl, HB, rfl⟩
/-- the budget is enough -/
theorem szIntSS_yes (v : Value) (us : List Value) (rows : List (List Int)) (left : Int) (w : World) (h : ReadsG w v us rows) (h0 : 0 ≤ left) (h1 : left ≤ 1048576) (hl : (rows.length : Int) + (tot rows : Int) ≤ left) :
    Calls Try.prog 23 #[v, .int .i64 left] w fun e w' => e = .returned (.int .i64 (left - (rows.length : Int) - (tot rows : Int))) ∧ Below w.heap.size w w' :=
  (szIntSS_any v us rows left w h h0 h1 (by omega) (fun r hr => by
    obtain ⟨k, hk⟩ := List.getElem?_of_mem hr
    have := tot_succ hk
    have := tot_le rows (k + 1)
    omega)).mono fun _ _ ⟨e, hw⟩ => ⟨by rw [e]; unfold szSS szS; rw [if_neg (by omega), if_neg (by omega)], hw ▸ Below.refl _ _⟩
/-- it is not -/
theorem szIntSS_no (v : Value) (us : List Value) (rows : List (List Int)) (left : Int) (w : World) (h : ReadsG w v us rows) (h0 : 0 ≤ left) (h1 : left ≤ 1048576) (hl : (rows.length : Int) ≤ 9223372036854775807) (hr : ∀ r ∈ rows, (r.length : Int) ≤ 9223372036854775807) (hn : left < (rows.length : Int) + (tot rows : Int)) :
    Calls Try.prog 23 #[v, .int .i64 left] w fun e w' => e = .returned (.int .i64 (-1)) ∧ Below w.heap.size w w' :=
  (szIntSS_any v us rows left w h h0 h1 hl hr).mono fun _ _ ⟨e, hw⟩ => ⟨by
    rw [e]; unfold szSS szS
    by_cases h2 : left - (rows.length : Int) < 0
    · rw [if_pos h2]
    · rw [if_neg h2, if_pos (by omega)], hw ▸ Below.refl _ _⟩
/-- a copy in the making -/
def cpR (rows : List (List Int)) (k : Nat) : List (List Int) := rows.take k ++ List.replicate (rows.length - k) []
theorem cpR_len (rows : List (List Int)) {k : Nat} (h : k ≤ rows.length) : (cpR rows k).length = rows.length := by simp [cpR]; omega
theorem cpR_zero (rows : List (List Int)) : cpR rows 0 = List.replicate rows.length [] := by simp [cpR]
theorem cpR_all (rows : List (List Int)) : cpR rows rows.length = rows := by simp [cpR]
theorem cpR_succ {rows : List (List Int)} {k : Nat} {r : List Int} (h : rows[k]? = some r) : (cpR rows k).set k r = cpR rows (k + 1) := by
  have hk := (List.getElem?_eq_some_iff.1 h).1
  unfold cpR
  rw [show rows.length - k = (rows.length - (k + 1)) + 1 from by omega, List.replicate_succ, List.set_append_right _ _ (by rw [List.length_take]; omega), List.take_add_one, h]
  have e : k - (List.take k rows).length = 0 := by simp; omega
  rw [e, List.set_cons_zero, List.append_assoc]
  rfl
set_option maxHeartbeats 2000000 in
set_option maxRecDepth 100000 in
theorem toIntSS_any (v : Value) (us : List Value) (rows : List (List Int)) (w : World) (h : ReadsG w v us rows) (hl : tot rows ≤ 1048576) (hn : rows.length ≤ 1048576) :
    Calls Try.prog 25 #[v] w fun e w' => ∃ A c us', e = .returned (.slice A rows.length c) ∧ OwnG w' w.heap.size (.slice A rows.length c) us' rows ∧ Below w.heap.size w w' := by
  obtain ⟨A, c, rfl, -⟩ := h.1
  obtain ⟨i1, hi1, hy0, hy1, hy2⟩ := info_parts infoRow
  have hmk := fun (W : World) => run_make_rowN (P := Try.prog) 40 25 i1 (.slice none 0 0) Try.underlying40 hi1 hy0 .i64 .i64 rows.length rows.length (Nat.le_refl _) (by rw [hy2]; omega) (by omega) W
  rw [hy1] at hmk
  simp only [Nat.mul_one] at hmk
  have H := Lib.hid h
  have HM := Lib.hid (OwnG.made w rows.length (by unfold maxLen; omega))
  rw [Nat.mul_one, ← cpR_zero] at HM
  have HE := Lib.hid ((Below.refl w.heap.size w).alloc (Nat.le_refl _) (.cells (madeCells #[.slice none 0 0] rows.length) 25))
  clear h
  go_enter Try.func25, Try.ntmps25
  go_wp2_with fail
  clear hmk
  go_loopg [4] rows.length (fun g iv wr => ∃ (k : Nat) (vs : List Value), k + g = rows.length ∧ iv = .int .i64 (k : Int) ∧ OwnG wr w.heap.size (.slice (some ⟨w.heap.size, 0, none⟩) rows.length rows.length) vs (cpR rows k) ∧ Below w.heap.size w wr)
  case atStart => exact ⟨0, _, by omega, rfl, HM.out, HE.out⟩
  case round =>
    clear HM HE
    obtain ⟨k, vs, hkg, rfl, hG, hB⟩ := hrel
    cases gk with
    | zero =>
      obtain rfl : k = rows.length := by omega
      rw [cpR_all] at hG
      have HG := Lib.hid hG
      have HB := Lib.hid hB
      clear hG hB
      go_wp2_with fail
      go_ret
      exact ⟨_, _, _, rfl, HG.out, HB.out⟩
    | succ g2 =>
      have hlt : k < rows.length := by omega
      have hlt' : (k : Int) < (rows.length : Int) := by omega
      obtain ⟨r, hr⟩ : ∃ r, rows[k]? = some r := ⟨_, List.getElem?_eq_getElem hlt⟩
      obtain ⟨u, g, o, hu, rfl, c0, hru⟩ := (H.out.below hB).row hr
      obtain ⟨Ar, cr, rfl, -⟩ := hru.form
      have hrl : r.length ≤ 1048576 := by have := tot_succ hr; have := tot_le rows (k + 1); omega
      have HT := Lib.hid (fun (W : World) (hW : Below wr.heap.size wr W) => toIntS_any (.slice Ar r.length cr) r W (hru.below hW) hrl)
      have HT0 := Lib.hid (HT.out wr (Below.refl _ _))
      have HRS := Lib.hid (cpR_succ hr)
      have HRL := Lib.hid (cpR_len rows (k := k) (by omega))
      have HG := Lib.hid hG
      have HB := Lib.hid hB
      have HC := Lib.hid c0
      clear hu hru hr hrl hG hB
      go_wp2_with fail
      refine HT0.out.mono ?_
      rintro e w4 ⟨A5, c5, rfl, o5, b5⟩
      have hG4 := HG.out.below b5
      have h1 := hG4.1
      rw [HRL.out] at h1
      have hul := hG4.len
      rw [HRL.out] at hul
      obtain ⟨u0, hu0⟩ : ∃ u, vs[k]? = some u := ⟨_, List.getElem?_eq_getElem (by omega)⟩
      have f0 := h1.cellAt k (by omega)
      rw [hu0] at f0
      have z0 := h1.frozenAt k
      have hgr := h1.lt w.heap.size rfl
      have HS : Hid (OwnG (w4.setCell ⟨w.heap.size, k, none⟩ (.slice A5 r.length c5)) w.heap.size (.slice (some ⟨w.heap.size, 0, none⟩) rows.length rows.length) (vs.set k (.slice A5 r.length c5)) (cpR rows (k + 1))) := by
        have h9 : OwnG w4 w.heap.size (.slice (some ⟨w.heap.size, 0, none⟩) (cpR rows k).length rows.length) vs (cpR rows k) := by rw [HRL.out]; exact hG4
        have hfr := OwnG.fresh HG.out (own_base o5 (Nat.le_refl _))
        have := OwnG.store h9 (by rw [HRL.out]; exact hlt) (own_base o5 (by have := HB.out.size; omega)) (fun i x b _ hx hb => hfr i x b hx hb)
        rw [HRS.out, HRL.out] at this
        exact this
      have HB5 := Lib.hid ((btrans HB.out b5).setCell (p := ⟨w.heap.size, k, none⟩) hgr.1 (.slice A5 r.length c5))
      clear hG4 h1 hul b5 o5 hu0 c0
      go_wp2_with fail
      go_roundg g2
      case measure => omega
      case rel => exact ⟨k + 1, _, by omega, by go_num, HS.out, HB5.out⟩
end Go.Proofs.Ythpodbhiopnnbaa.gridl

/- An argument of type [][]int, opened: rows of integers as they came in. -/
namespace Go.Proofs.Ythpodbhiopnnbaa.opens
open Go.RowKit Go.Joins Go.ChangeShapes Go.WideShapes Go.Deep P2 words gridr

/-- what is told of a slice of slices of integers that came in -/
def IsRows (w : World) (v : Value) (us : List Value) (rows : List (List Int)) : Prop :=
  ReadsG w v us rows ∧ rows.length ≤ maxLen ∧ ∀ r ∈ rows, r.length ≤ maxLen ∧ ∀ x ∈ r, -9223372036854775808 ≤ x ∧ x ≤ 9223372036854775807

section
variable {H : Type} {enc : TypeId × Value → H} {w : World} {spare : Nat → Bool} {held : Bool}
theorem open_intsv {fuel : Nat} {v : Value} {x : DataW H × List MemPlace} (h : DataW.trod enc Try.prog w 0 spare held fuel 25 [v] = some x) : ∃ l, IsIn w v l := by
  rcases open_slice Try.underlying25 h with ⟨hv, _⟩ | ⟨a, len', cap', m, n, D, Pl, hv, _, hl, hm, hmm, _, hi⟩
  · obtain rfl : v = .slice none 0 0 := by simpa using hv
    exact ⟨[], Reads.nil _ _, Nat.zero_le _, fun x hx => by cases hx⟩
  · obtain rfl : v = .slice (some a) len' cap' := by simpa using hv
    have hlm : len' ≤ m := by rw [hmm]; split <;> omega
    have hC1 : Try.prog.cellsOf 3 = 1 := by kernel_rfl
    rw [hC1] at hi
    have key : ∀ i, i < len' → ∃ x : Int, w.cell? (a.add i) = some (.int .i64 x) ∧ (Lit.int .i64 x).wf = true := fun i hil => by
      obtain ⟨cs', hc, ht⟩ := hi i (by omega)
      obtain ⟨_, hcl, hat⟩ := World.cells?_some hc
      match cs', hcl with
      | [c0], _ =>
        obtain ⟨n0, h0, _, hw⟩ := DataW.trod_int Try.underlying3 ht
        obtain rfl : c0 = .int .i64 n0 := by simpa using h0
        have a0 := hat 0 (by decide)
        rw [add_of_add, Nat.mul_one] at a0
        exact ⟨n0, by simpa using a0, hw⟩
    obtain ⟨f, hf⟩ := choose_lt (α := Int) key
    refine ⟨(List.range len').map f, ⟨some a, cap', by simp, fun hn => ?_⟩, by simp; omega, fun x hx => ?_⟩
    · simp only [List.length_map, List.length_range] at hn ⊢
      obtain ⟨b, off, spot⟩ := a
      have hc0 := (hf 0 hn).1
      have hspot : spot = none := by simpa [Addr.add] using World.cell?_spot hc0
      subst hspot
      refine ⟨b, off, rfl, hl, fun j u hu => ?_⟩
      have hjl : j < len' := by
        have := (List.getElem?_eq_some_iff.1 hu).1
        rw [cellsI_len] at this; simpa using this
      have hcl := (hf j hjl).1
      rw [addr_add] at hcl
      have hkf : ((List.range len').map f)[j]? = some (f j) := by simp [hjl]
      rw [cellsI_at hkf] at hu
      rw [hcl, ← hu]
    · simp only [List.mem_map, List.mem_range] at hx
      obtain ⟨j, hj, rfl⟩ := hx
      exact bounds64 (hf j hj).2

set_option maxRecDepth 100000 in
theorem open_rowsl {r : Reach} {b0 : Nat} {v : Value} {d : DataW H} {p : List MemPlace} (hv : Value.okWide Try.prog w r b0 40 v)
    (h : DataW.Trod enc Try.prog w 0 spare held 40 v d p) : ∃ u us rows, v = u ∧ IsRows w u us rows := by
  obtain ⟨A, len, cap, rfl⟩ := okWide_slice Try.underlying40 hv
  obtain ⟨fuel, hf⟩ := h
  simp only [Value.cells] at hf
  rcases open_slice Try.underlying40 hf with ⟨hv, _⟩ | ⟨a, len', cap', m, n, D, Pl, hv, _, hl, hm, hmm, _, hi⟩
  · have e : Value.slice A len cap = .slice none 0 0 := by simpa using hv
    rw [e]
    exact ⟨_, [], [], rfl, ⟨Reads.nil _ _, rfl, fun i u r hu hr => by simp at hu⟩, Nat.zero_le _, fun x hx => by cases hx⟩
  · have e : Value.slice A len cap = .slice (some a) len' cap' := by simpa using hv
    rw [e]
    have hlm : len' ≤ m := by rw [hmm]; split <;> omega
    have hC1 : Try.prog.cellsOf 25 = 1 := by kernel_rfl
    rw [hC1] at hi
    have key : ∀ i, i < len' → ∃ y : Value × List Int, w.cell? (a.add i) = some y.1 ∧ IsIn w y.1 y.2 := fun i hil => by
      obtain ⟨cs', hc, ht⟩ := hi i (by omega)
      obtain ⟨_, hcl, hat⟩ := World.cells?_some hc
      match cs', hcl with
      | [c0], _ =>
        obtain ⟨l, hl2⟩ := open_intsv ht
        have a0 := hat 0 (by decide)
        rw [add_of_add, Nat.mul_one] at a0
        exact ⟨(c0, l), by simpa using a0, hl2⟩
    obtain ⟨f, hf⟩ := choose_lt (α := Value × List Int) key
    refine ⟨_, (List.range len').map (fun i => (f i).1), (List.range len').map (fun i => (f i).2), rfl, ⟨⟨some a, cap', by simp, fun hn => ?_⟩, by simp, fun i u r hu hr => ?_⟩, by simp; omega, fun x hx => ?_⟩
    · simp only [List.length_map, List.length_range] at hn ⊢
      obtain ⟨b, off, spot⟩ := a
      have hc0 := (hf 0 hn).1
      have hspot : spot = none := by simpa [Addr.add] using World.cell?_spot hc0
      subst hspot
      refine ⟨b, off, rfl, hl, fun j u hu => ?_⟩
      have hjl : j < len' := by
        have := (List.getElem?_eq_some_iff.1 hu).1
        simpa using this
      have hcl := (hf j hjl).1
      rw [addr_add] at hcl
      have hkf : ((List.range len').map (fun i => (f i).1))[j]? = some (f j).1 := by simp [hjl]
      rw [hkf] at hu
      rw [hcl, ← hu]
    · have hil : i < len' := by
        have := (List.getElem?_eq_some_iff.1 hu).1
        simpa using this
      have h1 : ((List.range len').map (fun i => (f i).1))[i]? = some (f i).1 := by simp [hil]
      have h2 : ((List.range len').map (fun i => (f i).2))[i]? = some (f i).2 := by simp [hil]
      rw [h1] at hu
      rw [h2] at hr
      cases hu
      cases hr
      exact (hf i hil).2.1
    · simp only [List.mem_map, List.mem_range] at hx
      obtain ⟨j, hj, rfl⟩ := hx
      exact (hf j hj).2.2
end
end Go.Proofs.Ythpodbhiopnnbaa.opens
