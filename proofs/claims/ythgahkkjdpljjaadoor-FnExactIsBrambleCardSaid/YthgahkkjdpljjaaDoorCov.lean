/- Sets of nodes as binary digits; closed neighborhoods, covers and corners: plain mathematics. -/
import Derived.Test.YthgahkkjdpljjaaDoorSets
import Derived.Laws.Bits64b
namespace Go.Proofs.YthgahkkjdpljjaaDoor.covs
open Go.RowKit P2 fns sets

theorem nw_congr {p q : Nat → Bool} {n : Nat} (h : ∀ k, k < n → p k = q k) : nw p n = nw q n := by
  unfold nw
  rw [List.filter_congr (fun k hk => h k (List.mem_range.1 hk))]
theorem nw_more {p : Nat → Bool} {n m : Nat} (hnm : n ≤ m) (h : ∀ k, n ≤ k → k < m → p k = false) : nw p m = nw p n := by
  induction m with
  | zero => obtain rfl : n = 0 := by omega
            rfl
  | succ m ih =>
    by_cases e : n = m + 1
    · rw [e]
    · rw [nw_no (h m (by omega) (by omega))]
      exact ih (by omega) (fun k a b => h k a (by omega))
theorem nw_asc (p : Nat → Bool) (n : Nat) : Asc (nw p n) := by
  unfold nw Asc
  rw [List.pairwise_map]
  refine List.Pairwise.imp ?_ (List.Pairwise.filter _ List.pairwise_lt_range)
  intro a b h
  omega
theorem asc_ext : ∀ {l1 l2 : List Int}, Asc l1 → Asc l2 → (∀ e, e ∈ l1 ↔ e ∈ l2) → l1 = l2
  | [], [], _, _, _ => rfl
  | [], b :: l2, _, _, h => absurd ((h b).2 (by simp)) (by simp)
  | a :: l1, [], _, _, h => absurd ((h a).1 (by simp)) (by simp)
  | a :: l1, b :: l2, h1, h2, h => by
    obtain ⟨p1, q1⟩ := List.pairwise_cons.1 h1
    obtain ⟨p2, q2⟩ := List.pairwise_cons.1 h2
    have hab : a = b := by
      rcases List.mem_cons.1 ((h a).1 (by simp)) with e | m1
      · exact e
      · rcases List.mem_cons.1 ((h b).2 (by simp)) with e | m2
        · exact e.symm
        · have := p1 b m2; have := p2 a m1; omega
    subst hab
    have ht : l1 = l2 := asc_ext q1 q2 fun e => by
      constructor
      · intro m
        rcases List.mem_cons.1 ((h e).1 (by simp [m])) with e1 | m'
        · subst e1; have := p1 e m; omega
        · exact m'
      · intro m
        rcases List.mem_cons.1 ((h e).2 (by simp [m])) with e1 | m'
        · subst e1; have := p2 e m; omega
        · exact m'
    rw [ht]
theorem asc_nw {xs : List Int} {p : Nat → Bool} {n : Nat} (h : Asc xs) (hx : ∀ x ∈ xs, 0 ≤ x ∧ x < (n : Int)) (hp : ∀ k, k < n → (p k = true ↔ (k : Int) ∈ xs)) : xs = nw p n :=
  asc_ext h (nw_asc p n) fun e => by
    rw [mem_nw]
    constructor
    · intro he
      have := hx e he
      refine ⟨e.toNat, by omega, (hp _ (by omega)).2 (by rw [show ((e.toNat : Nat) : Int) = e from by omega]; exact he), by omega⟩
    · rintro ⟨j, hj, hpj, rfl⟩
      exact (hp j hj).1 hpj

/-- the number whose digits are 1 where p holds -/
def numOf (p : Nat → Bool) : Nat → Nat
  | 0 => 0
  | n + 1 => if p n = true then numOf p n ||| 2 ^ n else numOf p n
theorem numOf_yes {p : Nat → Bool} {n : Nat} (h : p n = true) : numOf p (n + 1) = numOf p n ||| 2 ^ n := by rw [numOf, if_pos h]
theorem numOf_no {p : Nat → Bool} {n : Nat} (h : p n = false) : numOf p (n + 1) = numOf p n := by rw [numOf, if_neg (by simp [h])]
theorem numOf_bit (p : Nat → Bool) (n k : Nat) : (numOf p n).testBit k = (decide (k < n) && p k) := by
  induction n with
  | zero => simp [numOf]
  | succ n ih =>
    have hd : k ≠ n → decide (k < n) = decide (k < n + 1) := fun h => by rw [decide_eq_decide]; omega
    cases hp : p n with
    | true =>
      rw [numOf_yes hp, Nat.testBit_or, ih, Nat.testBit_two_pow]
      by_cases e : n = k
      · subst e; simp [hp]
      · rw [hd (fun h => e h.symm)]; simp [e]
    | false =>
      rw [numOf_no hp, ih]
      by_cases e : k = n
      · subst e; simp [hp]
      · rw [hd e]
theorem numOf_lt (p : Nat → Bool) {n : Nat} (hn : n ≤ 8) : numOf p n < 256 :=
  Nat.lt_pow_two_of_testBit (n := 8) _ fun i hi => by rw [numOf_bit]; simp; omega
theorem numOf_zero {p : Nat → Bool} {n : Nat} : numOf p n = 0 ↔ ∀ k, k < n → p k = false := by
  constructor
  · intro h k hk
    have := numOf_bit p n k
    rw [h] at this
    simpa [hk] using this.symm
  · intro h
    apply Nat.eq_of_testBit_eq
    intro i
    rw [numOf_bit]
    by_cases hi : i < n
    · simp [h i hi]
    · simp [hi]
theorem nodes_num {p : Nat → Bool} {n : Nat} (hn : n ≤ 8) : nw (bitB (numOf p n)) 8 = nw p n := by
  rw [nw_more hn (fun k h1 _ => by unfold bitB; rw [numOf_bit]; simp; omega)]
  exact nw_congr fun k hk => by unfold bitB; rw [numOf_bit]; simp [hk]

/-- the set of all nodes in a list -/
def codeL (xs : List Int) : Nat := xs.foldl (fun a x => a ||| 2 ^ x.toNat) 0
theorem code_fold (k : Nat) : ∀ (xs : List Int) (a : Nat), (∀ x ∈ xs, 0 ≤ x) → (xs.foldl (fun a x => a ||| 2 ^ x.toNat) a).testBit k = (a.testBit k || decide ((k : Int) ∈ xs))
  | [], a, _ => by simp
  | x :: xs, a, h => by
    have hx := h x (by simp)
    rw [List.foldl_cons, code_fold k xs _ (fun y hy => h y (by simp [hy])), Nat.testBit_or, Nat.testBit_two_pow, Bool.or_assoc]
    congr 1
    rw [Bool.eq_iff_iff]
    simp only [Bool.or_eq_true, decide_eq_true_eq, List.mem_cons]
    constructor
    · rintro (h1 | h1)
      · exact .inl (by omega)
      · exact .inr h1
    · rintro (h1 | h1)
      · exact .inl (by omega)
      · exact .inr h1
theorem code_bit {xs : List Int} (h : ∀ x ∈ xs, 0 ≤ x) (k : Nat) : (codeL xs).testBit k = decide ((k : Int) ∈ xs) := by
  unfold codeL; rw [code_fold k xs 0 h]; simp
theorem code_succ {xs : List Int} {k : Nat} {x : Int} (h : xs[k]? = some x) : codeL (xs.take (k + 1)) = codeL (xs.take k) ||| 2 ^ x.toNat := by
  unfold codeL
  rw [List.take_add_one, h, List.foldl_append]
  rfl
theorem code_lt {xs : List Int} {m : Nat} (h : ∀ x ∈ xs, 0 ≤ x ∧ x < (m : Int)) : codeL xs < 2 ^ m :=
  Nat.lt_pow_two_of_testBit (n := m) _ fun i hi => by
    rw [code_bit (fun x hx => (h x hx).1)]
    simp only [decide_eq_false_iff_not]
    intro hm
    have := (h _ hm).2
    omega
theorem code_all (n : Nat) : codeL (allN n) = 2 ^ n - 1 := by
  apply Nat.eq_of_testBit_eq
  intro i
  rw [code_bit (fun x hx => (mem_allN.1 hx).1), Nat.testBit_two_pow_sub_one, decide_eq_decide, mem_allN]
  omega
theorem set_code {xs : List Int} {n : Nat} (h : Asc xs) (hx : ∀ x ∈ xs, 0 ≤ x ∧ x < (n : Int)) : xs = nw (bitB (codeL xs)) n :=
  asc_nw h hx fun k _ => by unfold bitB; rw [code_bit (fun x hm => (hx x hm).1)]; simp

/-- the closed neighborhood of a node by a list of edges -/
def joinB (a : Nat) (e : Ed) (x : Nat) : Nat := if e.1 = (x : Int) then a ||| 2 ^ e.2.toNat else if e.2 = (x : Int) then a ||| 2 ^ e.1.toNat else a
def cloB (l : List Ed) (x : Nat) : Nat := l.foldl (fun a e => joinB a e x) (2 ^ x)
theorem cloB_succ {l : List Ed} {k : Nat} {e : Ed} (h : l[k]? = some e) (x : Nat) : cloB (l.take (k + 1)) x = joinB (cloB (l.take k) x) e x := by
  unfold cloB
  rw [List.take_add_one, h, List.foldl_append]
  rfl
theorem joinB_bit {a : Nat} {e : Ed} {x z : Nat} (h0 : 0 ≤ e.1) (h1 : e.1 < e.2) :
    (joinB a e x).testBit z = (a.testBit z || decide (((x : Int), (z : Int)) = e ∨ ((z : Int), (x : Int)) = e)) := by
  obtain ⟨u, v⟩ := e
  simp only at h0 h1
  unfold joinB
  simp only [Prod.mk.injEq]
  split
  · rename_i hu
    rw [Nat.testBit_or, Nat.testBit_two_pow]
    congr 1
    rw [decide_eq_decide]
    omega
  · split
    · rename_i hu hv
      rw [Nat.testBit_or, Nat.testBit_two_pow]
      congr 1
      rw [decide_eq_decide]
      omega
    · rename_i hu hv
      rw [decide_eq_false (by omega), Bool.or_false]
theorem fold_bit (x z : Nat) : ∀ (l : List Ed) (a : Nat), (∀ e ∈ l, 0 ≤ e.1 ∧ e.1 < e.2) → (l.foldl (fun a e => joinB a e x) a).testBit z = (a.testBit z || adj l x z)
  | [], a, _ => by simp [adj]
  | e :: l, a, h => by
    have he := h e (by simp)
    rw [List.foldl_cons, fold_bit x z l _ (fun y hy => h y (by simp [hy])), joinB_bit he.1 he.2, Bool.or_assoc]
    congr 1
    unfold adj
    rw [Bool.eq_iff_iff]
    simp only [Bool.or_eq_true, decide_eq_true_eq, List.mem_cons]
    constructor
    · rintro ((h1 | h1) | (h1 | h1))
      · exact .inl (.inl h1)
      · exact .inr (.inl h1)
      · exact .inl (.inr h1)
      · exact .inr (.inr h1)
    · rintro ((h1 | h1) | (h1 | h1))
      · exact .inl (.inl h1)
      · exact .inr (.inl h1)
      · exact .inl (.inr h1)
      · exact .inr (.inr h1)
theorem cloB_bit {s : Int} {l : List Ed} (hg : P2.Good s l) (x z : Nat) : (cloB l x).testBit z = (x == z || adj l x z) := by
  unfold cloB
  rw [fold_bit x z l _ (fun e he => ⟨(hg.mem he).1, (hg.mem he).2.1⟩), Nat.testBit_two_pow]
  congr 1
theorem cloB_take_bit {s : Int} {l : List Ed} (hg : P2.Good s l) (k x z : Nat) : (cloB (l.take k) x).testBit z = (x == z || adj (l.take k) x z) := by
  unfold cloB
  rw [fold_bit x z _ _ (fun e he => ⟨(hg.mem (List.mem_of_mem_take he)).1, (hg.mem (List.mem_of_mem_take he)).2.1⟩), Nat.testBit_two_pow]
  congr 1
theorem cloB_lt {s : Int} {l : List Ed} (hg : P2.Good s l) (k x : Nat) (hx : x < 8) : cloB (l.take k) x < 256 :=
  Nat.lt_pow_two_of_testBit (n := 8) _ fun i hi => by
    rw [cloB_take_bit hg]
    simp only [Bool.or_eq_false_iff, beq_eq_false_iff_ne]
    refine ⟨by omega, ?_⟩
    unfold adj
    rw [decide_eq_false_iff_not]
    have h8 := hg.2.1
    rintro (h | h) <;> (have := hg.mem (List.mem_of_mem_take h); simp only at this; omega)
theorem cloB_lt' {s : Int} {l : List Ed} (hg : P2.Good s l) (x : Nat) (hx : x < 8) : cloB l x < 256 := by
  have := cloB_lt hg l.length x hx
  rwa [List.take_length] at this

/-- y covers x in a set -/
def coverB (l : List Ed) (B x y : Nat) : Bool := decide (y ≠ x) && (B.testBit y && decide ((cloB l x &&& B) &&& cloB l y = cloB l x &&& B))
/-- the covers of x in a set, of the nodes less than n -/
def coversN (l : List Ed) (n B x : Nat) : Nat := numOf (coverB l B x) n
def cornerB (l : List Ed) (n B x : Nat) : Bool := B.testBit x && coversN l n B x != 0
def cornersN (l : List Ed) (n B : Nat) : Nat := numOf (cornerB l n B) n
theorem sub_iff {a b : Nat} : a &&& b = a ↔ ∀ z, a.testBit z = true → b.testBit z = true := by
  constructor
  · intro h z hz
    rw [← h, Nat.testBit_and] at hz
    simpa using (Bool.and_eq_true_iff.1 hz).2
  · intro h
    apply Nat.eq_of_testBit_eq
    intro i
    rw [Nat.testBit_and]
    cases hi : a.testBit i with
    | true => simp [h i hi]
    | false => rfl
theorem coverB_iff {s : Int} {l : List Ed} (hg : P2.Good s l) {B x y : Nat} : coverB l B x y = true ↔ y ≠ x ∧ B.testBit y = true ∧ ∀ z : Nat, (x = z ∨ adj l x z = true) → B.testBit z = true → (y = z ∨ adj l y z = true) := by
  unfold coverB
  simp only [Bool.and_eq_true, decide_eq_true_eq, sub_iff, Nat.testBit_and, cloB_bit hg, Bool.or_eq_true, beq_iff_eq]
  constructor
  · rintro ⟨h1, h2, h3⟩
    exact ⟨h1, h2, fun z hz hb => h3 z ⟨hz, hb⟩⟩
  · rintro ⟨h1, h2, h3⟩
    exact ⟨h1, h2, fun z hz => h3 z hz.1 hz.2⟩

/-- a & ^b is 0 just where b has all of a -/
theorem bits_andNot0 (a b : Nat) (ha : a < 18446744073709551616) (hb : b < 18446744073709551616) : (bits .andNot .u64 (a : Int) (b : Int) == 0) = decide (a &&& b = a) := by
  have h1 : (BitVec.ofInt 64 (a : Int)).toNat = a := by
    rw [BitVec.ofInt_natCast, BitVec.toNat_ofNat]; exact Nat.mod_eq_of_lt (by omega)
  have h2 : (BitVec.ofInt 64 (b : Int)).toNat = b := by
    rw [BitVec.ofInt_natCast, BitVec.toNat_ofNat]; exact Nat.mod_eq_of_lt (by omega)
  have hlt : a &&& (18446744073709551616 - (b + 1)) < 2 ^ 64 := Nat.lt_of_le_of_lt Nat.and_le_left (by omega)
  have key : bits .andNot .u64 (a : Int) (b : Int) = ((a &&& (18446744073709551616 - (b + 1)) : Nat) : Int) := by
    show IntKind.u64.wrap ((BitVec.ofInt 64 (a : Int) &&& ~~~ BitVec.ofInt 64 (b : Int)).toNat : Int) = _
    rw [BitVec.toNat_and, BitVec.toNat_not, h1, h2, IntKind.wrap_u64]
    have : (2 ^ 64 - 1 - b : Nat) = 18446744073709551616 - (b + 1) := by omega
    rw [this]
    omega
  rw [key]
  rw [Bool.eq_iff_iff, beq_iff_eq, decide_eq_true_iff, sub_iff]
  have hz : ((a &&& (18446744073709551616 - (b + 1)) : Nat) : Int) = 0 ↔ a &&& (2 ^ 64 - (b + 1)) = 0 := by
    rw [show (2 ^ 64 : Nat) = 18446744073709551616 from rfl]; omega
  rw [hz]
  constructor
  · intro h z hz
    have hz64 : z < 64 := by
      rcases Nat.lt_or_ge z 64 with h | h
      · exact h
      · rw [Nat.testBit_lt_two_pow (Nat.lt_of_lt_of_le (show a < 2 ^ 64 by omega) (Nat.pow_le_pow_right (by decide) h))] at hz
        cases hz
    have h0 : (a &&& (2 ^ 64 - (b + 1))).testBit z = false := by rw [h]; simp
    rw [Nat.testBit_and, hz, Nat.testBit_two_pow_sub_succ (by omega)] at h0
    simpa [hz64] using h0
  · intro h
    apply Nat.eq_of_testBit_eq
    intro i
    rw [Nat.testBit_and, Nat.testBit_two_pow_sub_succ (by omega)]
    cases hi : a.testBit i with
    | true => simp [h i hi]
    | false => simp

-- ---- the model's words: sets are lists
/-- the ball of a node -/
def ballB (l : List Ed) (x : Nat) : Nat → Bool := fun z => (x == z) || adj l x z
def coverS (n : Nat) (l : List Ed) (xs : List Int) (x y : Int) : Bool :=
  ((nw (ballB l x.toNat) n).all fun b => !(decide (b ∈ xs) && (b != y && !adj l b y))) && (x != y && decide (y ∈ xs))
theorem coverS_eq {n : Nat} {l : List Ed} {xs : List Int} {x y : Nat} (hg : P2.Good n l) (hxs : ∀ z ∈ xs, 0 ≤ z ∧ z < (n : Int)) :
    coverS n l xs x y = coverB l (codeL xs) x y := by
  have hm : ∀ k : Nat, (codeL xs).testBit k = decide ((k : Int) ∈ xs) := code_bit (fun z hz => (hxs z hz).1)
  rw [Bool.eq_iff_iff, coverB_iff hg]
  unfold coverS
  simp only [Bool.and_eq_true, List.all_eq_true, hm, decide_eq_true_eq, bne_iff_ne, ne_eq, Bool.not_eq_true', Int.toNat_natCast, Int.ofNat_inj]
  constructor
  · rintro ⟨h1, h2, h3⟩
    refine ⟨fun e => h2 e.symm, h3, fun z hz hzs => ?_⟩
    have hzn := (hxs _ hzs).2
    have hzb : (z : Int) ∈ nw (ballB l x) n := mem_nw.2 ⟨z, by omega, by unfold ballB; simpa using hz, rfl⟩
    have := h1 _ hzb
    by_cases e : y = z
    · exact .inl e
    · refine .inr ?_
      rw [adj_comm]
      simp only [Bool.and_eq_false_iff, decide_eq_false_iff_not, bne_eq_false_iff_eq, Bool.not_eq_false'] at this
      rcases this with h | h | h
      · exact absurd hzs h
      · exact absurd (Int.ofNat_inj.1 h).symm e
      · exact h
  · rintro ⟨h1, h2, h3⟩
    refine ⟨fun b hb => ?_, fun e => h1 e.symm, h2⟩
    obtain ⟨z, hz, hzb, rfl⟩ := mem_nw.1 hb
    unfold ballB at hzb
    simp only [Bool.and_eq_false_iff, decide_eq_false_iff_not, bne_eq_false_iff_eq, Bool.not_eq_false']
    by_cases hzs : (z : Int) ∈ xs
    · rcases h3 z (by simpa using hzb) hzs with e | e
      · exact .inr (.inl (by rw [e]))
      · exact .inr (.inr (by rw [adj_comm]; exact e))
    · exact .inl hzs
/-- the least cover of a node in a set, or -1 -/
def leastS (n : Nat) (l : List Ed) (xs : List Int) (x : Int) : Int := (xs.find? (coverS n l xs x)).getD (-1)
theorem leastS_some {n : Nat} {l : List Ed} {xs : List Int} {x : Int} (hxs : ∀ z ∈ xs, 0 ≤ z) : decide (0 ≤ leastS n l xs x) = xs.any (coverS n l xs x) := by
  unfold leastS
  rw [Bool.eq_iff_iff, decide_eq_true_iff, List.any_eq_true]
  cases hf : xs.find? (coverS n l xs x) with
  | none =>
    have := List.find?_eq_none.1 hf
    constructor
    · intro h; simp at h
    · rintro ⟨y, hy, h⟩; exact absurd h (this y hy)
  | some y =>
    have h1 := List.mem_of_find?_eq_some hf
    have h2 := List.find?_some hf
    constructor
    · intro _; exact ⟨y, h1, h2⟩
    · intro _; exact hxs y h1
theorem any_covers {n : Nat} {l : List Ed} {xs : List Int} {x : Nat} (hg : P2.Good n l) (hxs : ∀ z ∈ xs, 0 ≤ z ∧ z < (n : Int)) :
    xs.any (coverS n l xs x) = (coversN l n (codeL xs) x != 0) := by
  rw [Bool.eq_iff_iff, List.any_eq_true, bne_iff_ne, ne_eq]
  unfold coversN
  rw [numOf_zero]
  constructor
  · rintro ⟨y, hy, h⟩ h0
    have hb := hxs y hy
    obtain ⟨k, rfl⟩ : ∃ k : Nat, y = (k : Int) := ⟨y.toNat, by omega⟩
    rw [coverS_eq hg hxs, h0 k (by omega)] at h
    cases h
  · intro h
    apply Classical.byContradiction
    intro hn
    refine h fun k hk => ?_
    cases hc : coverB l (codeL xs) x k with
    | false => rfl
    | true =>
      refine absurd ⟨(k : Int), ?_, ?_⟩ hn
      · have := ((coverB_iff hg).1 hc).2.1
        rw [code_bit (fun z hz => (hxs z hz).1)] at this
        simpa using this
      · rw [coverS_eq hg hxs]; exact hc
/-- the corners in a set -/
def cornersS (n : Nat) (l : List Ed) (xs : List Int) : List Int := xs.filter fun x => decide (0 ≤ leastS n l xs x)
theorem cornersS_eq {n : Nat} {l : List Ed} {xs : List Int} (hg : P2.Good n l) (ha : Asc xs) (hxs : ∀ z ∈ xs, 0 ≤ z ∧ z < (n : Int)) : cornersS n l xs = nw (cornerB l n (codeL xs)) n := by
  have h0 : ∀ z ∈ xs, 0 ≤ z := fun z hz => (hxs z hz).1
  refine asc_nw (List.Pairwise.filter _ ha) (fun x hx => hxs x (List.mem_filter.1 hx).1) fun k hk => ?_
  unfold cornersS cornerB
  rw [List.mem_filter, leastS_some h0, any_covers hg hxs, Bool.and_eq_true, code_bit h0, decide_eq_true_iff]
end Go.Proofs.YthgahkkjdpljjaaDoor.covs
