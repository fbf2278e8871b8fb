/- All sets of at most so many nodes, by their numbers of nodes and then lexicographically; the best one of the sets for which a test holds: mathematics. -/
import Derived.Test.YthgahkkjdpljjaaDoorOnes
namespace Go.Proofs.YthgahkkjdpljjaaDoor.ups
open Go.RowKit P2 words edges ints good adjs fns sets rets covs bitsI
set_option linter.unusedVariables false

/-- how many digits -/
def lenN (c : Nat) : Nat := if c = 0 then 0 else Nat.log2 c + 1
/-- a set with one node more, greater than all of its own -/
def growN (n c : Nat) : List Nat := ((List.range n).filter (fun x => decide (lenN c ≤ x))).map (fun x => c ||| 2 ^ x)
def bfsN (n m : Nat) : Nat → List Nat → List Nat
  | 0, r => r
  | _ + 1, [] => []
  | f + 1, c :: r => if onesN c < m then c :: bfsN n m f (r ++ growN n c) else c :: r
def setsN (n m : Nat) : List Nat := bfsN n m 300 [0]
def revT (c : Nat) : Nat → Nat
  | 0 => 0
  | j + 1 => (if bitB c (7 - j) = true then 2 ^ j else 0) + revT c j
def nodT (c : Nat) : Nat → List Int
  | 0 => []
  | j + 1 => if bitB c (7 - j) = true then ((7 - j : Nat) : Int) :: nodT c j else nodT c j
def revN (c : Nat) : Nat := revT c 8
/-- greater for what is better: fewer nodes, then lexicographically less; and more nodes, then lexicographically less -/
def rkMin (c : Nat) : Nat := (8 - onesN c) * 256 + revN c
def rkMax (c : Nat) : Nat := onesN c * 256 + revN c
def downB : List Nat → Bool
  | a :: b :: r => decide (rkMin b < rkMin a) && downB (b :: r)
  | _ => true
def maskL (L : List Nat) : Nat := L.foldl (fun a c => a ||| 2 ^ c) 0
def okS (n m : Nat) (L : List Nat) : Bool := L.all (fun c => decide (c < 2 ^ n) && decide (onesN c ≤ m)) && (maskL L == maskL ((List.range (2 ^ n)).filter fun c => decide (onesN c ≤ m))) && downB L && decide (L.length ≤ 256) && decide (L[0]? = some 0)
theorem sets_all : ∀ n : Fin 9, ∀ m : Fin 9, okS n.1 m.1 (setsN n.1 m.1) = true := by decide +kernel
theorem mask_fold (k : Nat) : ∀ (L : List Nat) (a : Nat), (L.foldl (fun a c => a ||| 2 ^ c) a).testBit k = (a.testBit k || decide (k ∈ L))
  | [], a => by simp
  | c :: L, a => by
    rw [List.foldl_cons, mask_fold k L, Nat.testBit_or, Nat.testBit_two_pow, Bool.or_assoc]
    congr 1
    rw [Bool.eq_iff_iff]
    simp only [Bool.or_eq_true, decide_eq_true_eq, List.mem_cons]
    constructor
    · rintro (h | h)
      · exact .inl h.symm
      · exact .inr h
    · rintro (h | h)
      · exact .inl h.symm
      · exact .inr h
theorem mask_bit (L : List Nat) (k : Nat) : (maskL L).testBit k = decide (k ∈ L) := by unfold maskL; rw [mask_fold]; simp
theorem sets_ok {n m : Nat} (hn : n ≤ 8) (hm : m ≤ 8) : okS n m (setsN n m) = true := sets_all ⟨n, by omega⟩ ⟨m, by omega⟩
theorem sets_parts {n m : Nat} (hn : n ≤ 8) (hm : m ≤ 8) :
    (∀ c ∈ setsN n m, c < 2 ^ n ∧ onesN c ≤ m) ∧ maskL (setsN n m) = maskL ((List.range (2 ^ n)).filter fun c => decide (onesN c ≤ m)) ∧ downB (setsN n m) = true ∧ (setsN n m).length ≤ 256 ∧ (setsN n m)[0]? = some 0 := by
  have h := sets_ok hn hm
  unfold okS at h
  simp only [Bool.and_eq_true, decide_eq_true_eq, beq_iff_eq, List.all_eq_true] at h
  exact ⟨h.1.1.1.1, h.1.1.1.2, h.1.1.2, h.1.2, h.2⟩
theorem mem_sets {n m c : Nat} (hn : n ≤ 8) (hm : m ≤ 8) : c ∈ setsN n m ↔ c < 2 ^ n ∧ onesN c ≤ m := by
  have h := mask_bit (setsN n m) c
  rw [(sets_parts hn hm).2.1, mask_bit, decide_eq_decide] at h
  rw [← h, List.mem_filter, List.mem_range, decide_eq_true_iff]
theorem sets_len {n m : Nat} (hn : n ≤ 8) (hm : m ≤ 8) : (setsN n m).length ≤ 256 := (sets_parts hn hm).2.2.2.1
theorem sets_first {n m : Nat} (hn : n ≤ 8) (hm : m ≤ 8) : (setsN n m)[0]? = some 0 := (sets_parts hn hm).2.2.2.2
theorem down_pair : ∀ {L : List Nat}, downB L = true → L.Pairwise (fun a b => rkMin b < rkMin a)
  | [], _ => List.Pairwise.nil
  | [a], _ => by simp
  | a :: b :: r, h => by
    unfold downB at h
    rw [Bool.and_eq_true, decide_eq_true_iff] at h
    have ih := down_pair h.2
    refine List.pairwise_cons.2 ⟨fun x hx => ?_, ih⟩
    rcases List.mem_cons.1 hx with e | hx
    · subst e; exact h.1
    · have := (List.pairwise_cons.1 ih).1 x hx; omega
theorem sets_down {n m : Nat} (hn : n ≤ 8) (hm : m ≤ 8) {i j a b : Nat} (hij : i < j) (ha : (setsN n m)[i]? = some a) (hb : (setsN n m)[j]? = some b) : rkMin b < rkMin a := by
  have h := List.pairwise_iff_getElem.1 (down_pair (sets_parts hn hm).2.2.1)
  obtain ⟨h1, h2⟩ := List.getElem?_eq_some_iff.1 ha
  obtain ⟨h3, h4⟩ := List.getElem?_eq_some_iff.1 hb
  have := h i j h1 h3 hij
  rwa [h2, h4] at this
theorem grow_len (n c : Nat) : (growN n c).length ≤ n := by
  unfold growN
  rw [List.length_map]
  exact Nat.le_trans (List.length_filter_le _ _) (by simp)
/-- the numbers from a on -/
theorem fil_succ (n a x : Nat) (h : a ≤ x) : (List.range (x + 1)).filter (fun y => decide (a ≤ y)) = (List.range x).filter (fun y => decide (a ≤ y)) ++ [x] := by
  rw [List.range_succ, List.filter_append]
  simp [h]
/-- the ones up to x -/
def growT (c x : Nat) : List Nat := ((List.range x).filter (fun y => decide (lenN c ≤ y))).map (fun y => c ||| 2 ^ y)
theorem growT_zero (c : Nat) {x : Nat} (h : x ≤ lenN c) : growT c x = [] := by
  unfold growT
  rw [List.map_eq_nil_iff, List.filter_eq_nil_iff]
  intro y hy
  have := List.mem_range.1 hy
  simp; omega
theorem growT_succ {c x : Nat} (h : lenN c ≤ x) : growT c (x + 1) = growT c x ++ [c ||| 2 ^ x] := by
  unfold growT
  rw [fil_succ x _ x h, List.map_append]
  rfl
theorem growT_len (c x : Nat) : (growT c x).length ≤ x := grow_len x c
theorem len_le : ∀ c : Fin 256, lenN c.1 ≤ 8 := by decide +kernel
theorem ones_le (c : Nat) : onesN c ≤ 8 := nw_len _ _
theorem ones_zero : ∀ c : Fin 256, onesN c.1 = 0 → c.1 = 0 := by decide +kernel
/-- one step of the walk: what is behind i -/
theorem bfs_step {n m f i c : Nat} {L F : List Nat} (h : L[i]? = some c) (ho : onesN c < m) (he : L.take i ++ bfsN n m (f + 1) (L.drop i) = F) : (L ++ growN n c).take (i + 1) ++ bfsN n m f ((L ++ growN n c).drop (i + 1)) = F := by
  obtain ⟨h1, h2⟩ := List.getElem?_eq_some_iff.1 h
  rw [List.drop_eq_getElem_cons h1, h2] at he
  unfold bfsN at he
  rw [if_pos ho] at he
  rw [List.take_append_of_le_length (by omega), List.drop_append_of_le_length (by omega), List.take_add_one, h]
  simpa using he
theorem bfs_full {n m f i c : Nat} {L F : List Nat} (h : L[i]? = some c) (ho : ¬ onesN c < m) (he : L.take i ++ bfsN n m (f + 1) (L.drop i) = F) : L = F := by
  obtain ⟨h1, h2⟩ := List.getElem?_eq_some_iff.1 h
  have hd := List.drop_eq_getElem_cons h1
  rw [h2] at hd
  rw [hd] at he
  unfold bfsN at he
  rw [if_neg ho, ← hd, List.take_append_drop] at he
  exact he
theorem bfs_end {n m f i : Nat} {L F : List Nat} (h : L.length ≤ i) (he : L.take i ++ bfsN n m f (L.drop i) = F) : L = F := by
  rw [List.take_of_length_le h, List.drop_eq_nil_of_le h] at he
  have : bfsN n m f [] = [] := by cases f <;> rfl
  rw [this, List.append_nil] at he
  exact he
theorem bfs_pre {n m : Nat} : ∀ (f : Nat) (r : List Nat), r.length ≤ (bfsN n m f r).length
  | 0, r => Nat.le_refl _
  | f + 1, [] => Nat.le_refl _
  | f + 1, c :: r => by
    unfold bfsN
    split
    · have := bfs_pre (n := n) (m := m) f (r ++ growN n c)
      rw [List.length_append] at this
      rw [List.length_cons, List.length_cons]; omega
    · exact Nat.le_refl _
theorem bfs_len {n m f i : Nat} {L F : List Nat} (he : L.take i ++ bfsN n m f (L.drop i) = F) : L.length ≤ F.length := by
  have h := bfs_pre (n := n) (m := m) f (L.drop i)
  rw [← he, List.length_append]
  have h2 : (L.take i).length + (L.drop i).length = L.length := by rw [← List.length_append, List.take_append_drop]
  omega

/-- lists compared element by element -/
def lexI : List Int → List Int → Bool
  | x :: a, y :: b => if x = y then lexI a b else decide (x < y)
  | _, _ => false
theorem revT_lt (c : Nat) : ∀ j, revT c j < 2 ^ j
  | 0 => by show 0 < 1; omega
  | j + 1 => by
    have := revT_lt c j
    unfold revT
    rw [Nat.pow_succ]
    split <;> omega
theorem nodT_ge (c : Nat) : ∀ j, j ≤ 8 → ∀ x ∈ nodT c j, ((8 - j : Nat) : Int) ≤ x
  | 0, _, x, hx => by simp [nodT] at hx
  | j + 1, hj, x, hx => by
    unfold nodT at hx
    split at hx
    · rcases List.mem_cons.1 hx with e | hx
      · omega
      · have := nodT_ge c j (by omega) x hx; omega
    · have := nodT_ge c j (by omega) x hx; omega
theorem lex_revT (a b : Nat) : ∀ j, j ≤ 8 → (nodT a j).length = (nodT b j).length → lexI (nodT a j) (nodT b j) = decide (revT b j < revT a j)
  | 0, _, _ => by simp [nodT, lexI, revT]
  | j + 1, hj, hl => by
    have ra := revT_lt a j
    have rb := revT_lt b j
    unfold nodT at hl ⊢
    unfold revT
    by_cases ha : bitB a (7 - j) = true
    · by_cases hb : bitB b (7 - j) = true
      · rw [if_pos ha, if_pos hb] at hl ⊢
        rw [if_pos ha, if_pos hb]
        rw [List.length_cons, List.length_cons] at hl
        show (if _ then _ else _) = _
        rw [if_pos rfl, lex_revT a b j (by omega) (by omega), decide_eq_decide]
        omega
      · rw [if_pos ha, if_neg hb] at hl ⊢
        rw [if_pos ha, if_neg hb]
        rw [List.length_cons] at hl
        cases hn : nodT b j with
        | nil => rw [hn] at hl; simp at hl
        | cons y r =>
          have hy := nodT_ge b j (by omega) y (by rw [hn]; simp)
          show (if _ then _ else _) = _
          rw [if_neg (by omega), decide_eq_decide]
          omega
    · by_cases hb : bitB b (7 - j) = true
      · rw [if_neg ha, if_pos hb] at hl ⊢
        rw [if_neg ha, if_pos hb]
        rw [List.length_cons] at hl
        cases hn : nodT a j with
        | nil => rw [hn] at hl; simp at hl
        | cons y r =>
          have hy := nodT_ge a j (by omega) y (by rw [hn]; simp)
          show (if _ then _ else _) = _
          rw [if_neg (by omega), decide_eq_decide]
          omega
      · rw [if_neg ha, if_neg hb] at hl ⊢
        rw [if_neg ha, if_neg hb, lex_revT a b j (by omega) hl, decide_eq_decide]
        omega
theorem nod_all : ∀ c : Fin 256, nw (bitB c.1) 8 = nodT c.1 8 := by decide +kernel
theorem rev_rev : ∀ c : Fin 256, revN (revN c.1) = c.1 := by decide +kernel
theorem rev_lt (c : Nat) : revN c < 256 := revT_lt c 8
/-- the nodes of a set -/
def ndN (c : Nat) : List Int := nw (bitB c) 8
theorem nd_len (c : Nat) : (ndN c).length = onesN c := rfl
theorem nd_lex {a b : Nat} (ha : a < 256) (hb : b < 256) (h : onesN a = onesN b) : lexI (ndN a) (ndN b) = decide (revN b < revN a) := by
  have h1 := nod_all ⟨a, ha⟩
  have h2 := nod_all ⟨b, hb⟩
  unfold onesN at h
  unfold ndN
  simp only at h1 h2
  rw [h1, h2] at h ⊢
  exact lex_revT a b 8 (by omega) h
theorem nd_bits {n c : Nat} (hn : n ≤ 8) (hc : c < 2 ^ n) : nw (bitB c) n = ndN c := by
  unfold ndN
  refine (nw_more hn fun k h1 _ => ?_).symm
  unfold bitB
  exact Nat.testBit_lt_two_pow (Nat.lt_of_lt_of_le hc (Nat.pow_le_pow_right (by decide) h1))
theorem pow_le {n : Nat} (hn : n ≤ 8) : 2 ^ n ≤ 256 := by have := Nat.pow_le_pow_right (show 0 < 2 by decide) hn; simpa using this
/-- what the model asks: is one set better than another one -/
theorem better_max {a b : Nat} (ha : a < 256) (hb : b < 256) : (decide (onesN b < onesN a) || (decide (onesN a = onesN b) && lexI (ndN a) (ndN b))) = decide (rkMax b < rkMax a) := by
  have h1 := rev_lt a
  have h2 := rev_lt b
  by_cases h : onesN a = onesN b
  · rw [nd_lex ha hb h, decide_eq_true h, Bool.true_and]
    unfold rkMax
    rw [h]
    simp
  · rw [decide_eq_false h, Bool.false_and, Bool.or_false, decide_eq_decide]
    unfold rkMax
    omega
theorem better_min {a b : Nat} (ha : a < 256) (hb : b < 256) : (decide (onesN a < onesN b) || (decide (onesN a = onesN b) && lexI (ndN a) (ndN b))) = decide (rkMin b < rkMin a) := by
  have h1 := rev_lt a
  have h2 := rev_lt b
  have h3 := ones_le a
  have h4 := ones_le b
  by_cases h : onesN a = onesN b
  · rw [nd_lex ha hb h, decide_eq_true h, Bool.true_and]
    unfold rkMin
    rw [h]
    simp
  · rw [decide_eq_false h, Bool.false_and, Bool.or_false, decide_eq_decide]
    unfold rkMin
    omega
theorem rkMax_inj {a b : Nat} (ha : a < 256) (hb : b < 256) (h : rkMax a = rkMax b) : a = b := by
  have h1 := rev_lt a
  have h2 := rev_lt b
  unfold rkMax at h
  have e : revN a = revN b := by omega
  have e1 := rev_rev ⟨a, ha⟩
  have e2 := rev_rev ⟨b, hb⟩
  simp only at e1 e2
  rw [← e1, ← e2, e]
theorem rkMin_inj {a b : Nat} (ha : a < 256) (hb : b < 256) (h : rkMin a = rkMin b) : a = b := by
  have h1 := rev_lt a
  have h2 := rev_lt b
  unfold rkMin at h
  have e : revN a = revN b := by omega
  have e1 := rev_rev ⟨a, ha⟩
  have e2 := rev_rev ⟨b, hb⟩
  simp only at e1 e2
  rw [← e1, ← e2, e]

theorem rk_step {u1 u2 u3 u4 u5 u6 : Nat} (h1 : u1 * 256 + u4 ≤ u2 * 256 + u5) (h2 : u5 < 256) (ho : u2 < u3) : u1 * 256 + u4 ≤ u3 * 256 + u6 := by
  have h3 := Nat.mul_le_mul_right 256 (Nat.succ_le_of_lt ho)
  rw [Nat.succ_mul] at h3
  exact Nat.le_trans h1 (Nat.le_trans (Nat.add_le_add_left (Nat.le_of_lt h2) _) (Nat.le_trans h3 (Nat.le_add_right _ _)))
/-- the best one of the first k sets of the list -/
def MaxTo (P : Nat → Bool) (L : List Nat) (k b : Nat) : Prop := (b = 0 ∨ b ∈ L.take k) ∧ P b = true ∧ ∀ c ∈ L.take k, P c = true → rkMax c ≤ rkMax b
theorem max_start {P : Nat → Bool} (L : List Nat) (h : P 0 = true) : MaxTo P L 0 0 := ⟨.inl rfl, h, fun c hc => by simp at hc⟩
theorem mem_take {L : List Nat} {k c x : Nat} (h : L[k]? = some c) : x ∈ L.take (k + 1) ↔ x ∈ L.take k ∨ x = c := by
  rw [List.take_add_one, h]; simp
theorem max_skip {P : Nat → Bool} {L : List Nat} {k b c : Nat} (h : MaxTo P L k b) (hc : L[k]? = some c) (hp : P c = false) : MaxTo P L (k + 1) b :=
  ⟨h.1.imp id fun m => (mem_take hc).2 (.inl m), h.2.1, fun x hx hpx => ((mem_take hc).1 hx).elim (fun m => h.2.2 x m hpx) fun e => by subst e; rw [hp] at hpx; cases hpx⟩
theorem max_take {P : Nat → Bool} {L : List Nat} {k b c : Nat} (h : MaxTo P L k b) (hc : L[k]? = some c) (hp : P c = true) (ho : onesN b < onesN c) : MaxTo P L (k + 1) c :=
  ⟨.inr ((mem_take hc).2 (.inr rfl)), hp, fun x hx hpx => ((mem_take hc).1 hx).elim (fun m => by
    have h1 := h.2.2 x m hpx
    have h2 := rev_lt b
    unfold rkMax at h1 ⊢
    exact rk_step h1 h2 ho) fun e => by subst e; exact Nat.le_refl _⟩
theorem max_less {P : Nat → Bool} {n m k b c : Nat} (hn : n ≤ 8) (hm : m ≤ 8) (h : MaxTo P (setsN n m) k b) (hc : (setsN n m)[k]? = some c) (ho : ¬ onesN b < onesN c) : MaxTo P (setsN n m) (k + 1) b :=
  ⟨h.1.imp id fun m => (mem_take hc).2 (.inl m), h.2.1, fun x hx hpx => ((mem_take hc).1 hx).elim (fun m => h.2.2 x m hpx) fun e => by
    subst e
    rcases h.1 with e | hb
    · subst e
      have hz : onesN 0 = 0 := by decide
      have hx8 := ((mem_sets hn hm).1 (List.mem_of_getElem? hc)).1
      have := ones_zero ⟨x, Nat.lt_of_lt_of_le hx8 (pow_le hn)⟩ (by show onesN x = 0; omega)
      simp only at this
      rw [this]; exact Nat.le_refl _
    · obtain ⟨i, hi⟩ := List.getElem?_of_mem hb
      have hik : i < k := by
        have := (List.getElem?_eq_some_iff.1 hi).1
        rw [List.length_take] at this; omega
      rw [List.getElem?_take_of_lt hik] at hi
      have hd := sets_down hn hm hik hi hc
      have h1 := ones_le b
      have h2 := ones_le x
      have h3 := rev_lt b
      have h4 := rev_lt x
      unfold rkMin at hd
      unfold rkMax
      omega⟩
/-- the best one of the sets with numbers less than k -/
def MaxC (P : Nat → Bool) (R : Nat → Nat) (n k b : Nat) : Prop := b < 2 ^ n ∧ P b = true ∧ ∀ c, c < k → P c = true → R c ≤ R b
theorem maxC_skip {P : Nat → Bool} {R : Nat → Nat} {n k b : Nat} (h : MaxC P R n k b) (hp : P k = false) : MaxC P R n (k + 1) b :=
  ⟨h.1, h.2.1, fun c hc hpc => by
    by_cases e : c = k
    · subst e; rw [hp] at hpc; cases hpc
    · exact h.2.2 c (by omega) hpc⟩
theorem maxC_less {P : Nat → Bool} {R : Nat → Nat} {n k b : Nat} (h : MaxC P R n k b) (hp : ¬ R b < R k) : MaxC P R n (k + 1) b :=
  ⟨h.1, h.2.1, fun c hc hpc => by
    by_cases e : c = k
    · subst e; omega
    · exact h.2.2 c (by omega) hpc⟩
theorem maxC_take {P : Nat → Bool} {R : Nat → Nat} {n k b : Nat} (h : MaxC P R n k b) (hk : k < 2 ^ n) (hp : P k = true) (hr : R b < R k) : MaxC P R n (k + 1) k :=
  ⟨hk, hp, fun c hc hpc => by
    by_cases e : c = k
    · subst e; exact Nat.le_refl _
    · have := h.2.2 c (by omega) hpc; omega⟩
/-- both are the same -/
theorem max_same {P : Nat → Bool} {n b d : Nat} (hn : n ≤ 8) (h : MaxTo P (setsN n n) (setsN n n).length b) (hd : MaxC P rkMax n (2 ^ n) d) : b = d := by
  have hall : ∀ c, c < 2 ^ n → c ∈ setsN n n := fun c hc => (mem_sets hn hn).2 ⟨hc, by
    have := nd_len c
    rw [← nd_bits hn hc] at this
    rw [← this]; exact nw_len _ _⟩
  have hp := pow_le hn
  have hb : b < 2 ^ n := by
    rcases h.1 with e | m
    · subst e; exact Nat.pow_pos (by decide)
    · exact ((mem_sets hn hn).1 (List.mem_of_mem_take m)).1
  have h1 := h.2.2 d (by rw [List.take_length]; exact hall d hd.1) hd.2.1
  have h2 := hd.2.2 b hb h.2.1
  exact rkMax_inj (by omega) (by have := hd.1; omega) (by omega)
/-- the first one in the list for which a test holds -/
theorem min_same {P : Nat → Bool} {n i b d : Nat} (hn : n ≤ 8) (hi : (setsN n n)[i]? = some b) (hp : P b = true) (hf : ∀ j c, j < i → (setsN n n)[j]? = some c → P c = false) (hd : MaxC P rkMin n (2 ^ n) d) : b = d := by
  have hpw := pow_le hn
  have hb := ((mem_sets hn hn).1 (List.mem_of_getElem? hi)).1
  have hdm : d ∈ setsN n n := (mem_sets hn hn).2 ⟨hd.1, by
    have := nd_len d
    rw [← nd_bits hn hd.1] at this
    rw [← this]; exact nw_len _ _⟩
  obtain ⟨j, hj⟩ := List.getElem?_of_mem hdm
  have h2 := hd.2.2 b hb hp
  by_cases e : j < i
  · have := hf j d e hj
    rw [hd.2.1] at this; cases this
  · by_cases e2 : i = j
    · subst e2; rw [hi] at hj; exact Option.some.inj hj
    · have := sets_down hn hn (show i < j by omega) hi hj
      omega
end Go.Proofs.YthgahkkjdpljjaaDoor.ups
