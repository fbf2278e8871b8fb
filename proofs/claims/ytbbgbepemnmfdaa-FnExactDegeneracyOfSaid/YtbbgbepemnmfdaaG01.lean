/- All sets of at most so many nodes, by their numbers of nodes and then lexicographically; the best one of the sets for which a test holds: mathematics. -/
import Derived.Test.YtbbgbepemnmfdaaOnes
import Derived.Handy
import Derived.Test.YtbbgbepemnmfdaaClosed
import Derived.Deep.AppendLies
import Derived.Deep.RegionHeld3
import Derived.Deep.DeepCutAuto
import Derived.Test.YtbbgbepemnmfdaaFunc
import Derived.Test.YtbbgbepemnmfdaaBagM
import Derived.Test.YtbbgbepemnmfdaaAround
import Derived.Test.YtbbgbepemnmfdaaApp
namespace Go.Proofs.Ytbbgbepemnmfdaa.ups
open Go.RowKit P2 words edges ints good adjs fns sets rets covs bitsI
set_option linter.unusedVariables false

/-- how many digits -/
def lenN (c : Nat) : Nat := if c = 0 then 0 else Nat.log2 c + 1
/-- a set with one node more, greater than all of its own -/
def growN (n c : Nat) : List Nat := ((List.range n).filter (fun x => decide (lenN c ≤ x))).map (fun x => c ||| 2 ^ x)
def bfsN (n m : Nat) : Nat → List Nat → List Nat
  | 0, r => r
  | _ + 1, [] => []
  | f + 1, c :: r => if onesN c < m then c :: bfsN n m f (r ++ growN n c) else c :: r
def setsN (n m : Nat) : List Nat := bfsN n m 300 [0]
def revT (c : Nat) : Nat → Nat
  | 0 => 0
  | j + 1 => (if bitB c (7 - j) = true then 2 ^ j else 0) + revT c j
def nodT (c : Nat) : Nat → List Int
  | 0 => []
  | j + 1 => if bitB c (7 - j) = true then ((7 - j : Nat) : Int) :: nodT c j else nodT c j
def revN (c : Nat) : Nat := revT c 8
/-- greater for what is better: fewer nodes, then lexicographically less; and more nodes, then lexicographically less -/
def rkMin (c : Nat) : Nat := (8 - onesN c) * 256 + revN c
def rkMax (c : Nat) : Nat := onesN c * 256 + revN c
def downB : List Nat → Bool
  | a :: b :: r => decide (rkMin b < rkMin a) && downB (b :: r)
  | _ => true
def maskL (L : List Nat) : Nat := L.foldl (fun a c => a ||| 2 ^ c) 0
def okS (n m : Nat) (L : List Nat) : Bool := L.all (fun c => decide (c < 2 ^ n) && decide (onesN c ≤ m)) && (maskL L == maskL ((List.range (2 ^ n)).filter fun c => decide (onesN c ≤ m))) && downB L && decide (L.length ≤ 256) && decide (L[0]? = some 0)
theorem sets_all : ∀ n : Fin 9, ∀ m : Fin 9, okS n.1 m.1 (setsN n.1 m.1) = true := by decide +kernel
theorem mask_fold (k : Nat) : ∀ (L : List Nat) (a : Nat), (L.foldl (fun a c => a ||| 2 ^ c) a).testBit k = (a.testBit k || decide (k ∈ L))
  | [], a => by simp
  | c :: L, a => by
    rw [List.foldl_cons, mask_fold k L, Nat.testBit_or, Nat.testBit_two_pow, Bool.or_assoc]
    congr 1
    rw [Bool.eq_iff_iff]
    simp only [Bool.or_eq_true, decide_eq_true_eq, List.mem_cons]
    constructor
    · rintro (h | h)
      · exact .inl h.symm
      · exact .inr h
    · rintro (h | h)
      · exact .inl h.symm
      · exact .inr h
theorem mask_bit (L : List Nat) (k : Nat) : (maskL L).testBit k = decide (k ∈ L) := by unfold maskL; rw [mask_fold]; simp
theorem sets_ok {n m : Nat} (hn : n ≤ 8) (hm : m ≤ 8) : okS n m (setsN n m) = true := sets_all ⟨n, by omega⟩ ⟨m, by omega⟩
theorem sets_parts {n m : Nat} (hn : n ≤ 8) (hm : m ≤ 8) :
    (∀ c ∈ setsN n m, c < 2 ^ n ∧ onesN c ≤ m) ∧ maskL (setsN n m) = maskL ((List.range (2 ^ n)).filter fun c => decide (onesN c ≤ m)) ∧ downB (setsN n m) = true ∧ (setsN n m).length ≤ 256 ∧ (setsN n m)[0]? = some 0 := by
  have h := sets_ok hn hm
  unfold okS at h
  simp only [Bool.and_eq_true, decide_eq_true_eq, beq_iff_eq, List.all_eq_true] at h
  exact ⟨h.1.1.1.1, h.1.1.1.2, h.1.1.2, h.1.2, h.2⟩
theorem mem_sets {n m c : Nat} (hn : n ≤ 8) (hm : m ≤ 8) : c ∈ setsN n m ↔ c < 2 ^ n ∧ onesN c ≤ m := by
  have h := mask_bit (setsN n m) c
  rw [(sets_parts hn hm).2.1, mask_bit, decide_eq_decide] at h
  rw [← h, List.mem_filter, List.mem_range, decide_eq_true_iff]
theorem sets_len {n m : Nat} (hn : n ≤ 8) (hm : m ≤ 8) : (setsN n m).length ≤ 256 := (sets_parts hn hm).2.2.2.1
theorem sets_first {n m : Nat} (hn : n ≤ 8) (hm : m ≤ 8) : (setsN n m)[0]? = some 0 := (sets_parts hn hm).2.2.2.2
theorem down_pair : ∀ {L : List Nat}, downB L = true → L.Pairwise (fun a b => rkMin b < rkMin a)
  | [], _ => List.Pairwise.nil
  | [a], _ => by simp
  | a :: b :: r, h => by
    unfold downB at h
    rw [Bool.and_eq_true, decide_eq_true_iff] at h
    have ih := down_pair h.2
    refine List.pairwise_cons.2 ⟨fun x hx => ?_, ih⟩
    rcases List.mem_cons.1 hx with e | hx
    · subst e; exact h.1
    · have := (List.pairwise_cons.1 ih).1 x hx; omega
theorem sets_down {n m : Nat} (hn : n ≤ 8) (hm : m ≤ 8) {i j a b : Nat} (hij : i < j) (ha : (setsN n m)[i]? = some a) (hb : (setsN n m)[j]? = some b) : rkMin b < rkMin a := by
  have h := List.pairwise_iff_getElem.1 (down_pair (sets_parts hn hm).2.2.1)
  obtain ⟨h1, h2⟩ := List.getElem?_eq_some_iff.1 ha
  obtain ⟨h3, h4⟩ := List.getElem?_eq_some_iff.1 hb
  have := h i j h1 h3 hij
  rwa [h2, h4] at this
theorem grow_len (n c : Nat) : (growN n c).length ≤ n := by
  unfold growN
  rw [List.length_map]
  exact Nat.le_trans (List.length_filter_le _ _) (by simp)
/-- the numbers from a on -/
theorem fil_succ (n a x : Nat) (h : a ≤ x) : (List.range (x + 1)).filter (fun y => decide (a ≤ y)) = (List.range x).filter (fun y => decide (a ≤ y)) ++ [x] := by
  rw [List.range_succ, List.filter_append]
  simp [h]
/-- the ones up to x -/
def growT (c x : Nat) : List Nat := ((List.range x).filter (fun y => decide (lenN c ≤ y))).map (fun y => c ||| 2 ^ y)
theorem growT_zero (c : Nat) {x : Nat} (h : x ≤ lenN c) : growT c x = [] := by
  unfold growT
  rw [List.map_eq_nil_iff, List.filter_eq_nil_iff]
  intro y hy
  have := List.mem_range.1 hy
  simp; omega
theorem growT_succ {c x : Nat} (h : lenN c ≤ x) : growT c (x + 1) = growT c x ++ [c ||| 2 ^ x] := by
  unfold growT
  rw [fil_succ x _ x h, List.map_append]
  rfl
theorem growT_len (c x : Nat) : (growT c x).length ≤ x := grow_len x c
theorem len_le : ∀ c : Fin 256, lenN c.1 ≤ 8 := by decide +kernel
theorem ones_le (c : Nat) : onesN c ≤ 8 := nw_len _ _
theorem ones_zero : ∀ c : Fin 256, onesN c.1 = 0 → c.1 = 0 := by decide +kernel
/-- one step of the walk: what is behind i -/
theorem bfs_step {n m f i c : Nat} {L F : List Nat} (h : L[i]? = some c) (ho : onesN c < m) (he : L.take i ++ bfsN n m (f + 1) (L.drop i) = F) : (L ++ growN n c).take (i + 1) ++ bfsN n m f ((L ++ growN n c).drop (i + 1)) = F := by
  obtain ⟨h1, h2⟩ := List.getElem?_eq_some_iff.1 h
  rw [List.drop_eq_getElem_cons h1, h2] at he
  unfold bfsN at he
  rw [if_pos ho] at he
  rw [List.take_append_of_le_length (by omega), List.drop_append_of_le_length (by omega), List.take_add_one, h]
  simpa using he
theorem bfs_full {n m f i c : Nat} {L F : List Nat} (h : L[i]? = some c) (ho : ¬ onesN c < m) (he : L.take i ++ bfsN n m (f + 1) (L.drop i) = F) : L = F := by
  obtain ⟨h1, h2⟩ := List.getElem?_eq_some_iff.1 h
  have hd := List.drop_eq_getElem_cons h1
  rw [h2] at hd
  rw [hd] at he
  unfold bfsN at he
  rw [if_neg ho, ← hd, List.take_append_drop] at he
  exact he
theorem bfs_end {n m f i : Nat} {L F : List Nat} (h : L.length ≤ i) (he : L.take i ++ bfsN n m f (L.drop i) = F) : L = F := by
  rw [List.take_of_length_le h, List.drop_eq_nil_of_le h] at he
  have : bfsN n m f [] = [] := by cases f <;> rfl
  rw [this, List.append_nil] at he
  exact he
theorem bfs_pre {n m : Nat} : ∀ (f : Nat) (r : List Nat), r.length ≤ (bfsN n m f r).length
  | 0, r => Nat.le_refl _
  | f + 1, [] => Nat.le_refl _
  | f + 1, c :: r => by
    unfold bfsN
    split
    · have := bfs_pre (n := n) (m := m) f (r ++ growN n c)
      rw [List.length_append] at this
      rw [List.length_cons, List.length_cons]; omega
    · exact Nat.le_refl _
theorem bfs_len {n m f i : Nat} {L F : List Nat} (he : L.take i ++ bfsN n m f (L.drop i) = F) : L.length ≤ F.length := by
  have h := bfs_pre (n := n) (m := m) f (L.drop i)
  rw [← he, List.length_append]
  have h2 : (L.take i).length + (L.drop i).length = L.length := by rw [← List.length_append, List.take_append_drop]
  omega

/-- lists compared element by element -/
def lexI : List Int → List Int → Bool
  | x :: a, y :: b => if x = y then lexI a b else decide (x < y)
  | _, _ => false
theorem revT_lt (c : Nat) : ∀ j, revT c j < 2 ^ j
  | 0 => by show 0 < 1; omega
  | j + 1 => by
    have := revT_lt c j
    unfold revT
    rw [Nat.pow_succ]
    split <;> omega
theorem nodT_ge (c : Nat) : ∀ j, j ≤ 8 → ∀ x ∈ nodT c j, ((8 - j : Nat) : Int) ≤ x
  | 0, _, x, hx => by simp [nodT] at hx
  | j + 1, hj, x, hx => by
    unfold nodT at hx
    split at hx
    · rcases List.mem_cons.1 hx with e | hx
      · omega
      · have := nodT_ge c j (by omega) x hx; omega
    · have := nodT_ge c j (by omega) x hx; omega
theorem lex_revT (a b : Nat) : ∀ j, j ≤ 8 → (nodT a j).length = (nodT b j).length → lexI (nodT a j) (nodT b j) = decide (revT b j < revT a j)
  | 0, _, _ => by simp [nodT, lexI, revT]
  | j + 1, hj, hl => by
    have ra := revT_lt a j
    have rb := revT_lt b j
    unfold nodT at hl ⊢
    unfold revT
    by_cases ha : bitB a (7 - j) = true
    · by_cases hb : bitB b (7 - j) = true
      · rw [if_pos ha, if_pos hb] at hl ⊢
        rw [if_pos ha, if_pos hb]
        rw [List.length_cons, List.length_cons] at hl
        show (if _ then _ else _) = _
        rw [if_pos rfl, lex_revT a b j (by omega) (by omega), decide_eq_decide]
        omega
      · rw [if_pos ha, if_neg hb] at hl ⊢
        rw [if_pos ha, if_neg hb]
        rw [List.length_cons] at hl
        cases hn : nodT b j with
        | nil => rw [hn] at hl; simp at hl
        | cons y r =>
          have hy := nodT_ge b j (by omega) y (by rw [hn]; simp)
          show (if _ then _ else _) = _
          rw [if_neg (by omega), decide_eq_decide]
          omega
    · by_cases hb : bitB b (7 - j) = true
      · rw [if_neg ha, if_pos hb] at hl ⊢
        rw [if_neg ha, if_pos hb]
        rw [List.length_cons] at hl
        cases hn : nodT a j with
        | nil => rw [hn] at hl; simp at hl
        | cons y r =>
          have hy := nodT_ge a j (by omega) y (by rw [hn]; simp)
          show (if _ then _ else _) = _
          rw [if_neg (by omega), decide_eq_decide]
          omega
      · rw [if_neg ha, if_neg hb] at hl ⊢
        rw [if_neg ha, if_neg hb, lex_revT a b j (by omega) hl, decide_eq_decide]
        omega
theorem nod_all : ∀ c : Fin 256, nw (bitB c.1) 8 = nodT c.1 8 := by decide +kernel
theorem rev_rev : ∀ c : Fin 256, revN (revN c.1) = c.1 := by decide +kernel
theorem rev_lt (c : Nat) : revN c < 256 := revT_lt c 8
/-- the nodes of a set -/
def ndN (c : Nat) : List Int := nw (bitB c) 8
theorem nd_len (c : Nat) : (ndN c).length = onesN c := rfl
theorem nd_lex {a b : Nat} (ha : a < 256) (hb : b < 256) (h : onesN a = onesN b) : lexI (ndN a) (ndN b) = decide (revN b < revN a) := by
  have h1 := nod_all ⟨a, ha⟩
  have h2 := nod_all ⟨b, hb⟩
  unfold onesN at h
  unfold ndN
  simp only at h1 h2
  rw [h1, h2] at h ⊢
  exact lex_revT a b 8 (by omega) h
theorem nd_bits {n c : Nat} (hn : n ≤ 8) (hc : c < 2 ^ n) : nw (bitB c) n = ndN c := by
  unfold ndN
  refine (nw_more hn fun k h1 _ => ?_).symm
  unfold bitB
  exact Nat.testBit_lt_two_pow (Nat.lt_of_lt_of_le hc (Nat.pow_le_pow_right (by decide) h1))
theorem pow_le {n : Nat} (hn : n ≤ 8) : 2 ^ n ≤ 256 := by have := Nat.pow_le_pow_right (show 0 < 2 by decide) hn; simpa using this
/-- what the model asks: is one set better than another one -/
theorem better_max {a b : Nat} (ha : a < 256) (hb : b < 256) : (decide (onesN b < onesN a) || (decide (onesN a = onesN b) && lexI (ndN a) (ndN b))) = decide (rkMax b < rkMax a) := by
  have h1 := rev_lt a
  have h2 := rev_lt b
  by_cases h : onesN a = onesN b
  · rw [nd_lex ha hb h, decide_eq_true h, Bool.true_and]
    unfold rkMax
    rw [h]
    simp
  · rw [decide_eq_false h, Bool.false_and, Bool.or_false, decide_eq_decide]
    unfold rkMax
    omega
theorem better_min {a b : Nat} (ha : a < 256) (hb : b < 256) : (decide (onesN a < onesN b) || (decide (onesN a = onesN b) && lexI (ndN a) (ndN b))) = decide (rkMin b < rkMin a) := by
  have h1 := rev_lt a
  have h2 := rev_lt b
  have h3 := ones_le a
  have h4 := ones_le b
  by_cases h : onesN a = onesN b
  · rw [nd_lex ha hb h, decide_eq_true h, Bool.true_and]
    unfold rkMin
    rw [h]
    simp
  · rw [decide_eq_false h, Bool.false_and, Bool.or_false, decide_eq_decide]
    unfold rkMin
    omega
theorem rkMax_inj {a b : Nat} (ha : a < 256) (hb : b < 256) (h : rkMax a = rkMax b) : a = b := by
  have h1 := rev_lt a
  have h2 := rev_lt b
  unfold rkMax at h
  have e : revN a = revN b := by omega
  have e1 := rev_rev ⟨a, ha⟩
  have e2 := rev_rev ⟨b, hb⟩
  simp only at e1 e2
  rw [← e1, ← e2, e]
theorem rkMin_inj {a b : Nat} (ha : a < 256) (hb : b < 256) (h : rkMin a = rkMin b) : a = b := by
  have h1 := rev_lt a
  have h2 := rev_lt b
  unfold rkMin at h
  have e : revN a = revN b := by omega
  have e1 := rev_rev ⟨a, ha⟩
  have e2 := rev_rev ⟨b, hb⟩
  simp only at e1 e2
  rw [← e1, ← e2, e]

theorem rk_step {u1 u2 u3 u4 u5 u6 : Nat} (h1 : u1 * 256 + u4 ≤ u2 * 256 + u5) (h2 : u5 < 256) (ho : u2 < u3) : u1 * 256 + u4 ≤ u3 * 256 + u6 := by
  have h3 := Nat.mul_le_mul_right 256 (Nat.succ_le_of_lt ho)
  rw [Nat.succ_mul] at h3
  exact Nat.le_trans h1 (Nat.le_trans (Nat.add_le_add_left (Nat.le_of_lt h2) _) (Nat.le_trans h3 (Nat.le_add_right _ _)))
/-- the best one of the first k sets of the list -/
def MaxTo (P : Nat → Bool) (L : List Nat) (k b : Nat) : Prop := (b = 0 ∨ b ∈ L.take k) ∧ P b = true ∧ ∀ c ∈ L.take k, P c = true → rkMax c ≤ rkMax b
theorem max_start {P : Nat → Bool} (L : List Nat) (h : P 0 = true) : MaxTo P L 0 0 := ⟨.inl rfl, h, fun c hc => by simp at hc⟩
theorem mem_take {L : List Nat} {k c x : Nat} (h : L[k]? = some c) : x ∈ L.take (k + 1) ↔ x ∈ L.take k ∨ x = c := by
  rw [List.take_add_one, h]; simp
theorem max_skip {P : Nat → Bool} {L : List Nat} {k b c : Nat} (h : MaxTo P L k b) (hc : L[k]? = some c) (hp : P c = false) : MaxTo P L (k + 1) b :=
  ⟨h.1.imp id fun m => (mem_take hc).2 (.inl m), h.2.1, fun x hx hpx => ((mem_take hc).1 hx).elim (fun m => h.2.2 x m hpx) fun e => by subst e; rw [hp] at hpx; cases hpx⟩
theorem max_take {P : Nat → Bool} {L : List Nat} {k b c : Nat} (h : MaxTo P L k b) (hc : L[k]? = some c) (hp : P c = true) (ho : onesN b < onesN c) : MaxTo P L (k + 1) c :=
  ⟨.inr ((mem_take hc).2 (.inr rfl)), hp, fun x hx hpx => ((mem_take hc).1 hx).elim (fun m => by
    have h1 := h.2.2 x m hpx
    have h2 := rev_lt b
    unfold rkMax at h1 ⊢
    exact rk_step h1 h2 ho) fun e => by subst e; exact Nat.le_refl _⟩
theorem max_less {P : Nat → Bool} {n m k b c : Nat} (hn : n ≤ 8) (hm : m ≤ 8) (h : MaxTo P (setsN n m) k b) (hc : (setsN n m)[k]? = some c) (ho : ¬ onesN b < onesN c) : MaxTo P (setsN n m) (k + 1) b :=
  ⟨h.1.imp id fun m => (mem_take hc).2 (.inl m), h.2.1, fun x hx hpx => ((mem_take hc).1 hx).elim (fun m => h.2.2 x m hpx) fun e => by
    subst e
    rcases h.1 with e | hb
    · subst e
      have hz : onesN 0 = 0 := by decide
      have hx8 := ((mem_sets hn hm).1 (List.mem_of_getElem? hc)).1
      have := ones_zero ⟨x, Nat.lt_of_lt_of_le hx8 (pow_le hn)⟩ (by show onesN x = 0; omega)
      simp only at this
      rw [this]; exact Nat.le_refl _
    · obtain ⟨i, hi⟩ := List.getElem?_of_mem hb
      have hik : i < k := by
        have := (List.getElem?_eq_some_iff.1 hi).1
        rw [List.length_take] at this; omega
      rw [List.getElem?_take_of_lt hik] at hi
      have hd := sets_down hn hm hik hi hc
      have h1 := ones_le b
      have h2 := ones_le x
      have h3 := rev_lt b
      have h4 := rev_lt x
      unfold rkMin at hd
      unfold rkMax
      omega⟩
/-- the best one of the sets with numbers less than k -/
def MaxC (P : Nat → Bool) (R : Nat → Nat) (n k b : Nat) : Prop := b < 2 ^ n ∧ P b = true ∧ ∀ c, c < k → P c = true → R c ≤ R b
theorem maxC_skip {P : Nat → Bool} {R : Nat → Nat} {n k b : Nat} (h : MaxC P R n k b) (hp : P k = false) : MaxC P R n (k + 1) b :=
  ⟨h.1, h.2.1, fun c hc hpc => by
    by_cases e : c = k
    · subst e; rw [hp] at hpc; cases hpc
    · exact h.2.2 c (by omega) hpc⟩
theorem maxC_less {P : Nat → Bool} {R : Nat → Nat} {n k b : Nat} (h : MaxC P R n k b) (hp : ¬ R b < R k) : MaxC P R n (k + 1) b :=
  ⟨h.1, h.2.1, fun c hc hpc => by
    by_cases e : c = k
    · subst e; omega
    · exact h.2.2 c (by omega) hpc⟩
theorem maxC_take {P : Nat → Bool} {R : Nat → Nat} {n k b : Nat} (h : MaxC P R n k b) (hk : k < 2 ^ n) (hp : P k = true) (hr : R b < R k) : MaxC P R n (k + 1) k :=
  ⟨hk, hp, fun c hc hpc => by
    by_cases e : c = k
    · subst e; exact Nat.le_refl _
    · have := h.2.2 c (by omega) hpc; omega⟩
/-- both are the same -/
theorem max_same {P : Nat → Bool} {n b d : Nat} (hn : n ≤ 8) (h : MaxTo P (setsN n n) (setsN n n).length b) (hd : MaxC P rkMax n (2 ^ n) d) : b = d := by
  have hall : ∀ c, c < 2 ^ n → c ∈ setsN n n := fun c hc => (mem_sets hn hn).2 ⟨hc, by
    have := nd_len c
    rw [← nd_bits hn hc] at this
    rw [← this]; exact nw_len _ _⟩
  have hp := pow_le hn
  have hb : b < 2 ^ n := by
    rcases h.1 with e | m
    · subst e; exact Nat.pow_pos (by decide)
    · exact ((mem_sets hn hn).1 (List.mem_of_mem_take m)).1
  have h1 := h.2.2 d (by rw [List.take_length]; exact hall d hd.1) hd.2.1
  have h2 := hd.2.2 b hb h.2.1
  exact rkMax_inj (by omega) (by have := hd.1; omega) (by omega)
/-- the first one in the list for which a test holds -/
theorem min_same {P : Nat → Bool} {n i b d : Nat} (hn : n ≤ 8) (hi : (setsN n n)[i]? = some b) (hp : P b = true) (hf : ∀ j c, j < i → (setsN n n)[j]? = some c → P c = false) (hd : MaxC P rkMin n (2 ^ n) d) : b = d := by
  have hpw := pow_le hn
  have hb := ((mem_sets hn hn).1 (List.mem_of_getElem? hi)).1
  have hdm : d ∈ setsN n n := (mem_sets hn hn).2 ⟨hd.1, by
    have := nd_len d
    rw [← nd_bits hn hd.1] at this
    rw [← this]; exact nw_len _ _⟩
  obtain ⟨j, hj⟩ := List.getElem?_of_mem hdm
  have h2 := hd.2.2 b hb hp
  by_cases e : j < i
  · have := hf j d e hj
    rw [hd.2.1] at this; cases this
  · by_cases e2 : i = j
    · subst e2; rw [hi] at hj; exact Option.some.inj hj
    · have := sets_down hn hn (show i < j by omega) hi hj
      omega
end Go.Proofs.Ytbbgbepemnmfdaa.ups

/- The contracts of bits.Len below 256 and of the program's setsUpTo. -/
namespace Go.Proofs.Ytbbgbepemnmfdaa.ups
open Go.RowKit P2 words edges ints good adjs fns sets rets covs bitsI
set_option linter.unusedVariables false

theorem len_is (D : ByteArray) (hD : (List.range 256).all (fun c => (D.data.getD c 0).toNat == lenN c) = true) (c : Nat) (hc : c < 256) (h : c < D.size) : wrap64 (wrap64 ((D[c]'h).toNat : Int)) = (lenN c : Int) := by
  have h1 := beq_iff_eq.1 (List.all_eq_true.1 hD c (List.mem_range.2 hc))
  have h2 : D.data.getD c 0 = D[c]'h := by
    show D.data.getD c 0 = D.data[c]'h
    have h' : c < D.data.size := h
    unfold Array.getD
    rw [dif_pos h']
    rfl
  rw [h2] at h1
  have h3 := len_le ⟨c, hc⟩
  simp only at h3
  have e : wrap64 (lenN c : Int) = (lenN c : Int) := Go.IntWalk.wrap64_in _ (by omega)
  rw [h1, e, e]
set_option maxHeartbeats 1000000 in
set_option maxRecDepth 100000 in
theorem len64_any (c : Nat) (w : World) (hc : c < 256) :
    Calls Try.prog 137 #[.int .u64 (c : Int)] w fun e w' => e = .returned (.int .i64 (lenN c : Int)) ∧ w = w' := by
  have h1 : ¬ (4294967296 : Int) ≤ (c : Int) := by omega
  have h2 : ¬ (65536 : Int) ≤ (c : Int) := by omega
  have h3 : ¬ (256 : Int) ≤ (c : Int) := by omega
  go_enter Try.func137, Try.ntmps137
  go_wp2_with fail
  go_ret
  exact ⟨ret_int (len_is _ (by kernel_rfl) c hc _), rfl⟩
theorem len_any (c : Nat) (w : World) (hc : c < 256) :
    Calls Try.prog 100 #[.int .u64 (c : Int)] w fun e w' => e = .returned (.int .i64 (lenN c : Int)) ∧ w = w' := by
  have HO := Lib.hid (len64_any c w hc)
  go_enter Try.func100, Try.ntmps100
  go_wp2_with fail
  refine HO.out.mono ?_
  rintro e w' ⟨rfl, rfl⟩
  go_wp2_with fail
  go_ret
  exact ⟨rfl, rfl⟩
/-- behind an append of one word -/
theorem pushU {w1 w2 : World} {B : Nat} {s v2 : Value} {m : List Nat} {x : Nat} {o : Obj} (hrow : w1.ownsRow B 60 1 s m.length (cellsU m)) (hown : w2.ownsRow B 60 1 v2 (m.length + 1) (cellsU m ++ [.int .u64 (x : Int)]))
    (hg : (w1.alloc o).drew.grownBy w2 s.ownBlock) (hB : B ≤ w1.heap.size) : w2.ownsRow B 60 1 v2 (m ++ [x]).length (cellsU (m ++ [x])) ∧ Below B w1 w2 :=
  ⟨by rw [show cellsU (m ++ [x]) = cellsU m ++ [.int .u64 (x : Int)] from by simp [cellsU], List.length_append]; exact hown, ((Below.refl B w1).alloc hB _).drew.grown hg (by simp; omega) (fun j e => (hrow.lt j e).1)⟩
theorem bfs_mem {n m f i c : Nat} {L F : List Nat} (h : L[i]? = some c) (he : L.take i ++ bfsN n m (f + 1) (L.drop i) = F) : c ∈ F := by
  obtain ⟨h1, h2⟩ := List.getElem?_eq_some_iff.1 h
  rw [List.drop_eq_getElem_cons h1, h2] at he
  unfold bfsN at he
  rw [← he]
  split <;> simp
theorem len_le_n : ∀ n : Fin 9, ∀ c : Fin 256, c.1 < 2 ^ n.1 → lenN c.1 ≤ n.1 := by decide +kernel
theorem keep_alU {w : World} {p : Addr} {v : Value} {o : Obj} (h : w.cell? p = some v) : (w.alloc o).cell? p = some v :=
  ((Below.refl w.heap.size w).alloc (Nat.le_refl _) o |>.cell (p := p) (World.block_lt_of_cell? w p h)).trans h
set_option maxHeartbeats 4000000 in
set_option maxRecDepth 100000 in
theorem setsUpTo_own (n m : Nat) (w : World) (hn : n ≤ 8) (hm : m ≤ 8) :
    Calls Try.prog 53 #[.int .i64 (n : Int), .int .i64 (m : Int)] w fun e w' => ∃ A c, e = .returned (.slice A (setsN n m).length c) ∧ w'.ownsRow w.heap.size 60 1 (.slice A (setsN n m).length c) (setsN n m).length (cellsU (setsN n m)) ∧ Below w.heap.size w w' := by
  obtain ⟨i0, hi, hz0, hz1, hz2⟩ := info_parts infoU
  have HCT := Lib.hid (fun (c : Nat) (W : World) (h : c < 256) => count_any c W h)
  have HLN := Lib.hid (fun (c : Nat) (W : World) (h : c < 256) => len_any c W h)
  have o0 := World.ownsRow_lit (base := w.heap.size) (e := 60) (size := 1) w #[.int .u64 0] 1 (Nat.le_refl _) (by unfold maxLen; omega) rfl
  have HO0 : Hid ((w.alloc (.cells #[.int .u64 0] 60)).ownsRow w.heap.size 60 1 (.slice (some ⟨w.heap.size, 0, none⟩) 1 1) [0].length (cellsU [0])) := o0
  have HB0 : Hid (Below w.heap.size w (w.alloc (.cells #[.int .u64 0] 60))) := (Below.refl _ _).alloc (Nat.le_refl _) _
  have hsl := sets_len hn hm
  have HF := Lib.hid (show ([0] : List Nat).take 0 ++ bfsN n m 300 (([0] : List Nat).drop 0) = setsN n m from rfl)
  have HMS := Lib.hid (fun c => (mem_sets (c := c) hn hm))
  clear o0
  go_enter Try.func53, Try.ntmps53
  go_wp2_with fail
  go_loopg [5, 6] 300 (fun g sv iv wr => ∃ (i : Nat) (L : List Nat) (ow : Value), ow = sv ∧ i + g = 300 ∧ iv = .int .i64 (i : Int) ∧ Hid (L.take i ++ bfsN n m g (L.drop i) = setsN n m) ∧ wr.ownsRow w.heap.size 60 1 ow L.length (cellsU L) ∧ Below w.heap.size w wr)
  case atStart => exact ⟨0, [0], _, rfl, rfl, rfl, HF, HO0.out, HB0.out⟩
  case round =>
    clear HF HO0 HB0
    obtain ⟨i, L, ow, rfl, hig, rfl, hf, hrow, hB⟩ := hrel
    obtain ⟨A4, c4, rfl⟩ := own_form hrow
    have hLl := bfs_len hf.out
    by_cases hlt : i < L.length
    · have hlt' : (i : Int) < (L.length : Int) := by omega
      cases gk with
      | zero => omega
      | succ g2 =>
        obtain ⟨c, hc⟩ : ∃ c, L[i]? = some c := ⟨_, List.getElem?_eq_getElem hlt⟩
        have hcm := (HMS.out c).1 (bfs_mem hc hf.out)
        have hc256 : c < 256 := Nat.lt_of_lt_of_le hcm.1 (pow_le hn)
        obtain ⟨_, _, hf4, hcc⟩ := (show Nums wr (.slice A4 L.length c4) L from Reads.of_own hrow).form
        cases hf4
        obtain ⟨g5, o5, rfl, c0⟩ := hcc i c hc
        clear hcc
        by_cases ho : onesN c < m
        · have ho' : (onesN c : Int) < (m : Int) := by omega
          have HFS := Lib.hid (bfs_step hc ho hf.out)
          have hln := len_le_n ⟨n, by omega⟩ ⟨c, hc256⟩ hcm.1
          simp only at hln
          have HX0 : Hid (wr.ownsRow w.heap.size 60 1 (.slice (some ⟨g5, o5, none⟩) L.length c4) (L ++ growT c (lenN c)).length (cellsU (L ++ growT c (lenN c)))) := by
            show World.ownsRow _ _ _ _ _ _ _
            rw [growT_zero c (Nat.le_refl _), List.append_nil]
            exact hrow
          have HB := Lib.hid hB
          have HC := Lib.hid hc
          have HLn := Lib.hid hLl
          clear hrow hB hcm hc
          go_wp2_with fail
          refine (HCT.out c _ hc256).mono ?_
          rintro e w' ⟨rfl, rfl⟩
          go_wp2_with fail
          refine (HLN.out c _ hc256).mono ?_
          rintro e w' ⟨rfl, rfl⟩
          clear c0
          go_wp2_with fail
          obtain ⟨wo, hwo⟩ : ∃ wo, wo = wr := ⟨_, rfl⟩
          subst hwo
          go_loopg [5, 7] (n - lenN c) (fun g sv xv wr => ∃ (x : Nat) (ow : Value), ow = sv ∧ x + g = n ∧ Hid (lenN c ≤ x) ∧ xv = .int .i64 (x : Int) ∧ wr.ownsRow w.heap.size 60 1 ow (L ++ growT c x).length (cellsU (L ++ growT c x)) ∧ Below w.heap.size w wr)
          case atStart => exact ⟨lenN c, _, rfl, by omega, Nat.le_refl _, rfl, HX0.out, HB.out⟩
          case round =>
            clear HX0 HB
            obtain ⟨x, ow, rfl, hxg, hxl, rfl, hrow, hB⟩ := hrel
            obtain ⟨A6, c6, rfl⟩ := own_form hrow
            cases gk with
            | zero =>
              obtain rfl : x = n := by omega
              have HR := Lib.hid hrow
              have HB := Lib.hid hB
              clear hrow hB
              go_wp2_with fail
              go_roundg g2
              case measure => omega
              case rel => exact ⟨i + 1, _, _, rfl, by omega, by go_num, HFS, HR.out, HB.out⟩
            | succ g3 =>
              have hxn : x < n := by omega
              have hxn' : (x : Int) < (n : Int) := by omega
              have hgl := growT_len c x
              have hLg : (L ++ growT c x).length ≤ 264 := by rw [List.length_append]; have := HLn.out; omega
              have hi2 : i < (L ++ growT c x).length := by rw [List.length_append]; omega
              have hi2' : (i : Int) < ((L ++ growT c x).length : Int) := by omega
              obtain ⟨_, _, hf4, hcc⟩ := (show Nums wr (.slice A6 (L ++ growT c x).length c6) (L ++ growT c x) from Reads.of_own hrow).form
              cases hf4
              obtain ⟨g7, o7, rfl, c0⟩ := hcc i c (by rw [List.getElem?_append_left (by omega)]; exact HC.out)
              have hor := or_walk c x hc256 (by omega)
              have HGS : Hid (L ++ growT c (x + 1) = (L ++ growT c x) ++ [c ||| 2 ^ x]) := by show _ = _; rw [growT_succ hxl.out, List.append_assoc]
              have HB := Lib.hid hB
              have HR := Lib.hid hrow
              have hsz := hB.size
              clear hcc hgl hB hrow
              generalize L ++ growT c x = M at *
              generalize c ||| 2 ^ x = z at *
              go_wp2_with fail
              refine wp_region_held_drew (S := (fun w' : World => w'.heap.size = 0 ∨ True)) (by kernel_rfl) (by (try dsimp only); simp [*]) (fun hHeld => ?_)
              change wpAnyH _ _ _ _ _ _ #[false, false, false, false, false, false, false, false, false, false, false] _ _
              refine wpAnyH_take (i := 0) (oi := ⟨some 34, _, _, _, _, _⟩) (v := ?_) rfl (by kernel_rfl) (by kernel_rfl) (by kernel_rfl) (fun _ _ _ h => h) (Or.inl ⟨by rfl, ?_⟩) (by assumption) ?_
              rotate_left
              · (intro w hSw; (try dsimp only at hSw); go_simp; (try (with_reducible rfl)))
              try simp only [Act.put, List.setIfInBounds_toArray, List.set_cons_zero, List.set_cons_succ]
              refine wpAnyH_take (i := 1) (oi := ⟨some 35, _, _, _, _, _⟩) (v := ?_) rfl (by kernel_rfl) (by kernel_rfl) (by kernel_rfl) (fun _ _ _ h => h) (Or.inl ⟨by rfl, ?_⟩) (by assumption) ?_
              rotate_left
              · (intro w hSw; (try dsimp only at hSw); go_simp; (try (with_reducible rfl)))
              try simp only [Act.put, List.setIfInBounds_toArray, List.set_cons_zero, List.set_cons_succ]
              refine wpAnyH_take (i := 2) (oi := ⟨some 36, _, _, _, _, _⟩) (v := ?_) rfl (by kernel_rfl) (by kernel_rfl) (by kernel_rfl) (fun _ _ _ h => h) (Or.inl ⟨by rfl, ?_⟩) (by assumption) ?_
              rotate_left
              · (intro w hSw; (try dsimp only at hSw); go_simp; (try (with_reducible rfl)))
              try simp only [Act.put, List.setIfInBounds_toArray, List.set_cons_zero, List.set_cons_succ]
              refine wpAnyH_take (i := 3) (oi := ⟨some 37, _, _, _, _, _⟩) (v := ?_) rfl (by kernel_rfl) (by kernel_rfl) (by kernel_rfl) (fun _ _ _ h => h) (Or.inl ⟨by rfl, ?_⟩) (by assumption) ?_
              rotate_left
              · (intro w hSw; (try dsimp only at hSw); go_simp; (try (with_reducible rfl)))
              try simp only [Act.put, List.setIfInBounds_toArray, List.set_cons_zero, List.set_cons_succ]
              refine wpAnyH_take (i := 5) (oi := ⟨some 39, _, _, _, _, _⟩) (v := ?_) rfl (by kernel_rfl) (by kernel_rfl) (by kernel_rfl) (fun _ _ _ h => h) (Or.inl ⟨by rfl, ?_⟩) (by assumption) ?_
              rotate_left
              · (intro w hSw; (try dsimp only at hSw); go_simp; (try (with_reducible rfl)))
              try simp only [Act.put, List.setIfInBounds_toArray, List.set_cons_zero, List.set_cons_succ]
              refine wpAnyH_take (i := 6) (oi := ⟨some 40, _, _, _, _, _⟩) (v := ?_) rfl (by kernel_rfl) (by kernel_rfl) (by kernel_rfl) (fun _ _ _ h => h) (Or.inl ⟨by rfl, ?_⟩) (by assumption) ?_
              rotate_left
              · (intro w hSw; (try dsimp only at hSw); go_simp; (try (with_reducible rfl)))
              try simp only [Act.put, List.setIfInBounds_toArray, List.set_cons_zero, List.set_cons_succ]
              refine wpAnyH_ready (rs := [4]) (by kernel_rfl) (by simp) ?_
              refine AllReadyH.cons rfl (fun K hK => ?_) AllReadyH.nil
              go_simp
              refine hK.out _ _ (Or.inr trivial) (fun hHeld => ?_)
              clear hK K
              try simp only [List.setIfInBounds_toArray, List.set_cons_zero, List.set_cons_succ]
              refine wpAnyH_take (i := 7) (oi := ⟨some 41, _, _, _, _, _⟩) (v := ?_) rfl (by kernel_rfl) (by kernel_rfl) (by kernel_rfl) (fun _ _ _ h => h) (Or.inl ⟨by rfl, ?_⟩) (by assumption) ?_
              rotate_left
              · (intro w hSw; (try dsimp only at hSw); go_simp; (try (with_reducible rfl)))
              try simp only [Act.put, List.setIfInBounds_toArray, List.set_cons_zero, List.set_cons_succ]
              refine wpAnyH_ready (rs := [8]) (by kernel_rfl) (by simp) ?_
              refine AllReadyH.cons rfl (fun K hK => ?_) AllReadyH.nil
              go_simp
              refine hK.out _ _ (Or.inr trivial) (fun hHeld => ?_)
              clear hK K
              try simp only [List.setIfInBounds_toArray, List.set_cons_zero, List.set_cons_succ]
              refine wpAnyH_ready (rs := [9]) (by kernel_rfl) (by simp) ?_
              refine AllReadyH.cons rfl (fun K hK => ?_) AllReadyH.nil
              (refine step_append_lies _ rfl (.tmp 34) (.tmp 42) 57 rfl w.heap.size 60 i0 (.int .u64 0) 1 8 Try.underlying57 hi hz0 hz1 hz2 rfl (by decide) (.slice (some ⟨g7, o7, none⟩) M.length c6) M.length (cellsU M) rfl (HR.out.alloc _) ⟨wr.heap.size, 0, none⟩ 1 1 [.int .u64 (z : Int)] rfl rfl (cell_one_new _ _ _) (fun x hx => by simp at hx; subst hx; rfl) (by decide) (by unfold maxLen; omega) (by omega) (by simp; omega) (wr.heap.size + 1) (by simp) ?_; intro g8 cap8 w8 hown8 hgrow8 lies8 lt8)
              refine hK.out _ _ (Or.inr trivial) (fun hHeld => ?_)
              clear hK K
              try simp only [Act.put, List.setIfInBounds_toArray, List.set_cons_zero, List.set_cons_succ]
              refine wpAnyH_take (i := 10) (oi := ⟨some 5, _, _, _, _, _⟩) (v := ?_) rfl (by kernel_rfl) (by kernel_rfl) (by kernel_rfl) (fun _ _ _ h => h) (Or.inl ⟨by rfl, ?_⟩) (by assumption) ?_
              rotate_left
              · (intro w hSw; (try dsimp only at hSw); go_simp; (try (with_reducible rfl)))
              try simp only [Act.put, List.setIfInBounds_toArray, List.set_cons_zero, List.set_cons_succ]
              refine wpAnyH_done (by kernel_rfl) ?_ _
              obtain ⟨hown9, hB9⟩ := pushU HR.out hown8 hgrow8 hsz
              rw [← HGS.out] at hown9
              have HO9 := Lib.hid hown9
              have HB9 := Lib.hid (HB.out.trans hB9)
              clear hown9 hB9 hown8 hgrow8 lies8 lt8 hHeld c0
              go_wp2_with fail
              go_roundg g3
              case measure => omega
              case rel => exact ⟨x + 1, _, rfl, by omega, Nat.le_succ_of_le hxl.out, by go_num, HO9.out, HB9.out⟩
        · have ho' : ¬ (onesN c : Int) < (m : Int) := by omega
          have HE := Lib.hid (bfs_full hc ho hf.out)
          have HR := Lib.hid hrow
          have HB := Lib.hid hB
          clear hrow hB hcm hc
          go_wp2_with fail
          refine (HCT.out c _ hc256).mono ?_
          rintro e w' ⟨rfl, rfl⟩
          go_wp2_with fail
          go_ret
          rw [← HE.out]
          exact ⟨_, _, rfl, HR.out, HB.out⟩
    · have hlt' : ¬ (i : Int) < (L.length : Int) := by omega
      have HE := Lib.hid (bfs_end (by omega) hf.out)
      have HR := Lib.hid hrow
      have HB := Lib.hid hB
      clear hrow hB
      go_wp2_with fail
      go_ret
      rw [← HE.out]
      exact ⟨_, _, rfl, HR.out, HB.out⟩
end Go.Proofs.Ytbbgbepemnmfdaa.ups

/- The best set for which a test holds, and slices.IndexFunc over sets as bits. -/
namespace Go.Proofs.Ytbbgbepemnmfdaa.ups
open Go.RowKit P2 words edges ints good adjs fns sets rets covs bitsI func
set_option linter.unusedVariables false

/-- the best one of all sets for which a test holds -/
noncomputable def bestC (P : Nat → Bool) (R : Nat → Nat) (n : Nat) : Nat := Classical.epsilon fun b => MaxC P R n (2 ^ n) b
theorem maxC_same {P : Nat → Bool} {R : Nat → Nat} {n b d : Nat} (hn : n ≤ 8) (hR : ∀ {a b}, a < 256 → b < 256 → R a = R b → a = b) (hb : MaxC P R n (2 ^ n) b) (hd : MaxC P R n (2 ^ n) d) : b = d := by
  have hp := pow_le hn
  have h1 := hb.2.2 d hd.1 hd.2.1
  have h2 := hd.2.2 b hb.1 hb.2.1
  exact hR (by have := hb.1; omega) (by have := hd.1; omega) (by omega)
theorem bestC_is {P : Nat → Bool} {R : Nat → Nat} {n b : Nat} (hn : n ≤ 8) (hR : ∀ {a b}, a < 256 → b < 256 → R a = R b → a = b) (hb : MaxC P R n (2 ^ n) b) : bestC P R n = b :=
  maxC_same hn hR (Classical.epsilon_spec (p := fun b => MaxC P R n (2 ^ n) b) ⟨b, hb⟩) hb
theorem ones_topN {n c : Nat} (hn : n ≤ 8) (hc : c < 2 ^ n) : onesN c ≤ n := by
  have := nd_len c
  rw [← nd_bits hn hc] at this
  rw [← this]; exact nw_len _ _
theorem mem_all {n c : Nat} (hn : n ≤ 8) : c ∈ setsN n n ↔ c < 2 ^ n := by
  rw [mem_sets hn hn]
  exact ⟨fun h => h.1, fun h => ⟨h, ones_topN hn h⟩⟩
theorem max_C {P : Nat → Bool} {n b : Nat} (hn : n ≤ 8) (h : MaxTo P (setsN n n) (setsN n n).length b) : MaxC P rkMax n (2 ^ n) b := by
  refine ⟨?_, h.2.1, fun c hc hpc => h.2.2 c (by rw [List.take_length]; exact (mem_all hn).2 hc) hpc⟩
  rcases h.1 with e | m
  · subst e; exact Nat.pow_pos (by decide)
  · exact (mem_all hn).1 (List.mem_of_mem_take m)
theorem min_C {P : Nat → Bool} {n i b : Nat} (hn : n ≤ 8) (hi : (setsN n n)[i]? = some b) (hp : P b = true) (hf : ∀ j c, j < i → (setsN n n)[j]? = some c → P c = false) : MaxC P rkMin n (2 ^ n) b := by
  refine ⟨(mem_all hn).1 (List.mem_of_getElem? hi), hp, fun c hc hpc => ?_⟩
  obtain ⟨j, hj⟩ := List.getElem?_of_mem ((mem_all hn).2 hc)
  by_cases e : j < i
  · have := hf j c e hj
    rw [hpc] at this; cases this
  · by_cases e2 : i = j
    · subst e2; rw [hi] at hj; cases hj; exact Nat.le_refl _
    · exact Nat.le_of_lt (sets_down hn hn (show i < j by omega) hi hj)
theorem idxF_some {α : Type} {p : α → Bool} {xs : List α} {x : α} (hx : x ∈ xs) (hp : p x = true) : ∃ i y, idxF p xs = ((i : Nat) : Int) ∧ xs[i]? = some y ∧ p y = true ∧ ∀ j z, j < i → xs[j]? = some z → p z = false := by
  cases h : xs.findIdx? p with
  | none => have := List.findIdx?_eq_none_iff.1 h x hx; rw [hp] at this; cases this
  | some i =>
    obtain ⟨h1, h2, h3⟩ := List.findIdx?_eq_some_iff_getElem.1 h
    refine ⟨i, xs[i], by unfold idxF; rw [h], List.getElem?_eq_getElem h1, h2, fun j z hj hz => ?_⟩
    obtain ⟨h4, h5⟩ := List.getElem?_eq_some_iff.1 hz
    have := h3 j hj
    rw [h5] at this
    simpa using this

/-- a function value that answers for the elements of a list of words, in every world that goes on from w -/
structure FnU (w : World) (f : FuncId) (caps : Array Value) (xs : List Nat) (p : Nat → Bool) : Prop where
  enter : ∀ (args : Array Value) (W : World), (callFunc f args).run Try.prog W = .ok (.enter f args) W
  call : ∀ W, Below w.heap.size w W → ∀ x ∈ xs, Calls Try.prog f (#[.int .u64 (x : Int)] ++ caps) W fun e W' => e = .returned (.bool (p x)) ∧ Below W.heap.size W W'
end Go.Proofs.Ytbbgbepemnmfdaa.ups

/- Spreads: mathematics. -/
namespace Go.Proofs.Ytbbgbepemnmfdaa.ups
open Go.RowKit P2 words edges ints good adjs fns sets rets covs bitsI bags
set_option linter.unusedVariables false

theorem ones_mono {a b : Nat} (h : ∀ k, k < 8 → bitB a k = true → bitB b k = true) : onesN a ≤ onesN b := by
  unfold onesN nw
  rw [List.length_map, List.length_map, ← List.countP_eq_length_filter, ← List.countP_eq_length_filter]
  exact List.countP_mono_left fun k hk => h k (List.mem_range.1 hk)
theorem ones_put' : ∀ d : Fin 256, ∀ x : Fin 8, d.1.testBit x.1 = false → onesN (d.1 ||| 2 ^ x.1) = onesN d.1 + 1 := by decide +kernel
theorem ones_put {d x : Nat} (hd : d < 256) (hx : x < 8) (h : d.testBit x = false) : onesN (d ||| 2 ^ x) = onesN d + 1 := ones_put' ⟨d, hd⟩ ⟨x, hx⟩ h
theorem put_bit (d x k : Nat) : (d ||| 2 ^ x).testBit k = (d.testBit k || decide (x = k)) := by rw [Nat.testBit_or, Nat.testBit_two_pow]
theorem put_same {d x : Nat} (h : d.testBit x = true) : d ||| 2 ^ x = d := by
  apply Nat.eq_of_testBit_eq
  intro k
  rw [put_bit]
  by_cases e : x = k
  · subst e; simp [h]
  · simp [e]
/-- how many nodes of a set are in the closed neighborhood of a node -/
def insN (l : List Ed) (c x : Nat) : Nat := onesN (cloB l x &&& c)
theorem ins_mono {l : List Ed} {c d : Nat} (h : ∀ k, c.testBit k = true → d.testBit k = true) (x : Nat) : insN l c x ≤ insN l d x :=
  ones_mono fun k _ hk => by
    unfold bitB at hk ⊢
    rw [Nat.testBit_and, Bool.and_eq_true] at hk ⊢
    exact ⟨hk.1, h k hk.2⟩
def AddS (n : Nat) (l : List Ed) (r d x : Nat) : Prop := x < n ∧ d.testBit x = false ∧ r ≤ insN l d x
inductive Spr (n : Nat) (l : List Ed) (r c : Nat) : Nat → Prop
  | base : Spr n l r c c
  | step {d x : Nat} : Spr n l r c d → AddS n l r d x → Spr n l r c (d ||| 2 ^ x)
def Stops (n : Nat) (l : List Ed) (r d : Nat) : Prop := ∀ x, ¬ AddS n l r d x
theorem spr_sub {n : Nat} {l : List Ed} {r c d : Nat} (h : Spr n l r c d) : ∀ k, c.testBit k = true → d.testBit k = true := by
  induction h with
  | base => exact fun _ h => h
  | step _ _ ih => exact fun k hk => by rw [put_bit, ih k hk]; rfl
theorem spr_lt {n : Nat} {l : List Ed} {r c d : Nat} (h : Spr n l r c d) (hc : c < 2 ^ n) : d < 2 ^ n := by
  induction h with
  | base => exact hc
  | step _ ha ih => exact Nat.or_lt_two_pow ih (Nat.pow_lt_pow_right (by decide) ha.1)
theorem spr_in {n : Nat} {l : List Ed} {r c d e : Nat} (h : Spr n l r c d) (he : Stops n l r e) (hs : ∀ k, c.testBit k = true → e.testBit k = true) : ∀ k, d.testBit k = true → e.testBit k = true := by
  induction h with
  | base => exact hs
  | @step d x _ ha ih =>
    intro k hk
    rw [put_bit, Bool.or_eq_true, decide_eq_true_iff] at hk
    rcases hk with hk | rfl
    · exact ih k hk
    · cases hb : e.testBit x with
      | true => rfl
      | false => exact absurd ⟨ha.1, hb, Nat.le_trans ha.2.2 (ins_mono ih x)⟩ (he x)
theorem spr_same {n : Nat} {l : List Ed} {r c d e : Nat} (hd : Spr n l r c d) (sd : Stops n l r d) (he : Spr n l r c e) (se : Stops n l r e) : d = e := by
  apply Nat.eq_of_testBit_eq
  intro k
  rw [Bool.eq_iff_iff]
  exact ⟨spr_in hd se (spr_sub he) k, spr_in he sd (spr_sub hd) k⟩
/-- the spread -/
noncomputable def spN (n : Nat) (l : List Ed) (r c : Nat) : Nat := Classical.epsilon fun d => Spr n l r c d ∧ Stops n l r d
theorem spN_is {n : Nat} {l : List Ed} {r c d : Nat} (hd : Spr n l r c d) (sd : Stops n l r d) : spN n l r c = d := by
  have h := Classical.epsilon_spec (p := fun d => Spr n l r c d ∧ Stops n l r d) ⟨d, hd, sd⟩
  exact spr_same h.1 h.2 hd sd
/-- a set has all nodes -/
theorem ones_full : ∀ n : Fin 9, ∀ d : Fin 256, d.1 < 2 ^ n.1 → (onesN d.1 = n.1 ↔ d.1 = 2 ^ n.1 - 1) := by decide +kernel
theorem ones_top : ∀ n : Fin 9, ∀ d : Fin 256, d.1 < 2 ^ n.1 → onesN d.1 ≤ n.1 := by decide +kernel
theorem full_stops {n : Nat} {l : List Ed} {r d : Nat} (h : d = 2 ^ n - 1) : Stops n l r d := fun x hx => by
  have h2 := hx.2.1
  rw [h, Nat.testBit_two_pow_sub_one, decide_eq_false_iff_not] at h2
  exact h2 hx.1
/-- the neighbors of a node that are in a set without it -/
theorem ins_len {n : Nat} {l : List Ed} {d x : Nat} (hg : P2.Good (n : Int) l) (hn : n ≤ 8) (hd : d < 2 ^ n) (hx : d.testBit x = false) : (nw (fun y => bitB d y && adj l (y : Int) (x : Int)) n).length = insN l d x := by
  unfold insN onesN
  rw [nw_congr (q := bitB (cloB l x &&& d)) (n := n) (fun k hk => by
    unfold bitB
    rw [Nat.testBit_and, cloB_bit hg, adj_comm, Bool.and_comm]
    by_cases e : x = k
    · subst e; rw [hx]; simp
    · have : (x == k) = false := by simpa using e
      rw [this, Bool.false_or])]
  rw [nw_more hn fun k h1 _ => ?_]
  unfold bitB
  rw [Nat.testBit_and, Nat.testBit_lt_two_pow (Nat.lt_of_lt_of_le hd (Nat.pow_le_pow_right (by decide) h1)), Bool.and_false]
/-- neighbors of a node of a set that are not in it -/
theorem out_len {n : Nat} {l : List Ed} {d x : Nat} (hg : P2.Good (n : Int) l) (hn : n ≤ 8) (hx : d.testBit x = true) (q : Nat → Bool) (hq : ∀ z, z < n → q z = ((cloB l x).testBit z && !d.testBit z)) : (nw (fun y => adj l (x : Int) (y : Int)) n).length = (nw (fun y => bitB d y && adj l (y : Int) (x : Int)) n).length + onesN (numOf q n) := by
  rw [ones_num _ hn]
  rw [nw_congr (p := q) (q := fun y => !bitB d y && adj l (y : Int) (x : Int)) (fun k hk => by
    rw [hq k hk, cloB_bit hg, adj_comm, Bool.and_comm]
    unfold bitB
    by_cases e : x = k
    · subst e; rw [hx]; simp
    · have : (x == k) = false := by simpa using e
      rw [this, Bool.false_or])]
  unfold nw
  rw [List.length_map, List.length_map, List.length_map, ← List.countP_eq_length_filter, ← List.countP_eq_length_filter, ← List.countP_eq_length_filter]
  have h := List.countP_eq_countP_filter_add (List.range n) (fun y : Nat => adj l (x : Int) (y : Int)) (bitB d)
  rw [h, List.countP_filter, List.countP_filter]
  congr 1
  · congr 1; funext y; rw [adj_comm, Bool.and_comm]
  · congr 1; funext y; rw [adj_comm, Bool.and_comm]
end Go.Proofs.Ytbbgbepemnmfdaa.ups

/- DegeneracyOf: mathematics, and the contract of the program's function. -/
namespace Go.Proofs.Ytbbgbepemnmfdaa.ups
open Go.RowKit P2 words edges ints good adjs fns sets rets covs bags bitsI func
set_option linter.unusedVariables false

/-- the degree of a node in a set that has it -/
def dgN (l : List Ed) (c x : Nat) : Int := (onesN (cloB l x &&& c) : Int) - 1
/-- the least degree of the first k nodes of a set -/
def dgK (l : List Ed) (n c : Nat) : Nat → Int
  | 0 => (n : Int)
  | k + 1 => min (dgK l n c k) (dgN l c ((ndN c).getD k 0).toNat)
theorem dgK_succ {l : List Ed} {n c k x : Nat} (h : (ndN c)[k]? = some (x : Int)) : dgK l n c (k + 1) = min (dgK l n c k) (dgN l c x) := by
  show min _ (dgN l c ((ndN c).getD k 0).toNat) = _
  rw [List.getD_eq_getElem?_getD, h]
  rfl
theorem dgN_le (l : List Ed) (c x : Nat) : -1 ≤ dgN l c x ∧ dgN l c x ≤ 7 := by
  have := ones_le (cloB l x &&& c)
  unfold dgN
  omega
theorem dgK_le {l : List Ed} {n c : Nat} (hn : n ≤ 8) : ∀ k, -1 ≤ dgK l n c k ∧ dgK l n c k ≤ 8
  | 0 => by unfold dgK; omega
  | k + 1 => by
    have h1 := dgK_le (l := l) (c := c) hn k
    have h2 := dgN_le l c ((ndN c).getD k 0).toNat
    unfold dgK
    omega
def dgF (l : List Ed) (n c : Nat) : Int := dgK l n c (ndN c).length
/-- the greatest one over some sets, and at least -1 -/
def GrS (l : List Ed) (n : Nat) (S : Nat → Prop) (v : Int) : Prop := (v = -1 ∨ ∃ c, S c ∧ dgF l n c = v) ∧ -1 ≤ v ∧ ∀ c, S c → dgF l n c ≤ v
theorem GrS.same {l : List Ed} {n : Nat} {S : Nat → Prop} {u v : Int} (h : GrS l n S u) (k : GrS l n S v) : u = v := by
  obtain ⟨h1, h2, h3⟩ := h
  obtain ⟨k1, k2, k3⟩ := k
  have a : u ≤ v := by
    rcases h1 with rfl | ⟨c, hc, rfl⟩
    · exact k2
    · exact k3 c hc
  have b : v ≤ u := by
    rcases k1 with rfl | ⟨c, hc, rfl⟩
    · exact h2
    · exact h3 c hc
  omega
theorem GrS.next {l : List Ed} {n : Nat} {S T : Nat → Prop} {v : Int} {c : Nat} (h : GrS l n S v) (hT : ∀ x, T x ↔ S x ∨ x = c) : GrS l n T (max v (dgF l n c)) := by
  obtain ⟨h1, h2, h3⟩ := h
  refine ⟨?_, by omega, fun x hx => ?_⟩
  · by_cases hle : v ≤ dgF l n c
    · exact .inr ⟨c, (hT c).2 (.inr rfl), (Int.max_eq_right hle).symm⟩
    · rw [Int.max_eq_left (by omega)]
      exact h1.imp id fun ⟨d, hd, e⟩ => ⟨d, (hT d).2 (.inl hd), e⟩
  · rcases (hT x).1 hx with hx | rfl
    · have := h3 x hx; omega
    · omega
theorem GrS.congr {l : List Ed} {n : Nat} {S T : Nat → Prop} {v : Int} (h : GrS l n S v) (e : ∀ x, S x ↔ T x) : GrS l n T v :=
  ⟨h.1.imp id fun ⟨c, hc, hv⟩ => ⟨c, (e c).1 hc, hv⟩, h.2.1, fun c hc => h.2.2 c ((e c).2 hc)⟩
def AllS (n c : Nat) : Prop := 1 ≤ c ∧ c < 2 ^ n
noncomputable def dgyN (l : List Ed) (n : Nat) : Int := Classical.epsilon fun v => GrS l n (AllS n) v
theorem dgyN_is {l : List Ed} {n : Nat} {v : Int} (h : GrS l n (AllS n) v) : dgyN l n = v :=
  (Classical.epsilon_spec (p := fun v => GrS l n (AllS n) v) ⟨v, h⟩).same h
noncomputable def dgyV (s : Int) (l : List Ed) : Int := szG (P2.Good s l) (dgyN l s.toNat)
theorem tail_mem {n : Nat} (hn : n ≤ 8) {c : Nat} : c ∈ (setsN n n).drop 1 ↔ AllS n c := by
  have h0 := sets_first hn hn
  have hd : setsN n n = 0 :: (setsN n n).drop 1 := by
    obtain ⟨h1, h2⟩ := List.getElem?_eq_some_iff.1 h0
    have := List.drop_eq_getElem_cons h1
    rw [List.drop_zero, h2] at this
    exact this
  constructor
  · intro h
    obtain ⟨j, hj⟩ := List.getElem?_of_mem h
    rw [List.getElem?_drop] at hj
    have hlt := (mem_all hn).1 (List.mem_of_getElem? hj)
    refine ⟨?_, hlt⟩
    by_cases e : c = 0
    · subst e
      have := sets_down hn hn (show 0 < 1 + j by omega) h0 hj
      omega
    · omega
  · intro h
    have hm : c ∈ setsN n n := (mem_all hn).2 h.2
    rw [hd] at hm
    rcases List.mem_cons.1 hm with e | hm
    · have := h.1; omega
    · exact hm
set_option maxHeartbeats 4000000 in
set_option maxRecDepth 100000 in
theorem implDgy_any (s : Int) (v : Value) (l : List Ed) (w : World) (h : Edges w v l) (hl : l.length ≤ 1048576) :
    Calls Try.prog 23 #[.agg #[.int .i64 s, v]] w fun e w' => e = .returned (.tuple #[.int .i64 (dgyV s l), .bool (goodB s l)]) ∧ Below w.heap.size w w' := by
  obtain ⟨A, c, rfl, -⟩ := h.form
  have H := Lib.hid h
  have b0 : Below w.heap.size w (w.alloc (.cells #[.int .i64 s, .slice A l.length c] 29)) := (Below.refl _ _).alloc (Nat.le_refl _) _
  have g0 := Blk.new w 29 #[.int .i64 s, .slice A l.length c]
  obtain ⟨p0, p1, -, -⟩ := g0.two
  have HG := Lib.hid (implIsGraph_any s _ l _ (h.below b0) hl)
  have HB0 := Lib.hid b0
  have HG0 := Lib.hid g0
  clear h b0 g0
  by_cases hgd : P2.Good s l
  · rw [goodB_yes hgd] at HG ⊢
    have h0 := hgd.1
    have h8 := hgd.2.1
    obtain ⟨n, rfl⟩ : ∃ n : Nat, s = (n : Int) := ⟨s.toNat, by omega⟩
    have hn : n ≤ 8 := by omega
    have HV : Hid (dgyV (n : Int) l = dgyN l n) := by show _ = _; unfold dgyV; rw [szG_yes hgd, Int.toNat_natCast]
    have HOK := Lib.hid hgd
    have HSU := Lib.hid (fun (W : World) => setsUpTo_own n n W hn hn)
    have HCT := Lib.hid (fun (d : Nat) (hd : d < 256) (W : World) => count_any d W hd)
    have hsl := sets_len hn hn
    have hs1 : 1 ≤ (setsN n n).length := by have := (List.getElem?_eq_some_iff.1 (sets_first hn hn)).1; omega
    have HTM := Lib.hid (fun (c : Nat) => tail_mem (n := n) (c := c) hn)
    have HPW := Lib.hid (pow_le hn)
    have HIS := Lib.hid (fun (v : Int) (h : GrS l n (AllS n) v) => dgyN_is h)
    clear hgd
    go_enter Try.func23, Try.ntmps23
    go_wp2_with fail
    refine HG.out.mono ?_
    rintro e w1 ⟨rfl, b1⟩
    have HE1 := Lib.hid (btrans HB0.out b1)
    have HG1 := Lib.hid (HG0.out.below b1 HG0.out.lt)
    clear p0 p1 b1 HG HB0 HG0
    obtain ⟨p0, p1, -, -⟩ := HG1.out.two
    have HCB := Lib.hid (closedBits_any n (.slice A l.length c) l w1 (H.out.below HE1.out) hl HOK.out hn)
    go_wp2_with fail
    refine HCB.out.mono ?_
    rintro e w2 ⟨A3, c3, rfl, i3, b3⟩
    have HE2 := Lib.hid (btrans HE1.out b3)
    have HG2 := Lib.hid (HG1.out.below b3 HG1.out.lt)
    have HI2 := Lib.hid i3
    clear p0 p1 b3 i3 HCB HE1 HG1
    obtain ⟨p0, p1, -, -⟩ := HG2.out.two
    go_wp2_with fail
    refine (HSU.out w2).mono ?_
    rintro e w4 ⟨A5, c5, rfl, o5, b5⟩
    have HE4 := Lib.hid (btrans HE2.out b5)
    have HG4 := Lib.hid (HG2.out.below b5 HG2.out.lt)
    have HI4 := Lib.hid (HI2.out.below b5)
    have hRd := apps.Reads.drop (k := 1) (Reads.of_own o5) hs1
    rw [show (cellsU (setsN n n)).drop (1 * 1) = cellsU ((setsN n n).drop 1) from by simp [cellsU]] at hRd
    obtain ⟨g5, rfl, hc5⟩ : ∃ g5, A5 = some ⟨g5, 0, none⟩ ∧ (setsN n n).length ≤ c5 := by
      rcases o5.2 with ⟨_, h1⟩ | ⟨g, cap, cur, h1, _, _, h2⟩
      · omega
      · cases h1; exact ⟨g, rfl, by omega⟩
    have HDM : Hid (∀ c, c ∈ (setsN n n).drop 1 → c < 2 ^ n) := fun c hc => ((HTM.out c).1 hc).2
    have HDA : Hid (∀ G, GrS l n (fun c => c ∈ ((setsN n n).drop 1).take ((setsN n n).drop 1).length) G → dgyN l n = G) := fun G hG => HIS.out G (hG.congr fun c => by
      rw [List.take_length]; exact HTM.out c)
    have HDL : Hid (((setsN n n).drop 1).length = (setsN n n).length - 1) := by show _ = _; simp
    have HG00 : Hid (GrS l n (fun c => c ∈ ((setsN n n).drop 1).take 0) (-1)) := ⟨.inl rfl, Int.le_refl _, fun c hc => by simp at hc⟩
    obtain ⟨m, hm⟩ : ∃ m, (setsN n n).length = m + 1 := ⟨(setsN n n).length - 1, by omega⟩
    rw [hm] at hRd hc5 HDL ⊢
    rw [Nat.add_sub_cancel] at hRd HDL
    have hm8 : m ≤ 256 := by omega
    clear o5 hsl hs1 hm p0 p1 HG2 HE2 HI2 b5
    generalize (setsN n n).drop 1 = D at *
    obtain ⟨p0, p1, -, -⟩ := HG4.out.two
    by_cases hc1 : c5 = 1
    · obtain rfl : m = 0 := by omega
      subst hc1
      have HVV : Hid (dgyN l n = -1) := HDA.out _ (by rw [HDL.out]; exact HG00.out)
      clear hRd
      go_wp2_with fail
      go_loopg [5, 23] 0 (fun g gv iv wr => g = 0 ∧ gv = .int .i64 (-1) ∧ iv = .int .i64 0 ∧ wr = w4)
      case atStart => exact ⟨rfl, rfl, rfl, rfl⟩
      case round =>
        obtain ⟨rfl, rfl, rfl, rfl⟩ := hrel
        go_wp2_with fail
        go_ret2
        rw [HV.out, HVV.out]
        exact ⟨rfl, HE4.out⟩
    · have hc2 : ¬ c5 - 1 = 0 := by omega
      rw [if_neg hc1] at hRd
      have hRN : Nums w4 (.slice (some ⟨g5, 1, none⟩) D.length (c5 - 1)) D := by
        show Reads _ _ _ _ _
        rw [HDL.out]
        have e : Option.map (fun x : Addr => x.add (1 * 1)) (some ⟨g5, 0, none⟩) = some ⟨g5, 1, none⟩ := by
          show some ((⟨g5, 0, none⟩ : Addr).add 1) = _
          unfold Addr.add; split <;> simp_all
        rw [e] at hRd
        exact hRd
      obtain ⟨_, _, hfD, hccD⟩ := hRN.form
      cases hfD
      have HCD : Hid (∀ (k x : Nat), D[k]? = some x → w4.cell? ⟨g5, 1 + k, none⟩ = some (.int .u64 (x : Int))) := fun k x hk => by
        obtain ⟨g, o, e, hcell⟩ := hccD k x hk
        cases e
        exact hcell
      clear hRd hRN hccD
      go_wp2_with fail

      go_loopg [5, 23] m (fun g gv iv wr => ∃ (k : Nat) (G : Int), k + g = m ∧ gv = .int .i64 G ∧ iv = .int .i64 (k : Int) ∧ Hid (GrS l n (fun c => c ∈ D.take k) G) ∧ Hid (-1 ≤ G ∧ G ≤ 8) ∧ Blk wr w.heap.size 29 #[.int .i64 (n : Int), .slice A l.length c] ∧ Below w4.heap.size w4 wr)
      case atStart => exact ⟨0, -1, by omega, rfl, rfl, HG00, by show _ ∧ _; omega, HG4.out, Below.refl _ _⟩
      case round =>
        clear HG00 HG4 p0 p1
        obtain ⟨k, G, hkg, rfl, rfl, hgs, hGb, hgb, hB⟩ := hrel
        have HB := Lib.hid hB
        have HGB := Lib.hid hgb
        obtain ⟨p0, p1, -, -⟩ := hgb.two
        cases gk with
        | zero =>
          obtain rfl : k = m := by omega
          have HVV : Hid (dgyN l n = G) := HDA.out _ (by rw [HDL.out]; exact hgs.out)
          clear hB hgb
          go_wp2_with fail
          go_ret2
          rw [HV.out, HVV.out]
          exact ⟨rfl, btrans HE4.out HB.out⟩
        | succ g2 =>
          have hlt : k < m := by omega
          have hlt' : (k : Int) < (m : Int) := by omega
          obtain ⟨c, hc⟩ : ∃ c, D[k]? = some c := ⟨_, List.getElem?_eq_getElem (by have := HDL.out; omega)⟩
          have HCN := Lib.hid (HDM.out c (List.mem_of_getElem? hc))
          have hc256 : c < 256 := Nat.lt_of_lt_of_le HCN.out HPW.out
          have q5 := nearv.cell_keep (HCD.out k c hc) hB
          have HND := Lib.hid (nodes_any c wr (by omega))
          have HNX : Hid (GrS l n (fun x => x ∈ D.take (k + 1)) (max G (dgF l n c))) := hgs.out.next fun x => by
            rw [List.take_add_one, hc]; simp
          have HMM : Hid (∀ j y, (ndN c)[j]? = some y → ∃ x : Nat, y = (x : Int) ∧ x < n) := fun j y hy => by
            have := List.mem_of_getElem? hy
            rw [← nd_bits hn HCN.out] at this
            obtain ⟨x, hx, _, rfl⟩ := mem_nw.1 this
            exact ⟨x, rfl, hx⟩
          have hMl := nw_len (bitB c) 8
          have HKL := Lib.hid (fun j => dgK_le (l := l) (n := n) (c := c) hn j)
          have HSUC := Lib.hid (fun (j x : Nat) (h : (ndN c)[j]? = some (x : Int)) => dgK_succ (l := l) (n := n) h)
          have HDF : Hid (dgF l n c = dgK l n c (ndN c).length) := rfl
          have hnd : nw (bitB c) 8 = ndN c := rfl
          rw [hnd] at HND hMl
          clear hc hB hgb hnd hgs
          generalize ndN c = M at *
          go_wp2_with fail
          refine HND.out.mono ?_
          rintro e w6 ⟨A6, c6, rfl, o6, b6⟩
          have HB6 := Lib.hid (HB.out.trans (b6.mono HB.out.size))
          have HGB6 := Lib.hid (HGB.out.below b6 HGB.out.lt)
          obtain ⟨_, _, hf6, hcc6⟩ := (show Ints w6 (.slice A6 M.length c6) M from Reads.of_own o6).form
          cases hf6
          have HC6 := Lib.hid hcc6
          have HI6 := Lib.hid (HI4.out.below HB6.out)
          clear o6 b6 hcc6 q5 p0 p1
          go_wp2_with fail
          obtain ⟨wo, hwo⟩ : ∃ wo, wo = wr := ⟨_, rfl⟩
          go_loopg [8, 32] M.length (fun g fv jv wr => ∃ (j : Nat), j + g = M.length ∧ fv = .int .i64 (dgK l n c j) ∧ jv = .int .i64 (j : Int) ∧ Below w6.heap.size w6 wr)
          case atStart => exact ⟨0, by omega, rfl, rfl, Below.refl _ _⟩
          case round =>
            obtain ⟨j, hjg, rfl, rfl, hB⟩ := hrel
            have HB7 := Lib.hid hB
            have hkl := HKL.out j
            cases gk with
            | zero =>
              obtain rfl : j = M.length := by omega
              have HB8 := Lib.hid (HB6.out.trans (hB.mono HB6.out.size))
              have HGB8 := Lib.hid (HGB6.out.below hB HGB6.out.lt)
              rw [HDF.out] at HNX
              clear hB
              generalize dgK l n c M.length = f9 at *
              have hGb2 := hGb.out
              go_wp2_with fail
              all_goals
                go_roundg g2
                case measure => omega
                case rel => exact ⟨k + 1, max G f9, by omega, by congr 1; omega, by go_num, HNX, by show _ ∧ _; omega, HGB8.out, HB8.out⟩
            | succ g3 =>
              have hjl : j < M.length := by omega
              have hjl' : (j : Int) < (M.length : Int) := by omega
              obtain ⟨y, hy⟩ : ∃ y, M[j]? = some y := ⟨_, List.getElem?_eq_getElem hjl⟩
              obtain ⟨x, rfl, hxn⟩ := HMM.out j y hy
              have hxn' : (x : Int) < (n : Int) := by omega
              obtain ⟨g9, o9, rfl, c9⟩ := HC6.out j _ hy
              have q9 := nearv.cell_keep c9 hB
              have hI7 := HI6.out.below hB
              obtain ⟨_, _, hf8, hcc8⟩ := (show Nums wr (.slice A3 (clos l n).length c3) (clos l n) from hI7).form
              cases hf8
              obtain ⟨g8, o8, rfl, q8⟩ := hcc8 x _ (clos_at hxn)
              have hclen : (clos l n).length = n := clos_len l n
              have hxc : (x : Int) < ((clos l n).length : Int) := by rw [hclen]; exact hxn'
              have hab := cloB_lt' HOK.out x (by omega)
              have hand := bits_and_u64_nat (cloB l x) c (by omega) (by omega)
              have hac : cloB l x &&& c < 256 := Nat.lt_of_le_of_lt Nat.and_le_right hc256
              have HCC := Lib.hid (HCT.out (cloB l x &&& c) hac)
              have HS1 := Lib.hid (HSUC.out j x hy)
              have HDG : Hid (dgN l c x = (onesN (cloB l x &&& c) : Int) - 1) := rfl
              have hol := ones_le (cloB l x &&& c)
              clear hcc8 hI7 hclen hab hac hy c9 hB
              generalize onesN (cloB l x &&& c) = o1 at *
              generalize cloB l x &&& c = y1 at *
              generalize cloB l x = y2 at *
              generalize dgK l n c j = f0 at *
              go_wp2_with fail
              refine (HCC.out _).mono ?_
              rintro e w' ⟨rfl, rfl⟩
              go_wp2_with fail
              all_goals
                go_roundg g3
                case measure => omega
                case rel => exact ⟨j + 1, by omega, by rw [HS1.out, HDG.out]; congr 1; omega, by go_num, HB7.out⟩
  · rw [goodB_no hgd] at HG ⊢
    have HV : Hid (dgyV s l = 0) := szG_no hgd _
    clear hgd
    go_enter Try.func23, Try.ntmps23
    go_wp2_with fail
    refine HG.out.mono ?_
    rintro e w1 ⟨rfl, b1⟩
    have HE1 := Lib.hid (btrans HB0.out b1)
    clear p0 p1 b1
    go_wp2_with fail
    go_ret2
    rw [HV.out]
    exact ⟨rfl, HE1.out⟩
end Go.Proofs.Ytbbgbepemnmfdaa.ups
