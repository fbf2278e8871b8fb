/- To which lists cops can move: plain mathematics. It imports nothing of the program. -/
import Derived.Test.YtdhbaegkogklgaaDoorK13
import Derived.Handy
import Derived.Test.YtdhbaegkogklgaaDoorK11
import Derived.Test.YtdhbaegkogklgaaDoorK10
import Derived.Test.YtdhbaegkogklgaaDoorK03
import Derived.Test.YtdhbaegkogklgaaDoorK02
import Derived.Test.YtdhbaegkogklgaaDoorK05
import Derived.Deep.DeepCutAuto
import Derived.Maps.AppendAt
import Derived.Lib.TrailingZeros
import Derived.Test.YtdhbaegkogklgaaDoorK06
namespace Go.Proofs.YtdhbaegkogklgaaDoor.lists
set_option linter.unusedVariables false

/-- the nodes of a list whose indices are not used -/
def restL (L : List Nat) (c : Nat) : List Nat := ((List.range L.length).filter fun i => !c.testBit i).map fun i => L.getD i 0
def canN (b : Nat → Nat → Bool) : List Nat → List Nat → Nat → Bool
  | [], _, _ => true
  | x :: cs, L, c => (List.range L.length).any fun i => !c.testBit i && (b x (L.getD i 0) && canN b cs L (c ||| 2 ^ i))
def fits (b : Nat → Nat → Bool) : List Nat → List Nat → Prop
  | [], [] => True
  | x :: cs, y :: t => b x y = true ∧ fits b cs t
  | _, _ => False
theorem bit_or (c i j : Nat) : (c ||| 2 ^ i).testBit j = (c.testBit j || decide (i = j)) := by
  rw [Nat.testBit_or, Nat.testBit_two_pow]
theorem rest_take {L : List Nat} {c i : Nat} (hi : i < L.length) (hc : c.testBit i = false) : (restL L c).Perm (L.getD i 0 :: restL L (c ||| 2 ^ i)) := by
  have hn : ((List.range L.length).filter fun i => !c.testBit i).Nodup := List.Pairwise.filter _ List.nodup_range
  have hm : i ∈ (List.range L.length).filter fun i => !c.testBit i := List.mem_filter.2 ⟨List.mem_range.2 hi, by rw [hc]; rfl⟩
  have h := List.perm_cons_erase hm
  rw [List.Nodup.erase_eq_filter hn, List.filter_filter] at h
  have h2 := h.map fun i => L.getD i 0
  rw [List.map_cons] at h2
  have e : (List.range L.length).filter (fun a => (a != i) && !c.testBit a) = (List.range L.length).filter fun j => !(c ||| 2 ^ i).testBit j := by
    refine List.filter_congr fun j _ => ?_
    rw [bit_or]
    by_cases hij : i = j
    · subst hij; simp
    · have : (j != i) = true := by simp; exact fun e => hij e.symm
      rw [this]; simp [hij]
  rw [e] at h2
  exact h2
theorem can_iff {b : Nat → Nat → Bool} {L : List Nat} : ∀ (cs : List Nat) (c : Nat), canN b cs L c = true ↔ ∃ t r, fits b cs t ∧ (t ++ r).Perm (restL L c)
  | [], c => ⟨fun _ => ⟨[], restL L c, trivial, List.Perm.refl _⟩, fun _ => rfl⟩
  | x :: cs, c => by
    show ((List.range L.length).any _) = true ↔ _
    rw [List.any_eq_true]
    constructor
    · rintro ⟨i, hi, h⟩
      rw [Bool.and_eq_true, Bool.and_eq_true] at h
      obtain ⟨h1, h2, h3⟩ := h
      obtain ⟨t, r, ht, hp⟩ := (can_iff cs _).1 h3
      exact ⟨L.getD i 0 :: t, r, ⟨h2, ht⟩, (List.Perm.cons _ hp).trans (rest_take (List.mem_range.1 hi) (by simpa using h1)).symm⟩
    · rintro ⟨t, r, ht, hp⟩
      cases t with
      | nil => exact absurd ht (by simp [fits])
      | cons y t =>
        have hy : y ∈ restL L c := hp.mem_iff.1 List.mem_cons_self
        obtain ⟨i, hi, rfl⟩ := List.mem_map.1 hy
        obtain ⟨h1, h2⟩ := List.mem_filter.1 hi
        have h3 : c.testBit i = false := by simpa using h2
        refine ⟨i, h1, ?_⟩
        rw [Bool.and_eq_true, Bool.and_eq_true]
        exact ⟨h2, ht.1, (can_iff cs _).2 ⟨t, r, ht.2, (List.perm_cons _).1 (hp.trans (rest_take (List.mem_range.1 h1) h3))⟩⟩
theorem fits_len {b : Nat → Nat → Bool} : ∀ {cs t : List Nat}, fits b cs t → t.length = cs.length
  | [], [], _ => rfl
  | x :: cs, y :: t, h => by simp [fits_len h.2]
  | [], y :: t, h => absurd h (by simp [fits])
  | x :: cs, [], h => absurd h (by simp [fits])
theorem rest_zero (L : List Nat) : restL L 0 = L := by
  unfold restL
  rw [List.filter_eq_self.2 (fun i _ => by simp)]
  apply List.ext_getElem?
  intro i
  by_cases h : i < L.length
  · simp [h]
  · rw [List.getElem?_eq_none (by simp; omega), List.getElem?_eq_none (by omega)]
theorem can_move {b : Nat → Nat → Bool} {cs L : List Nat} (h : L.length = cs.length) : canN b cs L 0 = true ↔ ∃ t, fits b cs t ∧ t.Perm L := by
  rw [can_iff, rest_zero]
  constructor
  · rintro ⟨t, r, ht, hp⟩
    have h1 := hp.length_eq
    rw [List.length_append, fits_len ht, h] at h1
    have : r = [] := List.length_eq_zero_iff.1 (by omega)
    subst this
    rw [List.append_nil] at hp
    exact ⟨t, ht, hp⟩
  · rintro ⟨t, ht, hp⟩
    exact ⟨t, [], ht, by rw [List.append_nil]; exact hp⟩

/-- the model's lists of moves, one cop after the other -/
def tupF (B : Nat → List Nat) (now : List (List Nat)) (c : Nat) : List (List Nat) := now.flatMap fun t => (B c).map fun y => t ++ [y]
theorem tup_mem {b : Nat → Nat → Bool} {B : Nat → List Nat} : ∀ (cs : List Nat) (now : List (List Nat)) (t : List Nat), (∀ c ∈ cs, ∀ y, y ∈ B c ↔ b c y = true) → (t ∈ cs.foldl (tupF B) now ↔ ∃ t0 ∈ now, ∃ t1, t = t0 ++ t1 ∧ fits b cs t1)
  | [], now, t, h => by
    constructor
    · intro ht; exact ⟨t, ht, [], by simp, trivial⟩
    · rintro ⟨t0, h0, t1, rfl, h1⟩
      cases t1 with
      | nil => simpa using h0
      | cons y t1 => exact absurd h1 (by simp [fits])
  | c :: cs, now, t, h => by
    rw [List.foldl_cons, tup_mem cs _ t fun c hc => h c (List.mem_cons_of_mem _ hc)]
    constructor
    · rintro ⟨t0, h0, t1, rfl, h1⟩
      obtain ⟨u, hu, h2⟩ := List.mem_flatMap.1 h0
      obtain ⟨y, hy, rfl⟩ := List.mem_map.1 h2
      exact ⟨u, hu, y :: t1, by simp, (h c List.mem_cons_self y).1 hy, h1⟩
    · rintro ⟨u, hu, t1, rfl, h1⟩
      cases t1 with
      | nil => exact absurd h1 (by simp [fits])
      | cons y t1 => exact ⟨u ++ [y], List.mem_flatMap.2 ⟨u, hu, List.mem_map.2 ⟨y, (h c List.mem_cons_self y).2 h1.1, rfl⟩⟩, t1, by simp, h1.2⟩
theorem tup_len {B : Nat → List Nat} {M : Nat} : ∀ (cs : List Nat) (now : List (List Nat)), (∀ c ∈ cs, (B c).length ≤ M) → (cs.foldl (tupF B) now).length ≤ now.length * M ^ cs.length
  | [], now, h => by simp
  | c :: cs, now, h => by
    rw [List.foldl_cons]
    have h1 := tup_len cs (tupF B now c) fun c hc => h c (List.mem_cons_of_mem _ hc)
    have h2 : (tupF B now c).length ≤ now.length * M := flatMap_le now fun a _ => by rw [List.length_map]; exact h c List.mem_cons_self
    rw [List.length_cons, Nat.pow_succ, Nat.mul_comm (M ^ _) M, ← Nat.mul_assoc]
    exact Nat.le_trans h1 (Nat.mul_le_mul_right _ h2)

/-- the order of lists of the same length -/
def lexN : List Nat → List Nat → Prop
  | x :: a, y :: b => x < y ∨ x = y ∧ lexN a b
  | _, _ => False
theorem lex_irr : ∀ a : List Nat, ¬ lexN a a
  | [] => fun h => h
  | x :: a => fun h => by
    rcases h with h | h
    · omega
    · exact lex_irr a h.2
theorem lex_asym : ∀ {a b : List Nat}, lexN a b → ¬ lexN b a
  | [], _, h => fun _ => h
  | x :: a, [], h => fun _ => h
  | x :: a, y :: b, h => fun h2 => by
    rcases h with h | ⟨rfl, h⟩
    · rcases h2 with h2 | h2 <;> omega
    · rcases h2 with h2 | h2
      · omega
      · exact lex_asym h h2.2
theorem lex_trans : ∀ {a b c : List Nat}, lexN a b → lexN b c → lexN a c
  | [], _, _, h, _ => absurd h (by simp [lexN])
  | x :: a, [], _, h, _ => absurd h (by simp [lexN])
  | x :: a, y :: b, [], _, h => absurd h (by simp [lexN])
  | x :: a, y :: b, z :: c, h, h2 => by
    rcases h with h | ⟨rfl, h⟩
    · rcases h2 with h2 | ⟨rfl, h2⟩
      · exact .inl (by omega)
      · exact .inl h
    · rcases h2 with h2 | ⟨rfl, h2⟩
      · exact .inl h2
      · exact .inr ⟨rfl, lex_trans h h2⟩
theorem lex_tri : ∀ {a b : List Nat}, a.length = b.length → a ≠ b → ¬ lexN a b → lexN b a
  | [], [], _, h, _ => absurd rfl h
  | x :: a, y :: b, hl, hne, h => by
    by_cases e : x = y
    · subst e
      exact .inr ⟨rfl, lex_tri (by simpa using hl) (fun e => hne (by rw [e])) fun hh => h (.inr ⟨rfl, hh⟩)⟩
    · exact .inl (by have : ¬ x < y := fun hh => h (.inl hh); omega)
  | [], y :: b, hl, _, _ => by simp at hl
  | x :: a, [], hl, _, _ => by simp at hl
def Lex (Ls : List (List Nat)) : Prop := Ls.Pairwise lexN
theorem lists_lex (n : Nat) : ∀ k f, Lex (listsN n k f)
  | 0, f => List.pairwise_singleton _ _
  | k + 1, f => by
    show List.Pairwise lexN ((upL f n).flatMap fun x => (listsN n k x).map (x :: ·))
    rw [List.pairwise_flatMap]
    refine ⟨fun x _ => List.pairwise_map.2 ((lists_lex n k x).imp fun h => .inr ⟨rfl, h⟩), ?_⟩
    refine (List.pairwise_lt_range' (s := f) (n := n - f) : (upL f n).Pairwise (· < ·)).imp fun {x y} hxy a ha b hb => ?_
    obtain ⟨a', _, rfl⟩ := List.mem_map.1 ha
    obtain ⟨b', _, rfl⟩ := List.mem_map.1 hb
    exact .inl hxy
theorem lex_eq : ∀ {A B : List (List Nat)}, Lex A → Lex B → (∀ x, x ∈ A ↔ x ∈ B) → A = B
  | [], [], _, _, _ => rfl
  | [], b :: B, _, _, h => absurd ((h b).2 List.mem_cons_self) (by simp)
  | a :: A, [], _, _, h => absurd ((h a).1 List.mem_cons_self) (by simp)
  | a :: A, b :: B, hA, hB, h => by
    have h1 := List.pairwise_cons.1 hA
    have h2 := List.pairwise_cons.1 hB
    have e : a = b := by
      apply Classical.byContradiction
      intro hne
      have ha : a ∈ B := (List.mem_cons.1 ((h a).1 List.mem_cons_self)).resolve_left hne
      have hb : b ∈ A := (List.mem_cons.1 ((h b).2 List.mem_cons_self)).resolve_left fun e => hne e.symm
      exact lex_asym (h1.1 b hb) (h2.1 a ha)
    subst e
    rw [lex_eq h1.2 h2.2 fun x => ⟨fun hx => (List.mem_cons.1 ((h x).1 (List.mem_cons_of_mem _ hx))).resolve_left fun e => by subst e; exact lex_irr _ (h1.1 _ hx),
      fun hx => (List.mem_cons.1 ((h x).2 (List.mem_cons_of_mem _ hx))).resolve_left fun e => by subst e; exact lex_irr _ (h2.1 _ hx)⟩]
def upN (L : List Nat) : Prop := L.Pairwise (· ≤ ·)
theorem up_eq {A B : List Nat} (hA : upN A) (hB : upN B) (h : A.Perm B) : A = B := h.eq_of_pairwise (fun a b _ _ h1 h2 => Nat.le_antisymm h1 h2) hA hB
theorem lists_up {n : Nat} : ∀ (k f : Nat) (L : List Nat), L ∈ listsN n k f → upN L
  | 0, f, L, h => by
    have : L = [] := by simpa [listsN] using h
    subst this
    exact List.Pairwise.nil
  | k + 1, f, L, h => by
    obtain ⟨x, hx, h2⟩ := List.mem_flatMap.1 (show L ∈ (upL f n).flatMap _ from h)
    obtain ⟨M, hM, rfl⟩ := List.mem_map.1 h2
    exact List.pairwise_cons.2 ⟨fun y hy => ((lists_mem k x M hM).2 y hy).1, lists_up k x M hM⟩
theorem lists_has {n : Nat} : ∀ (k f : Nat) (L : List Nat), L.length = k → upN L → (∀ x ∈ L, f ≤ x ∧ x < n) → L ∈ listsN n k f
  | 0, f, L, h, _, _ => by
    have : L = [] := List.length_eq_zero_iff.1 h
    subst this
    exact List.mem_cons_self
  | k + 1, f, L, h, hu, hb => by
    cases L with
    | nil => simp at h
    | cons x L =>
      have h1 := List.pairwise_cons.1 hu
      refine List.mem_flatMap.2 ⟨x, upL_mem.2 (hb x List.mem_cons_self), List.mem_map.2 ⟨L, ?_, rfl⟩⟩
      exact lists_has k x L (by simpa using h) h1.2 fun y hy => ⟨h1.1 y hy, (hb y (List.mem_cons_of_mem _ hy)).2⟩
theorem lists_iff {n k : Nat} {L : List Nat} : L ∈ listsN n k 0 ↔ L.length = k ∧ upN L ∧ ∀ x ∈ L, x < n :=
  ⟨fun h => ⟨(lists_mem k 0 L h).1, lists_up k 0 L h, fun x hx => ((lists_mem k 0 L h).2 x hx).2⟩, fun ⟨h1, h2, h3⟩ => lists_has k 0 L h1 h2 fun x hx => ⟨Nat.zero_le _, h3 x hx⟩⟩
/-- the lists to which cops can move -/
def movesN (b : Nat → Nat → Bool) (n : Nat) (cs : List Nat) : List (List Nat) := (listsN n cs.length 0).filter fun L => canN b cs L 0
theorem moves_lex (b : Nat → Nat → Bool) (n : Nat) (cs : List Nat) : Lex (movesN b n cs) := List.Pairwise.filter _ (lists_lex n _ 0)
def sortN (t : List Nat) : List Nat := t.mergeSort
theorem sort_perm (t : List Nat) : (sortN t).Perm t := List.mergeSort_perm _ _
theorem sort_up (t : List Nat) : upN (sortN t) := by
  have h := List.pairwise_mergeSort (le := fun a b : Nat => decide (a ≤ b)) (fun a b c h1 h2 => by simp at *; omega) (fun a b => by simp; omega) t
  exact h.imp fun h => by simpa using h
theorem sort_is {t L : List Nat} (h : L.Perm t) (hu : upN L) : L = sortN t := up_eq hu (sort_up t) (h.trans (sort_perm t).symm)
theorem fits_lt {b : Nat → Nat → Bool} {n : Nat} : ∀ {cs t : List Nat}, (∀ c ∈ cs, ∀ y, b c y = true → y < n) → fits b cs t → ∀ y ∈ t, y < n
  | [], [], _, _, y, hy => by simp at hy
  | x :: cs, z :: t, h, hf, y, hy => by
    rcases List.mem_cons.1 hy with rfl | hy
    · exact h x List.mem_cons_self _ hf.1
    · exact fits_lt (fun c hc => h c (List.mem_cons_of_mem _ hc)) hf.2 y hy
  | [], z :: t, _, hf, _, _ => absurd hf (by simp [fits])
  | x :: cs, [], _, hf, _, _ => absurd hf (by simp [fits])
/-- the model's lists are the program's -/
theorem moves_eq {b : Nat → Nat → Bool} {B : Nat → List Nat} {n : Nat} {cs : List Nat} {out : List (List Nat)} (hb : ∀ c ∈ cs, ∀ y, y ∈ B c ↔ b c y = true) (hn : ∀ c ∈ cs, ∀ y, b c y = true → y < n)
    (hl : Lex out) (ho : ∀ y, y ∈ out ↔ ∃ t ∈ cs.foldl (tupF B) [[]], y = sortN t) : out = movesN b n cs := by
  refine lex_eq hl (moves_lex b n cs) fun y => ?_
  rw [ho]
  unfold movesN
  rw [List.mem_filter, lists_iff]
  constructor
  · rintro ⟨t, ht, rfl⟩
    obtain ⟨t0, h0, t1, rfl, h1⟩ := (tup_mem cs _ t hb).1 ht
    have : t0 = [] := by simpa using h0
    subst this
    rw [List.nil_append]
    have hp := sort_perm t1
    have hlen : (sortN t1).length = cs.length := hp.length_eq.trans (fits_len h1)
    exact ⟨⟨hlen, sort_up _, fun x hx => fits_lt hn h1 x (hp.mem_iff.1 hx)⟩, (can_move hlen).2 ⟨t1, h1, hp.symm⟩⟩
  · rintro ⟨⟨hlen, hu, _⟩, hc⟩
    obtain ⟨t, ht, hp⟩ := (can_move hlen).1 hc
    exact ⟨t, (tup_mem cs _ t hb).2 ⟨[], List.mem_cons_self, t, by simp, ht⟩, sort_is hp.symm hu⟩
/-- M has x and what Ls has, in order -/
def PutL (Ls : List (List Nat)) (x : List Nat) (M : List (List Nat)) : Prop := Lex M ∧ (∀ y, y ∈ M ↔ y = x ∨ y ∈ Ls) ∧ M.length ≤ Ls.length + 1
theorem PutL.same {Ls : List (List Nat)} {x : List Nat} (ha : Lex Ls) (hx : x ∈ Ls) : PutL Ls x Ls :=
  ⟨ha, fun y => ⟨.inr, fun h => by rcases h with rfl | h; exact hx; exact h⟩, by omega⟩
theorem PutL.new {Ls : List (List Nat)} {x : List Nat} {k : Nat} (hk : k ≤ Ls.length) (ha : Lex Ls) (h1 : ∀ j y, j < k → Ls[j]? = some y → lexN y x) (h2 : ∀ y, Ls[k]? = some y → lexN x y) : PutL Ls x (Ls.take k ++ x :: Ls.drop k) := by
  have hd : ∀ y ∈ Ls.drop k, lexN x y := fun y hy => by
    obtain ⟨j, hj⟩ := List.getElem?_of_mem hy
    rw [List.getElem?_drop] at hj
    rcases Nat.eq_zero_or_pos j with rfl | hj0
    · exact h2 y hj
    · have hlt : k + j < Ls.length := (List.getElem?_eq_some_iff.1 hj).1
      obtain ⟨z, hz⟩ : ∃ z, Ls[k]? = some z := ⟨_, List.getElem?_eq_getElem (by omega)⟩
      have hzy : lexN z y := by
        have h3 := List.pairwise_iff_getElem.1 ha k (k + j) (by omega) hlt (by omega)
        rw [List.getElem?_eq_getElem (by omega)] at hz
        rw [List.getElem?_eq_getElem hlt] at hj
        cases hz; cases hj
        exact h3
      exact lex_trans (h2 z hz) hzy
  have ht : ∀ y ∈ Ls.take k, lexN y x := fun y hy => by
    obtain ⟨j, hj⟩ := List.getElem?_of_mem hy
    have hjk : j < k := by
      have := (List.getElem?_eq_some_iff.1 hj).1
      rw [List.length_take] at this; omega
    rw [List.getElem?_take_of_lt hjk] at hj
    exact h1 j y hjk hj
  refine ⟨?_, fun y => ?_, by simp; omega⟩
  · show List.Pairwise lexN _
    rw [List.pairwise_append]
    refine ⟨List.Pairwise.sublist (List.take_sublist _ _) ha, List.pairwise_cons.2 ⟨hd, List.Pairwise.sublist (List.drop_sublist _ _) ha⟩, fun a hA b hB => ?_⟩
    rcases List.mem_cons.1 hB with rfl | hB
    · exact ht a hA
    · exact lex_trans (ht a hA) (hd b hB)
  · rw [List.mem_append, List.mem_cons]
    constructor
    · rintro (h | h | h)
      · exact .inr (List.mem_of_mem_take h)
      · exact .inl h
      · exact .inr (List.mem_of_mem_drop h)
    · rintro (h | h)
      · exact .inr (.inl h)
      · rw [← List.take_append_drop k Ls] at h
        rcases List.mem_append.1 h with h | h
        · exact .inl h
        · exact .inr (.inr h)
/-- the places of the lists to which cops can move -/
theorem moves_map {b : Nat → Nat → Bool} {n : Nat} {cs : List Nat} : movesN b n cs = ((List.range (listsN n cs.length 0).length).filter fun q => canN b cs ((listsN n cs.length 0).getD q []) 0).map fun q => (listsN n cs.length 0).getD q [] := by
  have h : listsN n cs.length 0 = (List.range (listsN n cs.length 0).length).map fun q => (listsN n cs.length 0).getD q [] := by
    apply List.ext_getElem?
    intro i
    by_cases h : i < (listsN n cs.length 0).length
    · simp [h]
    · rw [List.getElem?_eq_none (by omega), List.getElem?_eq_none (by simp; omega)]
  unfold movesN
  conv => lhs; rw [h]
  rw [List.filter_map]
  rfl
theorem lex_nodup {Ls : List (List Nat)} (h : Lex Ls) {i j : Nat} {x : List Nat} (hi : Ls[i]? = some x) (hj : Ls[j]? = some x) : i = j := by
  obtain ⟨hi1, hi2⟩ := List.getElem?_eq_some_iff.1 hi
  obtain ⟨hj1, hj2⟩ := List.getElem?_eq_some_iff.1 hj
  apply Classical.byContradiction
  intro hne
  rcases Nat.lt_or_gt_of_ne hne with h1 | h1
  · have := List.pairwise_iff_getElem.1 h i j hi1 hj1 h1
    rw [hi2, hj2] at this
    exact lex_irr _ this
  · have := List.pairwise_iff_getElem.1 h j i hj1 hi1 h1
    rw [hi2, hj2] at this
    exact lex_irr _ this
end Go.Proofs.YtdhbaegkogklgaaDoor.lists

/- The contract of the program's listsFrom. -/
namespace Go.Proofs.YtdhbaegkogklgaaDoor.lists
open Go.RowKit P2 words edges ints good adjs fns sets rets apps gridr grid
set_option linter.unusedVariables false

/-- the rows of a table of lists -/
def rowsN (Ls : List (List Nat)) : List (List Int) := Ls.map castL
theorem rowsN_len (Ls : List (List Nat)) : (rowsN Ls).length = Ls.length := by simp [rowsN]
theorem rowsN_app (Ls Ms : List (List Nat)) : rowsN (Ls ++ Ms) = rowsN Ls ++ rowsN Ms := by simp [rowsN]
theorem rowsN_at {Ls : List (List Nat)} {k : Nat} {L : List Nat} (h : Ls[k]? = some L) : (rowsN Ls)[k]? = some (castL L) := by simp [rowsN, h]
/-- a table of lists of the call's own -/
def RetL (w : World) (Ls : List (List Nat)) (e : Ending) (w' : World) : Prop :=
  ∃ A c us, e = .returned (.slice A (rowsN Ls).length c) ∧ OwnG w' w.heap.size (.slice A (rowsN Ls).length c) us (rowsN Ls) ∧ Below w.heap.size w w'
theorem take_succ_map {Ls : List (List Nat)} {j : Nat} {L : List Nat} (x : Nat) (h : Ls[j]? = some L) : (Ls.take (j + 1)).map (x :: ·) = (Ls.take j).map (x :: ·) ++ [x :: L] := by
  rw [List.take_add_one, h, List.map_append]; rfl
theorem grid_one (w : World) (L : List Nat) (hL : L = []) : OwnG (w.alloc (.cells #[.slice none 0 0] 25)) w.heap.size (.slice (some ⟨w.heap.size, 0, none⟩) 1 1) [.slice none 0 0] (rowsN [L]) := by
  subst hL
  refine ⟨World.ownsRow_lit (size := 1) w #[.slice none 0 0] 1 (Nat.le_refl _) (by unfold maxLen; omega) rfl, ?_, ?_⟩
  · intro i u r hu hr
    cases i with
    | zero => cases hu; cases hr; exact World.ownsRow_nil _ _ _ _
    | succ i => simp at hu
  · intro i j u u' k hij hu hu'
    cases j with
    | zero => omega
    | succ j => simp at hu'

/-- a table is kept where another one grows -/
theorem keepG {w w' : World} {B B9 n9 : Nat} {v lw : Value} {us xs9 : List Value} {rows : List (List Int)} (h : OwnG w B v us rows) (hl : w.ownsRow B9 25 1 lw n9 xs9) (hs : ∀ b, v.ownBlock = some b → lw.ownBlock ≠ some b) (hg : w.grownBy w' lw.ownBlock) : OwnG w' B v us rows := by
  refine ⟨h.1.kept hg ?_, fun i u r hu hr => (h.2.1 i u r hu hr).kept hg ?_, h.2.2⟩
  · cases hv : v.ownBlock with
    | none => exact .inl rfl
    | some b => exact .inr fun e => hs b hv e.symm
  · cases hv : u.ownBlock with
    | none => exact .inl rfl
    | some b => exact .inr fun e => own_apart (h.2.1 i u r hu hr) hl tneI b hv e.symm

end Go.Proofs.YtdhbaegkogklgaaDoor.lists

/- The first node of a set: the least digit of its bits. -/
namespace Go.Proofs.YtdhbaegkogklgaaDoor.strip
open Go.RowKit P2 words edges fns sets covs
set_option linter.unusedVariables false

/-- the first number of a list -/
def hd (L : List Int) : Int := L.headD 0
/-- the least digit is the first node of the set -/
theorem ctz_fin : ∀ c : Fin 256, c.val ≠ 0 → ((Lib.ctz 64 c.val : Nat) : Int) = (nw (bitB c.val) 8).headD 0 := by decide +kernel
theorem ctz_hd {c : Nat} (hc : c < 256) (h0 : c ≠ 0) : ((Lib.ctz 64 c : Nat) : Int) = hd (nw (bitB c) 8) := ctz_fin ⟨c, hc⟩ h0
theorem ctz_num {p : Nat → Bool} {n : Nat} (hn : n ≤ 8) (h0 : numOf p n ≠ 0) : ((Lib.ctz 64 (numOf p n) : Nat) : Int) = hd (nw p n) := by
  rw [ctz_hd (numOf_lt p hn) h0, nodes_num hn]
end Go.Proofs.YtdhbaegkogklgaaDoor.strip

/- Guards: moves: mathematics. -/
namespace Go.Proofs.YtdhbaegkogklgaaDoor.ups
open Go.RowKit P2 words edges ints good adjs fns sets rets covs bitsI bags costs reach lists strip
set_option linter.unusedVariables false

/-- what is in one set alone -/
def difB (a b : Nat) : Nat → Bool := fun y => bitB a y && !bitB b y
def difN (a b : Nat) : Nat := numOf (difB a b) 8
theorem dif_bit {a b : Nat} (ha : a < 256) (y : Nat) : (difN a b).testBit y = difB a b y := by
  unfold difN
  rw [numOf_bit]
  by_cases h : y < 8
  · simp [h]
  · rw [decide_eq_false h, Bool.false_and]
    unfold difB bitB
    rw [Nat.testBit_lt_two_pow (Nat.lt_of_lt_of_le ha (show 256 ≤ 2 ^ y from by
      have := Nat.pow_le_pow_right (show 0 < 2 by decide) (show 8 ≤ y by omega)
      exact this)), Bool.false_and]
theorem dif_lt {n a b : Nat} (hn : n ≤ 8) (ha : a < 2 ^ n) : difN a b < 2 ^ n := by
  apply Nat.lt_pow_two_of_testBit
  intro i hi
  rw [dif_bit (Nat.lt_of_lt_of_le ha (pow_le hn))]
  unfold difB bitB
  rw [Nat.testBit_lt_two_pow (Nat.lt_of_lt_of_le ha (Nat.pow_le_pow_right (by decide) hi)), Bool.false_and]
theorem dif_ones (a b : Nat) : onesN (difN a b) + onesN (a &&& b) = onesN a := by
  have h : onesN (difN a b) = (List.range 8).countP (difB a b) := by
    unfold onesN nw difN
    rw [List.length_map, ← List.countP_eq_length_filter]
    apply List.countP_congr
    intro y hy
    have := List.mem_range.1 hy
    unfold bitB
    rw [numOf_bit]; simp [this]
  have h2 : onesN (a &&& b) = (List.range 8).countP (fun y => bitB a y && bitB b y) := by
    unfold onesN nw
    rw [List.length_map, ← List.countP_eq_length_filter]
    apply List.countP_congr
    intro y _
    unfold bitB
    rw [Nat.testBit_and]
  have h3 : onesN a = (List.range 8).countP (bitB a) := by
    unfold onesN nw
    rw [List.length_map, ← List.countP_eq_length_filter]
  rw [h, h2, h3]
  unfold difB
  induction List.range 8 with
  | nil => rfl
  | cons x L ih =>
    simp only [List.countP_cons]
    cases bitB a x <;> cases bitB b x <;> simp <;> omega
theorem dif_same {a b : Nat} (h : onesN a = onesN b) : onesN (difN a b) = onesN (difN b a) := by
  have h1 := dif_ones a b
  have h2 := dif_ones b a
  rw [Nat.and_comm b a] at h2
  omega
/-- the nodes of a set -/
def lsN (c : Nat) : List Nat := (List.range 8).filter (bitB c)
theorem lsN_cast (c : Nat) : castL (lsN c) = ndN c := rfl
theorem lsN_len (c : Nat) : (lsN c).length = onesN c := by rw [← castL_len, lsN_cast]; rfl
theorem lsN_mem {n c x : Nat} (hn : n ≤ 8) (hc : c < 2 ^ n) (h : x ∈ lsN c) : x < n ∧ c.testBit x = true := by
  have h2 : bitB c x = true := (List.mem_filter.1 h).2
  refine ⟨?_, h2⟩
  by_cases e : x < n
  · exact e
  · unfold bitB at h2
    rw [Nat.testBit_lt_two_pow (Nat.lt_of_lt_of_le hc (Nat.pow_le_pow_right (by decide) (by omega)))] at h2
    cases h2
/-- moves: of one guard, of all -/
def mvOne (l : List Ed) (a b : Nat) : Bool := onesN (difN a b) == 1 && !(cloB l (Lib.ctz 64 (difN a b)) &&& difN b a == 0)
def mvAll (l : List Ed) (a b : Nat) : Bool := canN (ballB l) (lsN a) (lsN b) 0
def mvB (l : List Ed) (all : Bool) (a b : Nat) : Bool := if all then mvAll l a b else mvOne l a b
theorem one_list {L : List Int} (h : L.length = 1) : L = [hd L] := by
  match L, h with
  | [x], _ => rfl
theorem mvOne_is {n a b : Nat} {l : List Ed} (hg : P2.Good (n : Int) l) (hn : n ≤ 8) (ha : a < 2 ^ n) (hb : b < 2 ^ n) (h1 : onesN (difN a b) = 1) (h2 : onesN (difN b a) = 1) :
    mvOne l a b = adj l (hd (nw (difB a b) n)) (hd (nw (difB b a) n)) := by
  have a8 := Nat.lt_of_lt_of_le ha (pow_le hn)
  have b8 := Nat.lt_of_lt_of_le hb (pow_le hn)
  have e1 : nw (difB a b) n = ndN (difN a b) := by
    rw [← nd_bits hn (dif_lt hn ha)]
    congr 1; funext y; exact (dif_bit a8 y).symm
  have e2 : nw (difB b a) n = ndN (difN b a) := by
    rw [← nd_bits hn (dif_lt hn hb)]
    congr 1; funext y; exact (dif_bit b8 y).symm
  have o1 := one_list (L := ndN (difN a b)) h1
  have o2 := one_list (L := ndN (difN b a)) h2
  have n0 : difN a b ≠ 0 := fun e => by rw [e] at h1; exact absurd h1 (by decide)
  have hc := ctz_hd (Nat.lt_of_lt_of_le (dif_lt (b := b) hn ha) (pow_le hn)) n0
  obtain ⟨x, hx, hpx, hxe⟩ := mem_nw.1 (show hd (ndN (difN a b)) ∈ ndN (difN a b) from by rw [o1]; simp [hd])
  obtain ⟨y, hy, hpy, hye⟩ := mem_nw.1 (show hd (ndN (difN b a)) ∈ ndN (difN b a) from by rw [o2]; simp [hd])
  have hcx : Lib.ctz 64 (difN a b) = x := by
    have : ((Lib.ctz 64 (difN a b) : Nat) : Int) = hd (ndN (difN a b)) := hc
    omega
  unfold mvOne
  rw [h1, hcx, e1, e2, hxe, hye]
  have hxy : x ≠ y := by
    rintro rfl
    unfold bitB at hpx hpy
    rw [dif_bit a8] at hpx
    rw [dif_bit b8] at hpy
    unfold difB at hpx hpy
    revert hpx hpy
    cases bitB a x <;> cases bitB b x <;> simp
  have hall : ∀ z, (difN b a).testBit z = true → z = y := fun z hz => by
    have hz8 : z < 8 := by
      by_cases e : z < 8
      · exact e
      · rw [Nat.testBit_lt_two_pow (Nat.lt_of_lt_of_le (dif_lt (b := a) hn hb) (Nat.pow_le_pow_right (by decide) (by omega)))] at hz
        cases hz
    have : (z : Int) ∈ ndN (difN b a) := mem_nw.2 ⟨z, hz8, hz, rfl⟩
    rw [o2] at this
    simp at this
    omega
  rw [Bool.eq_iff_iff]
  simp only [beq_self_eq_true, Bool.true_and, Bool.not_eq_true', beq_eq_false_iff_ne]
  constructor
  · intro h
    by_cases e : adj l (x : Int) (y : Int) = true
    · exact e
    · exfalso
      apply h
      apply Nat.eq_of_testBit_eq
      intro z
      rw [Nat.testBit_and, Nat.zero_testBit]
      cases hz : (difN b a).testBit z with
      | false => rw [Bool.and_false]
      | true =>
        have := hall z hz
        subst this
        rw [cloB_bit hg, Bool.eq_false_iff.2 e]
        simp [hxy]
  · intro h e
    have h3 : (cloB l x &&& difN b a).testBit y = true := by
      rw [Nat.testBit_and, cloB_bit hg, h, show (difN b a).testBit y = true from hpy]; simp
    rw [e] at h3
    simp at h3
end Go.Proofs.YtdhbaegkogklgaaDoor.ups

/- An element put into a row by three appends: what the walk wants. -/
namespace Go.Proofs.YtdhbaegkogklgaaDoor.trip
open Go.RowKit P2 words edges ints good adjs fns sets apps covs neigh
set_option linter.unusedVariables false

theorem one_readsV {w : World} {g : Nat} {t : TypeId} {a : Value} (h : Blk w g t #[a]) : Reads w 1 (.slice (some ⟨g, 0, none⟩) 1 1) 1 [a] := by
  refine ⟨_, _, rfl, fun _ => ⟨g, 0, rfl, by omega, fun j u hu => ?_⟩⟩
  rw [Nat.zero_add]
  refine (h.cell j).trans ?_
  rw [← hu]
  match j with
  | 0 => rfl
  | j + 1 => simp
theorem rd1_someV {W : World} {g o c k n : Nat} {xs : List Value} (h : Reads W 1 (.slice (if c = k then some ⟨g, o, none⟩ else (some (⟨g, o, none⟩ : Addr)).map (·.add k)) (n - k) (c - k)) (n - k) xs) :
    Reads W 1 (.slice (if c = k then some ⟨g, o, none⟩ else some ⟨g, o + k, none⟩) (n - k) (c - k)) (n - k) xs := by
  simpa [apps.addr_add] using h
theorem rd1_zeroV {W : World} {g c k n : Nat} {xs : List Value} (h : Reads W 1 (.slice (if c = k then some ⟨g, 0, none⟩ else (some (⟨g, 0, none⟩ : Addr)).map (·.add k)) (n - k) (c - k)) (n - k) xs) :
    Reads W 1 (.slice (if c = k then some ⟨g, 0, none⟩ else some ⟨g, k, none⟩) (n - k) (c - k)) (n - k) xs := by
  simpa [apps.addr_add] using h
theorem reads_cap {W : World} {A : Option Addr} {n c k : Nat} {xs : List Value} (h : Reads W 1 (.slice A n c) n xs) (hk : k ≤ n) : k ≤ c := by
  rcases Nat.eq_zero_or_pos n with h0 | h0
  · omega
  · obtain ⟨A', c', e, hx⟩ := h
    cases e
    have := (hx h0).choose_spec.choose_spec.2.1
    omega
theorem own_at {w : World} {B i n c : Nat} {A : Option Addr} {t : TypeId} {us : List Value} {u : Value} (h : w.ownsRow B t 1 (.slice A n c) n us) (hu : us[i]? = some u) :
    ∃ g, A = some ⟨g, 0, none⟩ ∧ w.cell? ⟨g, i, none⟩ = some u ∧ B ≤ g ∧ g < w.heap.size := by
  have hi := (List.getElem?_eq_some_iff.1 hu).1
  have hl := h.1
  rcases h.2 with ⟨hf, _⟩ | ⟨g, cap, cur, hf, _⟩
  · have := congrArg (fun v => match v with | .slice _ n _ => n | _ => 0) hf
    simp at this
    omega
  · obtain ⟨rfl, rfl⟩ : A = some ⟨g, 0, none⟩ ∧ c = cap := by simpa using hf
    have := h.cellAt i (by omega)
    rw [hu] at this
    exact ⟨g, rfl, this, (h.lt g rfl).1, (h.lt g rfl).2⟩
theorem own_cell {w : World} {B i n c g : Nat} {t : TypeId} {us : List Value} {u : Value} (h : w.ownsRow B t 1 (.slice (some ⟨g, 0, none⟩) n c) n us) (hu : us[i]? = some u) : w.cell? ⟨g, i, none⟩ = some u := by
  obtain ⟨g', e, hc, -⟩ := own_at h hu
  have : g = g' := by injection e with e; injection e
  subst this
  exact hc
end Go.Proofs.YtdhbaegkogklgaaDoor.trip
