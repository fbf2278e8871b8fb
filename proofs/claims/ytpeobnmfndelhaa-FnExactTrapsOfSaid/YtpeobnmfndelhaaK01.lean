/- The lists of cops, by their first nodes and by their last ones. It imports nothing of the program. -/
import Derived.Below
import Derived.Lib.Hide
import Derived.WalkKit
import Derived.WalkSmall
import Derived.Laws.OwnMore
import Derived.Test.YtpeobnmfndelhaaProg
import Derived.WalkLawsBesides
import Derived.WalkSpells
import Derived.IntWalk
import Derived.Deep.QuietTactic
import Derived.BigQuiet
import Derived.Deep.RegionHeld3
namespace Go.Proofs.Ytpeobnmfndelhaa.lists
set_option linter.unusedVariables false

def castL (L : List Nat) : List Int := L.map fun x : Nat => (x : Int)
theorem castL_len (L : List Nat) : (castL L).length = L.length := by simp [castL]
theorem castL_cons (x : Nat) (L : List Nat) : castL (x :: L) = (x : Int) :: castL L := rfl
theorem castL_snoc (L : List Nat) (x : Nat) : castL (L ++ [x]) = castL L ++ [(x : Int)] := by simp [castL]
theorem castL_at {L : List Nat} {k x : Nat} (h : L[k]? = some x) : (castL L)[k]? = some (x : Int) := by simp [castL, h]
/-- f, f + 1, .., x - 1 -/
def upL (f x : Nat) : List Nat := List.range' f (x - f)
theorem upL_nil (f : Nat) : upL f f = [] := by simp [upL]
theorem upL_succ {f x : Nat} (h : f ≤ x) : upL f (x + 1) = upL f x ++ [x] := by
  unfold upL
  rw [show x + 1 - f = (x - f) + 1 from by omega, List.range'_1_concat, show f + (x - f) = x from by omega]
theorem upL_mem {f x y : Nat} : y ∈ upL f x ↔ f ≤ y ∧ y < x := by
  unfold upL
  rw [List.mem_range'_1]
  omega
theorem upL_len (f x : Nat) : (upL f x).length = x - f := by simp [upL]
/-- all lists of k nodes of f, .., n - 1, in order -/
def listsN (n : Nat) : Nat → Nat → List (List Nat)
  | 0, _ => [[]]
  | k + 1, f => (upL f n).flatMap fun x => (listsN n k x).map (x :: ·)
def outK (n k f x : Nat) : List (List Nat) := (upL f x).flatMap fun y => (listsN n k y).map (y :: ·)
theorem outK_nil (n k f : Nat) : outK n k f f = [] := by unfold outK; rw [upL_nil]; rfl
theorem outK_all (n k f : Nat) : outK n k f n = listsN n (k + 1) f := rfl
theorem outK_succ {n k f x : Nat} (h : f ≤ x) : outK n k f (x + 1) = outK n k f x ++ (listsN n k x).map (x :: ·) := by
  unfold outK; rw [upL_succ h, List.flatMap_append]; simp
theorem flatMap_le {α β : Type} {M : Nat} {F : α → List β} : ∀ (L : List α), (∀ a ∈ L, (F a).length ≤ M) → (L.flatMap F).length ≤ L.length * M
  | [], _ => by simp
  | a :: L, h => by
    rw [List.flatMap_cons, List.length_append, List.length_cons, Nat.succ_mul]
    have h1 := h a List.mem_cons_self
    have h2 := flatMap_le L fun b hb => h b (List.mem_cons_of_mem _ hb)
    omega
theorem lists_len {n : Nat} (hn : n ≤ 8) : ∀ k f, (listsN n k f).length ≤ 8 ^ k
  | 0, f => by simp [listsN]
  | k + 1, f => by
    have h := flatMap_le (M := 8 ^ k) (F := fun x => (listsN n k x).map (x :: ·)) (upL f n) fun a _ => by rw [List.length_map]; exact lists_len hn k a
    rw [upL_len] at h
    have h2 : (n - f) * 8 ^ k ≤ 8 * 8 ^ k := Nat.mul_le_mul_right _ (by omega)
    rw [Nat.pow_succ, Nat.mul_comm (8 ^ k) 8]
    exact Nat.le_trans h h2
theorem out_len {n : Nat} (hn : n ≤ 8) {k f x : Nat} (hx : x ≤ n) : (outK n k f x).length ≤ 8 * 8 ^ k := by
  have h := flatMap_le (M := 8 ^ k) (F := fun x => (listsN n k x).map (x :: ·)) (upL f x) fun a _ => by rw [List.length_map]; exact lists_len hn k a
  rw [upL_len] at h
  exact Nat.le_trans h (Nat.mul_le_mul_right _ (by omega))
/-- each has k nodes -/
theorem lists_mem {n : Nat} : ∀ (k f : Nat) (L : List Nat), L ∈ listsN n k f → L.length = k ∧ ∀ x ∈ L, f ≤ x ∧ x < n
  | 0, f, L, h => by
    have : L = [] := by simpa [listsN] using h
    subst this
    exact ⟨rfl, fun x hx => by simp at hx⟩
  | k + 1, f, L, h => by
    obtain ⟨x, hx, h2⟩ := List.mem_flatMap.1 (show L ∈ (upL f n).flatMap _ from h)
    obtain ⟨M, hM, rfl⟩ := List.mem_map.1 h2
    obtain ⟨h3, h4⟩ := lists_mem k x M hM
    have hx2 := upL_mem.1 hx
    refine ⟨by simp [h3], fun y hy => ?_⟩
    rcases List.mem_cons.1 hy with rfl | hy
    · exact hx2
    · have := h4 y hy; omega
/-- the last node, f if there is none -/
def lastD (f : Nat) (L : List Nat) : Nat := L.getLast?.getD f
theorem last_cons (f x : Nat) (L : List Nat) : lastD f (x :: L) = lastD x L := by
  unfold lastD
  cases L with
  | nil => rfl
  | cons y L => simp [List.getLast?_eq_some_getLast]
/-- a list's longer ones -/
def extL (n f : Nat) (L : List Nat) : List (List Nat) := (upL (lastD f L) n).map fun x => L ++ [x]
theorem flatMap_one {α β : Type} {g : α → β} : ∀ L : List α, L.flatMap (fun x => [g x]) = L.map g
  | [] => rfl
  | a :: L => by rw [List.flatMap_cons, List.map_cons, flatMap_one L]; rfl
theorem lists_snoc (n : Nat) : ∀ k f, listsN n (k + 1) f = (listsN n k f).flatMap (extL n f)
  | 0, f => by
    show (upL f n).flatMap (fun x => (listsN n 0 x).map (x :: ·)) = [[]].flatMap (extL n f)
    show (upL f n).flatMap (fun x => [[x]]) = ((upL f n).map fun x => [] ++ [x]) ++ []
    rw [List.append_nil, flatMap_one]
    rfl
  | k + 1, f => by
    show (upL f n).flatMap (fun x => (listsN n (k + 1) x).map (x :: ·)) = ((upL f n).flatMap fun x => (listsN n k x).map (x :: ·)).flatMap (extL n f)
    rw [List.flatMap_assoc]
    congr 1
    funext x
    rw [lists_snoc n k x, List.map_flatMap, List.flatMap_map]
    congr 1
    funext L
    unfold extL
    rw [last_cons, List.map_map]
    rfl
end Go.Proofs.Ytpeobnmfndelhaa.lists

/- Plain mathematics of graphs: edges in order, neighbors, and the list of edges that a test gives. It imports nothing of the program. -/
namespace Go.Proofs.Ytpeobnmfndelhaa.P2
open Go

abbrev Ed := Int × Int
def Lex (a b : Ed) : Prop := a.1 < b.1 ∨ (a.1 = b.1 ∧ a.2 < b.2)
instance decLex (a b : Ed) : Decidable (Lex a b) := by unfold Lex; infer_instance
theorem Lex.irrefl (a : Ed) : ¬ Lex a a := by unfold Lex; omega
theorem Lex.trans {a b c : Ed} (h : Lex a b) (k : Lex b c) : Lex a c := by unfold Lex at *; omega

theorem sorted_ext : ∀ {l1 l2 : List Ed}, l1.Pairwise Lex → l2.Pairwise Lex → (∀ e, e ∈ l1 ↔ e ∈ l2) → l1 = l2
  | [], [], _, _, _ => rfl
  | [], b :: l2, _, _, h => absurd ((h b).2 (by simp)) (by simp)
  | a :: l1, [], _, _, h => absurd ((h a).1 (by simp)) (by simp)
  | a :: l1, b :: l2, h1, h2, h => by
    obtain ⟨p1, q1⟩ := List.pairwise_cons.1 h1
    obtain ⟨p2, q2⟩ := List.pairwise_cons.1 h2
    have hab : a = b := by
      rcases List.mem_cons.1 ((h a).1 (by simp)) with e | m1
      · exact e
      · rcases List.mem_cons.1 ((h b).2 (by simp)) with e | m2
        · exact e.symm
        · exact absurd ((p1 b m2).trans (p2 a m1)) (Lex.irrefl a)
    subst hab
    have ht : l1 = l2 := sorted_ext q1 q2 fun e => by
      constructor
      · intro m
        rcases List.mem_cons.1 ((h e).1 (by simp [m])) with e1 | m'
        · subst e1; exact absurd (p1 e m) (Lex.irrefl e)
        · exact m'
      · intro m
        rcases List.mem_cons.1 ((h e).2 (by simp [m])) with e1 | m'
        · subst e1; exact absurd (p2 e m) (Lex.irrefl e)
        · exact m'
    rw [ht]

/-- the edge at place j is in order -/
def OkAt (m : Int) (l : List Ed) (j : Nat) : Prop :=
  ∀ e, l[j]? = some e → 0 ≤ e.1 ∧ e.1 < e.2 ∧ e.2 ≤ m ∧ ∀ d, 0 < j → l[j - 1]? = some d → Lex d e
def OkTo (m : Int) (l : List Ed) (k : Nat) : Prop := ∀ j, j < k → OkAt m l j
theorem OkTo.zero (m : Int) (l : List Ed) : OkTo m l 0 := fun _ h => by omega
theorem OkTo.succ {m : Int} {l : List Ed} {k : Nat} (h : OkTo m l k) (hk : OkAt m l k) : OkTo m l (k + 1) := fun j hj => by
  by_cases e : j = k
  · subst e; exact hk
  · exact h j (by omega)

/-- the Graph of a Size and of edges is valid -/
def Good (s : Int) (l : List Ed) : Prop := 0 ≤ s ∧ s ≤ 8 ∧ OkTo (s - 1) l l.length
noncomputable instance decGood (s : Int) (l : List Ed) : Decidable (Good s l) := Classical.propDecidable _
noncomputable def goodB (s : Int) (l : List Ed) : Bool := decide (Good s l)
theorem goodB_yes {s : Int} {l : List Ed} (h : Good s l) : goodB s l = true := by simp [goodB, h]
theorem goodB_no {s : Int} {l : List Ed} (h : ¬ Good s l) : goodB s l = false := by simp [goodB, h]
theorem not_good_at {s : Int} {l : List Ed} {k : Nat} (hk : k < l.length) (h : ¬ OkAt (s - 1) l k) : ¬ Good s l := fun g => h (g.2.2 k hk)

theorem Good.pair {s : Int} {l : List Ed} (h : Good s l) : ∀ (i j : Nat) (a b : Ed), i < j → l[i]? = some a → l[j]? = some b → Lex a b := by
  intro i j a b hij ha hb
  induction j generalizing b with
  | zero => omega
  | succ j ih =>
    have hj : j + 1 < l.length := (List.getElem?_eq_some_iff.1 hb).1
    obtain ⟨d, hd⟩ : ∃ d, l[j]? = some d := ⟨_, List.getElem?_eq_getElem (by omega)⟩
    have h1 := (h.2.2 (j + 1) hj b hb).2.2.2 d (by omega) hd
    by_cases e : i = j
    · subst e; rw [ha] at hd; cases hd; exact h1
    · exact (ih d (by omega) hd).trans h1
theorem Good.sorted {s : Int} {l : List Ed} (h : Good s l) : l.Pairwise Lex := by
  rw [List.pairwise_iff_getElem]
  intro i j hi hj hij
  exact h.pair i j _ _ hij (List.getElem?_eq_getElem hi) (List.getElem?_eq_getElem hj)
theorem Good.mem {s : Int} {l : List Ed} (h : Good s l) {e : Ed} (he : e ∈ l) : 0 ≤ e.1 ∧ e.1 < e.2 ∧ e.2 < s := by
  obtain ⟨j, hj⟩ := List.getElem?_of_mem he
  have := h.2.2 j (List.getElem?_eq_some_iff.1 hj).1 e hj
  omega
theorem good_of {s : Int} {l : List Ed} (h0 : 0 ≤ s) (h8 : s ≤ 8) (hm : ∀ e ∈ l, 0 ≤ e.1 ∧ e.1 < e.2 ∧ e.2 < s) (hs : l.Pairwise Lex) : Good s l := by
  refine ⟨h0, h8, fun j hj e he => ?_⟩
  have := hm e (List.mem_of_getElem? he)
  refine ⟨this.1, this.2.1, by omega, fun d h0 hd => ?_⟩
  rw [List.pairwise_iff_getElem] at hs
  have hd' := List.getElem?_eq_some_iff.1 hd
  have he' := List.getElem?_eq_some_iff.1 he
  have := hs (j - 1) j hd'.1 he'.1 (by omega)
  rw [hd'.2, he'.2] at this
  exact this

/-- two numbers are neighbors by a list of edges -/
def adj (l : List Ed) (x y : Int) : Bool := decide ((x, y) ∈ l ∨ (y, x) ∈ l)
theorem adj_comm (l : List Ed) (x y : Int) : adj l x y = adj l y x := by
  unfold adj
  rw [decide_eq_decide]
  exact Or.comm
theorem adj_lt {s : Int} {l : List Ed} (h : Good s l) {x y : Int} (hxy : x < y) : adj l x y = decide ((x, y) ∈ l) := by
  unfold adj
  rw [decide_eq_decide]
  constructor
  · rintro (h1 | h1)
    · exact h1
    · have := h.mem h1; simp only at this; omega
  · exact Or.inl
theorem adj_min {s : Int} {l : List Ed} (h : Good s l) (x y : Int) : adj l x y = decide ((min x y, max x y) ∈ l) := by
  unfold adj
  rw [decide_eq_decide]
  by_cases hxy : x ≤ y
  · rw [Int.min_eq_left hxy, Int.max_eq_right hxy]
    constructor
    · rintro (h1 | h1)
      · exact h1
      · have := h.mem h1; simp only at this; omega
    · exact Or.inl
  · rw [Int.min_eq_right (by omega), Int.max_eq_left (by omega)]
    constructor
    · rintro (h1 | h1)
      · have := h.mem h1; simp only at this; omega
      · exact h1
    · exact Or.inr
theorem adj_self {s : Int} {l : List Ed} (h : Good s l) (x : Int) : adj l x x = false := by
  unfold adj
  rw [decide_eq_false_iff_not]
  rintro (h1 | h1) <;> (have := h.mem h1; simp only at this; omega)
theorem adj_node {s : Int} {l : List Ed} (h : Good s l) {x y : Int} (ha : adj l x y = true) : (0 ≤ x ∧ x < s) ∧ (0 ≤ y ∧ y < s) := by
  unfold adj at ha
  rw [decide_eq_true_iff] at ha
  rcases ha with h1 | h1 <;> (have := h.mem h1; simp only at this; omega)

/-- one node's edges to greater nodes less than y, by a test -/
def rowTo (J : Nat → Nat → Bool) (x y : Nat) : List Ed := ((List.range y).filter fun z : Nat => decide (x < z) && J x z).map fun z : Nat => ((x : Int), (z : Int))
/-- the edges of all nodes less than x -/
def gwTo (J : Nat → Nat → Bool) (n x : Nat) : List Ed := (List.range x).flatMap fun v => rowTo J v n
/-- the edges that a test gives -/
def gw (n : Nat) (J : Nat → Nat → Bool) : List Ed := gwTo J n n

theorem rowTo_start (J : Nat → Nat → Bool) (x y : Nat) (h : y ≤ x + 1) : rowTo J x y = [] := by
  unfold rowTo
  rw [List.filter_eq_nil_iff.2 (fun z hz => by have := List.mem_range.1 hz; simp; omega)]
  rfl
theorem rowTo_yes {J : Nat → Nat → Bool} {x y : Nat} (h : x < y) (hj : J x y = true) : rowTo J x (y + 1) = rowTo J x y ++ [((x : Int), (y : Int))] := by
  unfold rowTo
  rw [List.range_succ, List.filter_append, List.map_append]
  simp [h, hj]
theorem rowTo_no {J : Nat → Nat → Bool} {x y : Nat} (hj : J x y = false) : rowTo J x (y + 1) = rowTo J x y := by
  unfold rowTo
  rw [List.range_succ, List.filter_append, List.map_append]
  simp [hj]
theorem gwTo_zero (J : Nat → Nat → Bool) (n : Nat) : gwTo J n 0 = [] := rfl
theorem gwTo_succ (J : Nat → Nat → Bool) (n x : Nat) : gwTo J n (x + 1) = gwTo J n x ++ rowTo J x n := by
  unfold gwTo
  rw [List.range_succ, List.flatMap_append]
  simp
theorem rowTo_len (J : Nat → Nat → Bool) (x y : Nat) : (rowTo J x y).length ≤ y := by
  unfold rowTo
  rw [List.length_map]
  have := List.length_filter_le (fun z : Nat => decide (x < z) && J x z) (List.range y)
  simpa using this
theorem gwTo_len (J : Nat → Nat → Bool) (n x : Nat) : (gwTo J n x).length ≤ x * n := by
  induction x with
  | zero => simp [gwTo]
  | succ x ih =>
    rw [gwTo_succ, List.length_append, Nat.succ_mul]
    have := rowTo_len J x n
    omega
theorem gwTo_len64 (J : Nat → Nat → Bool) (n x y : Nat) (h : n ≤ 8) (hx : x ≤ n) (hy : y ≤ n) : (gwTo J n x ++ rowTo J x y).length ≤ 72 := by
  rw [List.length_append]
  have h1 := gwTo_len J n x
  have h2 := rowTo_len J x y
  have : x * n ≤ 8 * 8 := Nat.mul_le_mul (by omega) h
  omega
theorem mem_rowTo {J : Nat → Nat → Bool} {x y : Nat} {e : Ed} : e ∈ rowTo J x y ↔ ∃ z, x < z ∧ z < y ∧ J x z = true ∧ e = ((x : Int), (z : Int)) := by
  unfold rowTo
  simp only [List.mem_map, List.mem_filter, List.mem_range, Bool.and_eq_true, decide_eq_true_eq]
  constructor
  · rintro ⟨z, ⟨h1, h2, h3⟩, rfl⟩; exact ⟨z, h2, h1, h3, rfl⟩
  · rintro ⟨z, h2, h1, h3, rfl⟩; exact ⟨z, ⟨h1, h2, h3⟩, rfl⟩
theorem mem_gw {n : Nat} {J : Nat → Nat → Bool} {e : Ed} : e ∈ gw n J ↔ ∃ x z : Nat, x < z ∧ z < n ∧ J x z = true ∧ e = ((x : Int), (z : Int)) := by
  unfold gw gwTo
  simp only [List.mem_flatMap, List.mem_range, mem_rowTo]
  constructor
  · rintro ⟨x, _, z, h1, h2, h3, rfl⟩; exact ⟨x, z, h1, h2, h3, rfl⟩
  · rintro ⟨x, z, h1, h2, h3, rfl⟩; exact ⟨x, by omega, z, h1, h2, h3, rfl⟩
theorem rowTo_sorted (J : Nat → Nat → Bool) (x y : Nat) : (rowTo J x y).Pairwise Lex := by
  unfold rowTo
  rw [List.pairwise_map]
  refine List.Pairwise.imp ?_ (List.Pairwise.filter _ List.pairwise_lt_range)
  intro a b h
  exact .inr ⟨rfl, by simp only; omega⟩
theorem gwTo_sorted (J : Nat → Nat → Bool) (n x : Nat) : (gwTo J n x).Pairwise Lex := by
  induction x with
  | zero => simp [gwTo]
  | succ x ih =>
    rw [gwTo_succ, List.pairwise_append]
    refine ⟨ih, rowTo_sorted J x n, fun a ha b hb => ?_⟩
    unfold gwTo at ha
    simp only [List.mem_flatMap, List.mem_range] at ha
    obtain ⟨v, hv, ha⟩ := ha
    obtain ⟨z, _, _, _, rfl⟩ := mem_rowTo.1 ha
    obtain ⟨z', _, _, _, rfl⟩ := mem_rowTo.1 hb
    exact .inl (by simp only; omega)
theorem gw_good (n : Nat) (J : Nat → Nat → Bool) (h : n ≤ 8) : Good n (gw n J) :=
  good_of (by omega) (by omega) (fun e he => by
    obtain ⟨x, z, h1, h2, _, rfl⟩ := mem_gw.1 he
    simp only
    omega) (gwTo_sorted J n n)
theorem gw_congr {n : Nat} {J K : Nat → Nat → Bool} (h : ∀ x y, x < y → y < n → J x y = K x y) : gw n J = gw n K :=
  sorted_ext (gwTo_sorted J n n) (gwTo_sorted K n n) fun e => by
    rw [mem_gw, mem_gw]
    constructor
    · rintro ⟨x, z, h1, h2, h3, rfl⟩; exact ⟨x, z, h1, h2, by rw [← h x z h1 h2]; exact h3, rfl⟩
    · rintro ⟨x, z, h1, h2, h3, rfl⟩; exact ⟨x, z, h1, h2, by rw [h x z h1 h2]; exact h3, rfl⟩
/-- a list of edges in order is what its own test gives -/
theorem good_gw {n : Nat} {l : List Ed} (h : Good n l) : l = gw n fun x y => adj l x y :=
  sorted_ext h.sorted (gwTo_sorted _ n n) fun e => by
    rw [mem_gw]
    constructor
    · intro he
      have := h.mem he
      refine ⟨e.1.toNat, e.2.toNat, by omega, by omega, ?_, ?_⟩
      · rw [show ((e.1.toNat : Nat) : Int) = e.1 from by omega, show ((e.2.toNat : Nat) : Int) = e.2 from by omega]
        rw [adj, decide_eq_true_iff]
        exact .inl he
      · rw [show ((e.1.toNat : Nat) : Int) = e.1 from by omega, show ((e.2.toNat : Nat) : Int) = e.2 from by omega]
    · rintro ⟨x, z, h1, h2, h3, rfl⟩
      rw [adj_lt h (by omega), decide_eq_true_iff] at h3
      exact h3
theorem adj_gw {n : Nat} {J : Nat → Nat → Bool} {x y : Nat} (hxy : x < y) (hy : y < n) : adj (gw n J) x y = J x y := by
  unfold adj
  rw [Bool.eq_iff_iff, decide_eq_true_iff, mem_gw, mem_gw]
  constructor
  · rintro (⟨a, b, h1, h2, h3, he⟩ | ⟨a, b, h1, h2, h3, he⟩)
    · simp only [Prod.mk.injEq] at he
      obtain rfl : x = a := by omega
      obtain rfl : y = b := by omega
      exact h3
    · simp only [Prod.mk.injEq] at he; omega
  · intro h; exact .inl ⟨x, y, hxy, hy, h, rfl⟩
theorem good_ext {s : Int} {l1 l2 : List Ed} (h1 : Good s l1) (h2 : Good s l2) (h : ∀ x y : Int, 0 ≤ x → x < y → y < s → adj l1 x y = adj l2 x y) : l1 = l2 :=
  sorted_ext h1.sorted h2.sorted fun e => by
    have key : ∀ {l1 l2 : List Ed}, Good s l1 → Good s l2 → (∀ x y : Int, 0 ≤ x → x < y → y < s → adj l1 x y = adj l2 x y) → e ∈ l1 → e ∈ l2 := by
      intro l1 l2 h1 h2 h he
      have hm := h1.mem he
      have := h e.1 e.2 hm.1 hm.2.1 hm.2.2
      rw [adj_lt h1 hm.2.1, adj_lt h2 hm.2.1, decide_eq_decide] at this
      exact this.1 he
    exact ⟨key h1 h2 h, key h2 h1 fun x y a b c => (h x y a b c).symm⟩
end Go.Proofs.Ytpeobnmfndelhaa.P2

/- Words for memory: slices that read as lists of integers and of edges, nil let in; rows of the call's own. It imports nothing of the program. -/
namespace Go.Proofs.Ytpeobnmfndelhaa.words
open Go.RowKit P2

theorem ret_int {k : IntKind} {a b : Int} (h : a = b) : Ending.returned (.int k a) = .returned (.int k b) := by rw [h]
theorem ret_bool {a b : Bool} (h : a = b) : Ending.returned (.bool a) = .returned (.bool b) := by rw [h]

def cellsI (l : List Int) : List Value := l.map (Value.int .i64)
def cellsE (l : List Ed) : List Value := l.flatMap fun e : Ed => [.int .i64 e.1, .int .i64 e.2]
theorem cellsI_len (l : List Int) : (cellsI l).length = l.length * 1 := by simp [cellsI]
theorem cellsE_len (l : List Ed) : (cellsE l).length = l.length * 2 := by
  induction l with
  | nil => rfl
  | cons a l ih => simp only [cellsE, List.flatMap_cons, List.length_append, List.length_cons, List.length_nil] at ih ⊢; omega
theorem cellsI_at {l : List Int} {k : Nat} {x : Int} (h : l[k]? = some x) : (cellsI l)[k]? = some (.int .i64 x) := by simp [cellsI, h]
theorem cellsE_at : ∀ {l : List Ed} {k : Nat} {e : Ed}, l[k]? = some e → (cellsE l)[k * 2]? = some (.int .i64 e.1) ∧ (cellsE l)[k * 2 + 1]? = some (.int .i64 e.2)
  | [], _, _, h => by simp at h
  | a :: l, 0, e, h => by
    simp at h
    subst h
    exact ⟨rfl, rfl⟩
  | a :: l, k + 1, e, h => by
    have := cellsE_at (l := l) (k := k) (e := e) (by simpa using h)
    simp only [cellsE, List.flatMap_cons] at this ⊢
    rw [show (k + 1) * 2 = (k * 2) + 2 from by omega, show k * 2 + 2 + 1 = (k * 2 + 1) + 2 from by omega]
    exact this
theorem cellsI_app (l m : List Int) : cellsI (l ++ m) = cellsI l ++ cellsI m := by simp [cellsI]
theorem cellsE_app (l m : List Ed) : cellsE (l ++ m) = cellsE l ++ cellsE m := by simp [cellsE]

/-- a slice that reads as n elements of so many cells each; nil let in -/
def Reads (w : World) (_size : Nat) (v : Value) (n : Nat) (xs : List Value) : Prop :=
  ∃ A c, v = .slice A n c ∧ (0 < n → ∃ g o, A = some ⟨g, o, none⟩ ∧ n ≤ c ∧ ∀ j u, xs[j]? = some u → w.cell? ⟨g, o + j, none⟩ = some u)
abbrev Ints (w : World) (v : Value) (l : List Int) : Prop := Reads w 1 v l.length (cellsI l)
abbrev Edges (w : World) (v : Value) (l : List Ed) : Prop := Reads w 2 v l.length (cellsE l)

section
variable {w w' : World} {B size n : Nat} {v : Value} {xs : List Value}
theorem Reads.keep (h : Reads w size v n xs) (hk : ∀ p : Addr, p.block < w.heap.size → w'.cell? p = w.cell? p) : Reads w' size v n xs := by
  obtain ⟨A, c, e, hx⟩ := h
  refine ⟨A, c, e, fun hn => ?_⟩
  obtain ⟨g, o, eA, hc, hj⟩ := hx hn
  exact ⟨g, o, eA, hc, fun j u hu => (hk ⟨g, o + j, none⟩ (World.block_lt_of_cell? w (a := ⟨g, o + j, none⟩) (hj j u hu))).trans (hj j u hu)⟩
theorem Reads.below (h : Reads w size v n xs) (hb : Below w.heap.size w w') : Reads w' size v n xs := by
  obtain ⟨A, c, e, hx⟩ := h
  refine ⟨A, c, e, fun hn => ?_⟩
  obtain ⟨g, o, eA, hc, hj⟩ := hx hn
  exact ⟨g, o, eA, hc, fun j u hu => (hb.cell (p := ⟨g, o + j, none⟩) (World.block_lt_of_cell? w (a := ⟨g, o + j, none⟩) (hj j u hu))).trans (hj j u hu)⟩
theorem Reads.of_own {t : TypeId} (h : w.ownsRow B t size v n xs) : Reads w size v n xs := by
  rcases h.2 with ⟨rfl, rfl⟩ | ⟨g, cap, cur, rfl, _, _, hc, _⟩
  · exact ⟨none, 0, rfl, fun hn => by omega⟩
  · refine ⟨_, cap, rfl, fun _ => ⟨g, 0, rfl, hc, fun j u hu => ?_⟩⟩
    have hj : j < n * size := by rw [← h.1]; exact (List.getElem?_eq_some_iff.1 hu).1
    rw [Nat.zero_add, h.cellAt j hj, hu]
theorem Reads.nil (w : World) (size : Nat) : Reads w size (.slice none 0 0) 0 [] := ⟨none, 0, rfl, fun h => by omega⟩
theorem Reads.grown {row : Option Nat} (h : Reads w size v n xs) (hg : w.grownBy w' row) (hne : ∀ g o k c, v = .slice (some ⟨g, o, none⟩) k c → some g ≠ row) : Reads w' size v n xs := by
  obtain ⟨A, c, e, hx⟩ := h
  refine ⟨A, c, e, fun hn => ?_⟩
  obtain ⟨g, o, eA, hc, hj⟩ := hx hn
  refine ⟨g, o, eA, hc, fun j u hu => ?_⟩
  subst eA
  exact hg.cell (a := ⟨g, o + j, none⟩) (hj j u hu) (hne g o n c e)
end
theorem Ints.at_ {w : World} {v : Value} {l : List Int} {k : Nat} {x : Int} (h : Ints w v l) (hk : l[k]? = some x) :
    ∃ g o c, v = .slice (some ⟨g, o, none⟩) l.length c ∧ w.cell? ⟨g, o + k, none⟩ = some (.int .i64 x) := by
  obtain ⟨A, c, e, hx⟩ := h
  obtain ⟨g, o, rfl, _, hj⟩ := hx (by have := (List.getElem?_eq_some_iff.1 hk).1; omega)
  exact ⟨g, o, c, e, hj k _ (cellsI_at hk)⟩
theorem Edges.at_ {w : World} {v : Value} {l : List Ed} {k : Nat} {x : Ed} (h : Edges w v l) (hk : l[k]? = some x) :
    ∃ g o c, v = .slice (some ⟨g, o, none⟩) l.length c ∧ w.cell? ⟨g, o + k * 2, none⟩ = some (.int .i64 x.1) ∧ w.cell? ⟨g, o + k * 2 + 1, none⟩ = some (.int .i64 x.2) := by
  obtain ⟨A, c, e, hx⟩ := h
  obtain ⟨g, o, rfl, _, hj⟩ := hx (by have := (List.getElem?_eq_some_iff.1 hk).1; omega)
  exact ⟨g, o, c, e, hj _ _ (cellsE_at hk).1, hj _ _ (cellsE_at hk).2⟩
/-- the address of a slice is no matter where it is empty -/
theorem Edges.form {w : World} {v : Value} {l : List Ed} (h : Edges w v l) : ∃ A c, v = .slice A l.length c ∧ ∀ (k : Nat) (x : Ed), l[k]? = some x → ∃ g o, A = some ⟨g, o, none⟩ ∧ w.cell? ⟨g, o + k * 2, none⟩ = some (.int .i64 x.1) ∧ w.cell? ⟨g, o + k * 2 + 1, none⟩ = some (.int .i64 x.2) := by
  obtain ⟨A, c, e, hx⟩ := h
  refine ⟨A, c, e, fun k x hk => ?_⟩
  obtain ⟨g, o, rfl, _, hj⟩ := hx (by have := (List.getElem?_eq_some_iff.1 hk).1; omega)
  exact ⟨g, o, rfl, hj _ _ (cellsE_at hk).1, hj _ _ (cellsE_at hk).2⟩
theorem Ints.form {w : World} {v : Value} {l : List Int} (h : Ints w v l) : ∃ A c, v = .slice A l.length c ∧ ∀ (k : Nat) (x : Int), l[k]? = some x → ∃ g o, A = some ⟨g, o, none⟩ ∧ w.cell? ⟨g, o + k, none⟩ = some (.int .i64 x) := by
  obtain ⟨A, c, e, hx⟩ := h
  refine ⟨A, c, e, fun k x hk => ?_⟩
  obtain ⟨g, o, rfl, _, hj⟩ := hx (by have := (List.getElem?_eq_some_iff.1 hk).1; omega)
  exact ⟨g, o, rfl, hj _ _ (cellsI_at hk)⟩

theorem run_make_rowN {P : Program} (t e : TypeId) (i : TypeInfo) (z : Value) (ht : P.underlying t = some (.slice e)) (hi : P.info? e = some i) (hz : i.zero = some z)
    (kl kc : IntKind) (n c : Nat) (hnc : n ≤ c) (hbytes : i.bytes * c ≤ 281474976710656) (h63 : c ≤ 9223372036854775807) (w : World) :
    (Instr.makeSlice t (.int kl (n : Int)) (.int kc (c : Int))).run P w = .ok (.slice (some ⟨w.heap.size, 0, none⟩) n c) (w.alloc (.cells (madeCells z.cells (c * i.size)) e)) := by
  have hb : (i.bytes : Int) * (c : Int) ≤ 281474976710656 := by
    have h : ((i.bytes * c : Nat) : Int) ≤ 281474976710656 := by omega
    rwa [Int.natCast_mul] at h
  have hr := run_make (P := P) w t e i z ht hi hz kl kc n c (by omega) (by omega) hb (by omega)
  simp only [Int.toNat_natCast] at hr
  exact hr
/-- a store into a place of the two cells of an element -/
theorem own_store2 {w : World} {B : Nat} {t : TypeId} {g n c : Nat} {xs : List Value} (h : w.ownsRow B t 2 (.slice (some ⟨g, 0, none⟩) n c) n xs) (k : Nat) (a b : Value) :
    ((w.setCell ⟨g, k * 2, none⟩ a).setCell ⟨g, k * 2 + 1, none⟩ b).ownsRow B t 2 (.slice (some ⟨g, 0, none⟩) n c) n ((xs.set (k * 2) a).set (k * 2 + 1) b) :=
  ((h.stored (k * 2) a).1.stored (k * 2 + 1) b).1
theorem gtrans {a w w' : World} {row : Option Nat} (h : a.grownBy w row) (k : w.grownBy w' row) : a.grownBy w' row :=
  ⟨k.os.trans h.os, k.tape.trans h.tape, k.output.trans h.output, Nat.le_trans h.size k.size, fun i hi hne => (k.block i (Nat.lt_of_lt_of_le hi h.size) hne).trans (h.block i hi hne)⟩
theorem gof {w w' : World} (hb : Below w.heap.size w w') (row : Option Nat) : w.grownBy w' row := ⟨hb.os, hb.tape, hb.output, hb.size, fun i hi _ => hb.block i hi⟩
theorem gset {a w : World} {g : Nat} (h : a.grownBy w (some g)) (j : Nat) (u : Value) : a.grownBy (w.setCell ⟨g, j, none⟩ u) (some g) :=
  ⟨h.os, h.tape, h.output, by simpa [World.setCell] using h.size, fun i hi hne => (Below.heap_setCell w ⟨g, j, none⟩ u i (fun e => hne (by rw [e]))).trans (h.block i hi hne)⟩
theorem bof {w w' : World} {B : Nat} {row : Option Nat} (hg : w.grownBy w' row) (hB : B ≤ w.heap.size) (hr : ∀ k, row = some k → B ≤ k) : Below B w w' := (Below.refl B w).grown hg hB hr
theorem btrans {a b c : World} (h : Below a.heap.size a b) (k : Below b.heap.size b c) : Below a.heap.size a c := h.trans (k.mono h.size)
/-- a block of cells, none frozen -/
def Blk (w : World) (g : Nat) (t : TypeId) (cs : Array Value) : Prop := w.heap[g]? = some (.cells cs t (0, 0))
section
variable {w w' : World} {g : Nat} {t : TypeId} {cs : Array Value}
theorem Blk.lt (h : Blk w g t cs) : g < w.heap.size := by
  rcases Nat.lt_or_ge g w.heap.size with hlt | hge
  · exact hlt
  · unfold Blk at h; rw [Array.getElem?_eq_none hge] at h; cases h
theorem Blk.cell (h : Blk w g t cs) (i : Nat) : w.cell? ⟨g, i, none⟩ = cs[i]? := cell_of_row w g i cs t (0, 0) h
theorem Blk.frozen (h : Blk w g t cs) (i : Nat) : w.frozen? ⟨g, i, none⟩ = false := by
  unfold Blk at h
  simp [World.frozen?, h]
theorem Blk.new (w : World) (t : TypeId) (cs : Array Value) : Blk (w.alloc (.cells cs t)) w.heap.size t cs := heap_alloc_new w _
theorem Blk.alloc (h : Blk w g t cs) (o : Obj) : Blk (w.alloc o) g t cs := (Below.heap_alloc w o g h.lt).trans h
theorem Blk.drewN (h : Blk w g t cs) (n : Nat) : Blk (w.drewN n) g t cs := h
theorem Blk.set_ (h : Blk w g t cs) (i : Nat) (u : Value) : Blk (w.setCell ⟨g, i, none⟩ u) g t (cs.setIfInBounds i u) := by
  unfold Blk at h ⊢
  simp [World.setCell, Array.getElem?_modify, h]
theorem Blk.far (h : Blk w g t cs) {p : Addr} (hp : g ≠ p.block) (u : Value) : Blk (w.setCell p u) g t cs := (Below.heap_setCell w p u g hp).trans h
theorem Blk.below {B : Nat} (h : Blk w g t cs) (hb : Below B w w') (hg : g < B) : Blk w' g t cs := (hb.block g hg).trans h
theorem Blk.grown {row : Option Nat} (h : Blk w g t cs) (hb : w.grownBy w' row) (hg : some g ≠ row) : Blk w' g t cs := (hb.block g h.lt hg).trans h
end
/-- the two cells of a block, as the walk asks for them -/
theorem Blk.two {w : World} {g : Nat} {t : TypeId} {a b : Value} (h : Blk w g t #[a, b]) :
    w.cell? ⟨g, 0, none⟩ = some a ∧ w.cell? ⟨g, 1, none⟩ = some b ∧ w.frozen? ⟨g, 0, none⟩ = false ∧ w.frozen? ⟨g, 1, none⟩ = false :=
  ⟨h.cell 0, h.cell 1, h.frozen 0, h.frozen 1⟩
theorem Blk.one {w : World} {g : Nat} {t : TypeId} {a : Value} (h : Blk w g t #[a]) : w.cell? ⟨g, 0, none⟩ = some a ∧ w.frozen? ⟨g, 0, none⟩ = false := ⟨h.cell 0, h.frozen 0⟩

theorem own_base {w : World} {B B' : Nat} {t : TypeId} {size n : Nat} {v : Value} {xs : List Value} (h : w.ownsRow B t size v n xs) (hB : B' ≤ B) : w.ownsRow B' t size v n xs := by
  obtain ⟨h1, h2⟩ := h
  refine ⟨h1, ?_⟩
  rcases h2 with h2 | ⟨g, cap, cur, hv, hg, rest⟩
  · exact .inl h2
  · exact .inr ⟨g, cap, cur, hv, by omega, rest⟩
theorem own_form {w : World} {B : Nat} {t : TypeId} {size n : Nat} {v : Value} {xs : List Value} (h : w.ownsRow B t size v n xs) : ∃ A c, v = .slice A n c := by
  rcases h.2 with ⟨rfl, rfl⟩ | ⟨g, cap, cur, rfl, _⟩
  · exact ⟨_, _, rfl⟩
  · exact ⟨_, _, rfl⟩
theorem own_below {w w' : World} {B : Nat} {t : TypeId} {size n : Nat} {v : Value} {xs : List Value} (h : w.ownsRow B t size v n xs) (hb : Below w.heap.size w w') : w'.ownsRow B t size v n xs :=
  h.kept (gof hb none) (by cases v.ownBlock <;> simp)

/-- cells that a callee keeps, said anew behind it -/
theorem keepc {P : Program} {f : FuncId} {args : Array Value} {W : World} {R : Ending → Prop} {p : Addr} {a : Value}
    (h : Calls P f args W fun e w' => R e ∧ Below W.heap.size W w') (hp : W.cell? p = some a) :
    Calls P f args W fun e w' => R e ∧ w'.cell? p = some a ∧ Below W.heap.size W w' :=
  h.mono fun _ _ ⟨he, hb⟩ => ⟨he, (hb.cell (World.block_lt_of_cell? W _ hp)).trans hp, hb⟩
theorem keep4 {P : Program} {f : FuncId} {args : Array Value} {W : World} {R : Ending → Prop} {p q r s : Addr} {a b c d : Value}
    (h : Calls P f args W fun e w' => R e ∧ Below W.heap.size W w') (hp : W.cell? p = some a) (hq : W.cell? q = some b) (hr : W.cell? r = some c) (hs : W.cell? s = some d) :
    Calls P f args W fun e w' => R e ∧ w'.cell? p = some a ∧ w'.cell? q = some b ∧ w'.cell? r = some c ∧ w'.cell? s = some d ∧ Below W.heap.size W w' :=
  h.mono fun _ _ ⟨he, hb⟩ => ⟨he, (hb.cell (World.block_lt_of_cell? W _ hp)).trans hp, (hb.cell (World.block_lt_of_cell? W _ hq)).trans hq, (hb.cell (World.block_lt_of_cell? W _ hr)).trans hr, (hb.cell (World.block_lt_of_cell? W _ hs)).trans hs, hb⟩
theorem keep4r {P : Program} {f : FuncId} {args : Array Value} {W : World} {R : Ending → World → Prop} {p q r s : Addr} {a b c d : Value}
    (h : Calls P f args W fun e w' => R e w' ∧ Below W.heap.size W w') (hp : W.cell? p = some a) (hq : W.cell? q = some b) (hr : W.cell? r = some c) (hs : W.cell? s = some d) :
    Calls P f args W fun e w' => R e w' ∧ w'.cell? p = some a ∧ w'.cell? q = some b ∧ w'.cell? r = some c ∧ w'.cell? s = some d ∧ Below W.heap.size W w' :=
  h.mono fun _ _ ⟨he, hb⟩ => ⟨he, (hb.cell (World.block_lt_of_cell? W _ hp)).trans hp, (hb.cell (World.block_lt_of_cell? W _ hq)).trans hq, (hb.cell (World.block_lt_of_cell? W _ hr)).trans hr, (hb.cell (World.block_lt_of_cell? W _ hs)).trans hs, hb⟩
end Go.Proofs.Ytpeobnmfndelhaa.words

/- The contracts of the laws' helpers over slices of integers: copies, comparisons, marks. -/
namespace Go.Proofs.Ytpeobnmfndelhaa.ints
open Go.RowKit P2 words

theorem infoInt : (Try.prog.info? 3).map (fun i => (i.zero, i.size, i.bytes)) = some (some (.int .i64 0), 1, 8) := by kernel_rfl

/-- a new row of one number, and an empty one -/
theorem own_new1 (w : World) (t : TypeId) (x : Int) : (w.alloc (.cells #[.int .i64 x] t)).ownsRow w.heap.size t 1 (.slice (some ⟨w.heap.size, 0, none⟩) 1 1) [x].length (cellsI [x]) :=
  World.ownsRow_lit (size := 1) w #[.int .i64 x] 1 (Nat.le_refl _) (by unfold maxLen; omega) rfl
theorem own_new0 (w : World) (t : TypeId) (size : Nat) : (w.alloc (.cells #[] t)).ownsRow w.heap.size t size (.slice (some ⟨w.heap.size, 0, none⟩) 0 0) 0 [] :=
  World.ownsRow_lit w #[] 0 (Nat.le_refl _) (Nat.zero_le _) (by simp)
set_option maxHeartbeats 400000 in
theorem eqIntS_yes (a b : Value) (l : List Int) (w : World) (ha : Ints w a l) (hb : Ints w b l) (hl : l.length ≤ 1048576) :
    Calls Try.prog 20 #[a, b] w fun e w' => e = .returned (.bool true) ∧ ∃ n, w' = w.drewN n := by
  obtain ⟨A1, c1, rfl, h1⟩ := ha.form
  obtain ⟨A2, c2, rfl, h2⟩ := hb.form
  have H1 := Lib.hid h1
  have H2 := Lib.hid h2
  clear h1 h2 ha hb
  go_enter Try.func20, Try.ntmps20
  go_wp2_with fail
  go_loopw [5] (fun i wr => ∃ k : Nat, k ≤ l.length ∧ i = .int .i64 (k : Int) ∧ ∃ n, wr = w.drewN n) (fun i _ => l.length - (intOf i).toNat)
  case atStart => exact ⟨0, Nat.zero_le _, rfl, 0, rfl⟩
  case round =>
    obtain ⟨k, hk, rfl, n, rfl⟩ := hrel
    by_cases hlt : k < l.length
    · obtain ⟨x, hx⟩ : ∃ x, l[k]? = some x := ⟨_, List.getElem?_eq_getElem hlt⟩
      obtain ⟨g1, o1, rfl, p0⟩ := H1.out k x hx
      obtain ⟨g2, o2, rfl, q0⟩ := H2.out k x hx
      have hlt' : (k : Int) < (l.length : Int) := by omega
      have hs : (x != x) = false := by simp
      clear hx
      go_wp2_with fail
      go_quiet (fail)
      go_wp2_with fail
      go_roundw
      case rel => exact ⟨k + 1, by omega, by go_num, _, rfl⟩
      case measure => simp [intOf]; omega
    · go_wp2_with fail
      go_ret
      exact ⟨rfl, _, rfl⟩

/-- the marks of n numbers, the first m -/
def marksI (m n : Nat) : List Int := (List.range n).map fun j : Nat => ((m + j : Nat) : Int)
theorem marksI_len (m n : Nat) : (marksI m n).length = n := by simp [marksI]
theorem marksI_at {m n j : Nat} (h : j < n) : (marksI m n)[j]? = some ((m + j : Nat) : Int) := by simp [marksI, h]
theorem marksI_succ (m n : Nat) : marksI m (n + 1) = marksI m n ++ [((m + n : Nat) : Int)] := by simp [marksI, List.range_succ]
def markedI (m k : Nat) (l : List Int) : List Value := cellsI (marksI m k ++ l.drop k)
theorem markedI_zero (m : Nat) (l : List Int) : markedI m 0 l = cellsI l := by simp [markedI, marksI]
theorem markedI_all (m : Nat) (l : List Int) : markedI m l.length l = cellsI (marksI m l.length) := by simp [markedI]
theorem markedI_set (m k : Nat) (l : List Int) (hk : k < l.length) : (markedI m k l).set k (.int .i64 ((m + k : Nat) : Int)) = markedI m (k + 1) l := by
  unfold markedI cellsI
  rw [← List.map_set, marksI_succ]
  congr 1
  rw [List.set_append_right _ _ (by rw [marksI_len]; exact Nat.le_refl _), marksI_len, Nat.sub_self, List.drop_eq_getElem_cons hk, List.set_cons_zero, List.append_assoc]
  rfl

set_option maxHeartbeats 400000 in
theorem markIntS_any (v : Value) (l : List Int) (B m : Nat) (w : World) (h : w.ownsRow B 3 1 v l.length (cellsI l)) (hl : m + l.length ≤ 10000000) :
    Calls Try.prog 22 #[v, .int .i64 (m : Int)] w fun e w' => e = .returned (.int .i64 ((m + l.length : Nat) : Int)) ∧ w'.ownsRow B 3 1 v l.length (cellsI (marksI m l.length)) ∧ w.grownBy w' v.ownBlock := by
  obtain ⟨A, c, rfl⟩ := own_form h
  have h0 := h
  rw [← markedI_zero m l] at h0
  have H0 := Lib.hid h0
  clear h h0
  go_enter Try.func22, Try.ntmps22
  go_wp2_with fail
  go_loopw [1, 5] (fun q i wr => ∃ k : Nat, k ≤ l.length ∧ i = .int .i64 (k : Int) ∧ q = .int .i64 ((m + k : Nat) : Int) ∧ wr.ownsRow B 3 1 (.slice A l.length c) l.length (markedI m k l) ∧ w.grownBy wr (Value.slice A l.length c).ownBlock)
    (fun _ i _ => l.length - (intOf i).toNat)
  case atStart => exact ⟨0, Nat.zero_le _, rfl, rfl, H0.out, World.grownBy.refl _ _⟩
  case round =>
    obtain ⟨k, hk, rfl, rfl, hrow, hg⟩ := hrel
    by_cases hlt : k < l.length
    · obtain ⟨g, cap, hf⟩ : ∃ g cap, Value.slice A l.length c = .slice (some ⟨g, 0, none⟩) l.length cap := by
        rcases hrow.2 with ⟨hf, h0⟩ | ⟨g, cap, cur, hf, _⟩
        · omega
        · exact ⟨g, cap, hf⟩
      obtain ⟨rfl, rfl⟩ : A = some ⟨g, 0, none⟩ ∧ c = cap := by simpa using hf
      have hlt' : (k : Int) < (l.length : Int) := by omega
      have hlc : (markedI m k l).length = l.length := by have := hrow.1; omega
      obtain ⟨u, hu⟩ : ∃ u, (markedI m k l)[k]? = some u := ⟨_, List.getElem?_eq_getElem (by omega)⟩
      have f0 := hrow.cellAt k (by omega)
      rw [hu] at f0
      have z0 := hrow.frozenAt k
      have hst := (hrow.stored k (.int .i64 ((m + k : Nat) : Int))).1
      rw [markedI_set m k l hlt] at hst
      have HST := Lib.hid hst
      have HG := Lib.hid hg
      clear hst hu hf hrow hlc hg
      go_wp2_with fail
      go_roundw
      case rel => exact ⟨k + 1, by omega, by go_num, by go_num, HST.out, gset HG.out _ _⟩
      case measure => simp [intOf]; omega
    · obtain rfl : k = l.length := by omega
      rw [markedI_all] at hrow
      go_wp2_with fail
      go_ret
      exact ⟨rfl, hrow, hg⟩

set_option maxHeartbeats 400000 in
theorem heldIntS_any (v : Value) (n m : Nat) (w : World) (h : Ints w v (marksI m n)) (hl : m + n ≤ 10000000) :
    Calls Try.prog 27 #[v, .int .i64 (m : Int)] w fun e w' => e = .returned (.int .i64 ((m + n : Nat) : Int)) ∧ w = w' := by
  obtain ⟨A, c, rfl, hc⟩ := h.form
  have hle := marksI_len m n
  rw [hle] at *
  have HC := Lib.hid hc
  clear hc h hle
  go_enter Try.func27, Try.ntmps27
  go_wp2_with fail
  go_loop [1, 5] (fun q i => ∃ k : Nat, k ≤ n ∧ i = .int .i64 (k : Int) ∧ q = .int .i64 ((m + k : Nat) : Int)) (fun _ i => n - (intOf i).toNat)
  case atStart => exact ⟨0, Nat.zero_le _, rfl, rfl⟩
  case round =>
    obtain ⟨k, hk, rfl, rfl⟩ := hrel
    by_cases hlt : k < n
    · obtain ⟨g, o, rfl, c0⟩ := HC.out k _ (marksI_at hlt)
      have hlt' : (k : Int) < (n : Int) := by omega
      go_wp2_with fail
      go_round
      case rel => exact ⟨k + 1, by omega, by go_num, by go_num⟩
      case measure => simp [intOf]; omega
    · obtain rfl : k = n := by omega
      go_wp2_with fail
      go_ret
      exact ⟨rfl, rfl⟩

/-- the first k numbers, then noughts -/
def copiedI (l : List Int) (k : Nat) : List Value := cellsI (l.take k ++ List.replicate (l.length - k) 0)
theorem copiedI_all (l : List Int) : copiedI l l.length = cellsI l := by simp [copiedI]
theorem copiedI_zero (l : List Int) : copiedI l 0 = List.replicate l.length (.int .i64 0) := by simp [copiedI, cellsI]
theorem copiedI_set {l : List Int} {k : Nat} {x : Int} (h : l[k]? = some x) : (copiedI l k).set k (.int .i64 x) = copiedI l (k + 1) := by
  obtain ⟨hk, he⟩ := List.getElem?_eq_some_iff.1 h
  have hl : (l.take k).length = k := by rw [List.length_take]; omega
  unfold copiedI cellsI
  rw [← List.map_set, show l.length - k = (l.length - (k + 1)) + 1 from by omega, List.replicate_succ, List.set_append_right _ _ (by omega), hl, Nat.sub_self, List.set_cons_zero, List.take_add_one, h]
  simp

set_option maxHeartbeats 400000 in
theorem toIntS_any (v : Value) (l : List Int) (w : World) (h : Ints w v l) (hl : l.length ≤ 1048576) :
    Calls Try.prog 16 #[v] w fun e w' => ∃ A c, e = .returned (.slice A l.length c) ∧ w'.ownsRow w.heap.size 3 1 (.slice A l.length c) l.length (cellsI l) ∧ Below w.heap.size w w' := by
  obtain ⟨A, c, rfl, hc⟩ := h.form
  obtain ⟨i0, hi, hz0, hz1, hz2⟩ := info_parts infoInt
  have hmk := run_make_rowN (P := Try.prog) 25 3 i0 (.int .i64 0) Try.underlying25 hi hz0 .i64 .i64 l.length l.length (Nat.le_refl _) (by rw [hz2]; omega) (by omega)
  have hown := World.ownsRow_lit (base := w.heap.size) (e := 3) (size := 1) w (madeCells #[Value.int .i64 0] (l.length * 1)) l.length (Nat.le_refl _) (by unfold maxLen; omega) (size_madeCells _ _)
  rw [toList_madeCells_one, Nat.mul_one, ← copiedI_zero] at hown
  have HOWN := Lib.hid hown
  have HC := Lib.hid hc
  clear hown hc
  go_enter Try.func16, Try.ntmps16
  go_wp2_with fail
  go_loopw [4] (fun i wr => ∃ k : Nat, k ≤ l.length ∧ i = .int .i64 (k : Int) ∧ wr.ownsRow w.heap.size 3 1 (.slice (some ⟨w.heap.size, 0, none⟩) l.length l.length) l.length (copiedI l k) ∧ Below w.heap.size w wr)
    (fun i _ => l.length - (intOf i).toNat)
  case atStart => exact ⟨0, Nat.zero_le _, rfl, HOWN.out, (Below.refl _ _).alloc (Nat.le_refl _) _⟩
  case round =>
    obtain ⟨k, hk, rfl, hrow, hB⟩ := hrel
    by_cases hlt : k < l.length
    · obtain ⟨x, hx⟩ : ∃ x, l[k]? = some x := ⟨_, List.getElem?_eq_getElem hlt⟩
      obtain ⟨g, o, rfl, c0⟩ := HC.out k x hx
      have hlt' : (k : Int) < (l.length : Int) := by omega
      have d0 : wr.cell? ⟨g, o + k, none⟩ = some (.int .i64 x) := (hB.cell (p := ⟨g, o + k, none⟩) (World.block_lt_of_cell? w (a := ⟨g, o + k, none⟩) c0)).trans c0
      have hlc : (copiedI l k).length = l.length := by have := hrow.1; omega
      obtain ⟨u, hu⟩ : ∃ u, (copiedI l k)[k]? = some u := ⟨_, List.getElem?_eq_getElem (by omega)⟩
      have f0 := hrow.cellAt k (by omega)
      rw [hu] at f0
      have z0 := hrow.frozenAt k
      have hst := (hrow.stored k (.int .i64 x)).1
      rw [copiedI_set hx] at hst
      have HST := Lib.hid hst
      have HB := Lib.hid hB
      clear hst hu hrow hB hlc hx c0
      go_wp2_with fail
      go_roundw
      case rel => exact ⟨k + 1, by omega, by go_num, HST.out, HB.out.setCell (Nat.le_refl _) _⟩
      case measure => simp [intOf]; omega
    · obtain rfl : k = l.length := by omega
      rw [copiedI_all] at hrow
      go_wp2_with fail
      go_ret
      exact ⟨_, _, rfl, hrow, hB⟩
end Go.Proofs.Ytpeobnmfndelhaa.ints

/- The contracts of the laws' helpers over edges and Graphs: sizes, copies, comparisons, marks. -/
namespace Go.Proofs.Ytpeobnmfndelhaa.edges
open Go.RowKit P2 words

theorem infoEd : (Try.prog.info? 115).map (fun i => (i.zero, i.size, i.bytes)) = some (some (.agg #[.int .i64 0, .int .i64 0]), 2, 16) := by kernel_rfl

theorem toIntA2_any (a b : Int) (w : World) :
    Calls Try.prog 114 #[.agg #[.int .i64 a, .int .i64 b]] w fun e w' => e = .returned (.agg #[.int .i64 a, .int .i64 b]) ∧ Below w.heap.size w w' := by
  go_enter Try.func114, Try.ntmps114
  go_wp2_with fail
  refine wp_loop_rounds 3 ?_
  iterate 3 (rw [rounds_succ]; go_wp2_with fail)
  refine bodyPost_ret (v := .agg #[.int .i64 a, .int .i64 b]) (by simp [results, Try.results114, go_sem]) rfl ⟨rfl, ?_⟩
  exact (((Below.refl _ _).alloc (Nat.le_refl _) _).alloc (by simp) _).alloc (by simp; omega) _

theorem eqIntA2_any (a b : Int) (w : World) :
    Calls Try.prog 119 #[.agg #[.int .i64 a, .int .i64 b], .agg #[.int .i64 a, .int .i64 b]] w fun e w' => e = .returned (.bool true) ∧ Below w.heap.size w w' := by
  go_enter Try.func119, Try.ntmps119
  go_wp2_with fail
  refine wp_loop_rounds 3 ?_
  iterate 2 (rw [rounds_succ]; go_wp2_with fail; go_quiet (fail); go_wp2_with fail)
  rw [rounds_succ]
  go_wp2_with fail
  go_ret
  exact ⟨rfl, below_drewN (((Below.refl _ _).alloc (Nat.le_refl _) _).alloc (by simp) _) _⟩

theorem szIntA2S_any (v : Value) (l : List Ed) (w : World) (h : Edges w v l) (hl : l.length ≤ maxLen) :
    Calls Try.prog 49 #[v, .int .i64 1048576] w fun e w' => e = .returned (.int .i64 (if l.length ≤ 1048576 then (1048576 - l.length : Int) else -1)) ∧ w = w' := by
  obtain ⟨A, c, rfl, -⟩ := h.form
  unfold maxLen at hl
  by_cases h1 : l.length ≤ 1048576
  · rw [if_pos h1]
    have h2 : (l.length : Int) ≤ 1048576 := by omega
    go_enter Try.func49, Try.ntmps49
    go_wp2_with fail
    go_ret
    exact ⟨rfl, rfl⟩
  · rw [if_neg h1]
    have h2 : (1048576 : Int) < (l.length : Int) := by omega
    go_enter Try.func49, Try.ntmps49
    go_wp2_with fail
    go_ret
    exact ⟨rfl, rfl⟩
theorem szGraph_any (s : Int) (v : Value) (l : List Ed) (w : World) (h : Edges w v l) (hl : l.length ≤ maxLen) :
    Calls Try.prog 13 #[.agg #[.int .i64 s, v], .int .i64 1048576] w fun e w' => e = .returned (.int .i64 (if l.length ≤ 1048576 then (1048576 - l.length : Int) else -1)) ∧ Below w.heap.size w w' := by
  obtain ⟨A, c, hv, -⟩ := h.form
  have hb := h.below ((Below.refl _ _).alloc (Nat.le_refl _) (.cells #[.int .i64 s, v] 24))
  have HS := Lib.hid (szIntA2S_any v l _ hb hl)
  subst hv
  by_cases h1 : l.length ≤ 1048576
  · rw [if_pos h1] at HS ⊢
    have h2 : (l.length : Int) ≤ 1048576 := by omega
    clear hb h
    go_enter Try.func13, Try.ntmps13
    go_wp2_with (go_at_call 49; refine HS.out.mono ?_; rintro e w' ⟨rfl, rfl⟩)
    go_ret
    exact ⟨rfl, (Below.refl _ _).alloc (Nat.le_refl _) _⟩
  · rw [if_neg h1] at HS ⊢
    clear hb h
    go_enter Try.func13, Try.ntmps13
    go_wp2_with (go_at_call 49; refine HS.out.mono ?_; rintro e w' ⟨rfl, rfl⟩)
    go_ret
    exact ⟨rfl, (Below.refl _ _).alloc (Nat.le_refl _) _⟩

/-- the first k edges, then empty ones -/
def copied (l : List Ed) (k : Nat) : List Value := cellsE (l.take k ++ List.replicate (l.length - k) (0, 0))
theorem copied_all (l : List Ed) : copied l l.length = cellsE l := by simp [copied]
theorem copied_zero (l : List Ed) : copied l 0 = cellsE (List.replicate l.length (0, 0)) := by simp [copied]
theorem cellsE_set (l m : List Ed) (a e : Ed) : ((cellsE (l ++ a :: m)).set (l.length * 2) (.int .i64 e.1)).set (l.length * 2 + 1) (.int .i64 e.2) = cellsE (l ++ e :: m) := by
  have hl := cellsE_len l
  have h2 : ∀ x : Ed, cellsE (x :: m) = .int .i64 x.1 :: .int .i64 x.2 :: cellsE m := fun x => rfl
  rw [cellsE_app, cellsE_app, h2, h2, ← hl, List.set_append_right _ _ (Nat.le_refl _), Nat.sub_self, List.set_cons_zero, List.set_append_right _ _ (by omega), show (cellsE l).length + 1 - (cellsE l).length = 1 from by omega]
  rfl
theorem copied_set {l : List Ed} {k : Nat} {e : Ed} (h : l[k]? = some e) : ((copied l k).set (k * 2) (.int .i64 e.1)).set (k * 2 + 1) (.int .i64 e.2) = copied l (k + 1) := by
  obtain ⟨hk, he⟩ := List.getElem?_eq_some_iff.1 h
  have hl : (l.take k).length = k := by rw [List.length_take]; omega
  unfold copied
  rw [show l.length - k = (l.length - (k + 1)) + 1 from by omega, List.replicate_succ]
  have := cellsE_set (l.take k) (List.replicate (l.length - (k + 1)) (0, 0)) (0, 0) e
  rw [hl] at this
  rw [this, List.take_add_one, h]
  simp
theorem made2 (n : Nat) : (madeCells #[Value.int .i64 0, Value.int .i64 0] (n * 2)).toList = cellsE (List.replicate n (0, 0)) := by
  apply List.ext_getElem?
  intro j
  have hr : ∀ k, k < n → (List.replicate n ((0, 0) : Ed))[k]? = some (0, 0) := fun k hk => by rw [List.getElem?_replicate, if_pos hk]
  by_cases hj : j < n * 2
  · rcases Nat.mod_two_eq_zero_or_one j with h0 | h0
    · obtain ⟨k, rfl⟩ : ∃ k, j = k * 2 := ⟨j / 2, by omega⟩
      rw [(cellsE_at (hr k (by omega))).1]
      simp [madeCells, hj]
    · obtain ⟨k, rfl⟩ : ∃ k, j = k * 2 + 1 := ⟨j / 2, by omega⟩
      rw [(cellsE_at (hr k (by omega))).2]
      simp [madeCells, hj, Nat.add_mod]
  · rw [List.getElem?_eq_none (by simp [madeCells]; omega), List.getElem?_eq_none (by rw [cellsE_len, List.length_replicate]; omega)]

set_option maxHeartbeats 400000 in
theorem toIntA2S_any (v : Value) (l : List Ed) (w : World) (h : Edges w v l) (hl : l.length ≤ 1048576) :
    Calls Try.prog 53 #[v] w fun e w' => ∃ A c, e = .returned (.slice A l.length c) ∧ w'.ownsRow w.heap.size 115 2 (.slice A l.length c) l.length (cellsE l) ∧ Below w.heap.size w w' := by
  obtain ⟨A, c, rfl, hc⟩ := h.form
  obtain ⟨i0, hi, hz0, hz1, hz2⟩ := info_parts infoEd
  have hmk := run_make_rowN (P := Try.prog) 22 115 i0 (.agg #[.int .i64 0, .int .i64 0]) Try.underlying22 hi hz0 .i64 .i64 l.length l.length (Nat.le_refl _) (by rw [hz2]; omega) (by omega)
  have hmm := made2 l.length
  have hown := World.ownsRow_lit (base := w.heap.size) (e := 115) (size := 2) w (madeCells #[Value.int .i64 0, Value.int .i64 0] (l.length * 2)) l.length (Nat.le_refl _) (by unfold maxLen; omega) (size_madeCells _ _)
  rw [hmm, ← copied_zero] at hown
  have HOWN := Lib.hid hown
  have HC := Lib.hid hc
  clear hown hmm hc
  go_enter Try.func53, Try.ntmps53
  go_wp2_with fail
  go_loopw [4] (fun i wr => ∃ k : Nat, k ≤ l.length ∧ i = .int .i64 (k : Int) ∧ wr.ownsRow w.heap.size 115 2 (.slice (some ⟨w.heap.size, 0, none⟩) l.length l.length) l.length (copied l k) ∧ Below w.heap.size w wr)
    (fun i _ => l.length - (intOf i).toNat)
  case atStart => exact ⟨0, Nat.zero_le _, rfl, HOWN.out, (Below.refl _ _).alloc (Nat.le_refl _) _⟩
  case round =>
    obtain ⟨k, hk, rfl, hrow, hB⟩ := hrel
    by_cases hlt : k < l.length
    · obtain ⟨x, hx⟩ : ∃ x, l[k]? = some x := ⟨_, List.getElem?_eq_getElem hlt⟩
      obtain ⟨g, o, rfl, c0, c1⟩ := HC.out k x hx
      have hlt' : (k : Int) < (l.length : Int) := by omega
      have d0 : wr.cell? ⟨g, o + k * 2, none⟩ = some (.int .i64 x.1) := (hB.cell (p := ⟨g, o + k * 2, none⟩) (World.block_lt_of_cell? w (a := ⟨g, o + k * 2, none⟩) c0)).trans c0
      have d1 : wr.cell? ⟨g, o + k * 2 + 1, none⟩ = some (.int .i64 x.2) := (hB.cell (p := ⟨g, o + k * 2 + 1, none⟩) (World.block_lt_of_cell? w (a := ⟨g, o + k * 2 + 1, none⟩) c1)).trans c1
      have HX := Lib.hid hx
      clear hx c0 c1
      obtain ⟨a, b⟩ := x
      go_wp2_with fail
      refine (toIntA2_any a b _).mono ?_
      rintro e w1 ⟨rfl, hb⟩
      have hrow1 := hrow.kept (gof hb none) (.inr (by simp [Value.ownBlock]))
      have hlc : (copied l k).length = l.length * 2 := by have := hrow1.1; omega
      obtain ⟨u, hu⟩ : ∃ u, (copied l k)[k * 2]? = some u := ⟨_, List.getElem?_eq_getElem (by omega)⟩
      obtain ⟨v, hv⟩ : ∃ v, (copied l k)[k * 2 + 1]? = some v := ⟨_, List.getElem?_eq_getElem (by omega)⟩
      have f0 := hrow1.cellAt (k * 2) (by omega)
      have f1 := hrow1.cellAt (k * 2 + 1) (by omega)
      rw [hu] at f0
      rw [hv] at f1
      have z0 := hrow1.frozenAt (k * 2)
      have z1 := hrow1.frozenAt (k * 2 + 1)
      have hst := own_store2 hrow1 k (.int .i64 a) (.int .i64 b)
      have := copied_set HX.out
      simp only at this
      rw [this] at hst
      have HST := Lib.hid hst
      have HB : Hid (Below w.heap.size w w1) := hB.trans (hb.mono hB.size)
      clear hst hu hv this hrow1 hrow hB
      go_wp2_with fail
      go_roundw
      case rel => exact ⟨k + 1, by omega, by go_num, HST.out, (HB.out.setCell (Nat.le_refl _) _).setCell (Nat.le_refl _) _⟩
      case measure => simp [intOf]; omega
    · obtain rfl : k = l.length := by omega
      rw [copied_all] at hrow
      go_wp2_with fail
      go_ret
      exact ⟨_, _, rfl, hrow, hB⟩

theorem toGraph_any (s : Int) (v : Value) (l : List Ed) (w : World) (h : Edges w v l) (hl : l.length ≤ 1048576) :
    Calls Try.prog 15 #[.agg #[.int .i64 s, v]] w fun e w' => ∃ A c, e = .returned (.agg #[.int .i64 s, .slice A l.length c]) ∧ w'.ownsRow w.heap.size 115 2 (.slice A l.length c) l.length (cellsE l) ∧ Below w.heap.size w w' := by
  have hw1 : Below w.heap.size w (((w.alloc (.cells #[.int .i64 s, v] 24)).alloc (.cells #[.int .i64 0, .slice none 0 0] 30)).alloc (.cells #[.int .i64 0, .slice none 0 0] 30)) :=
    (((Below.refl _ _).alloc (Nat.le_refl _) _).alloc (by simp) _).alloc (by simp; omega) _
  have hw2 := hw1.size
  obtain ⟨A, c, rfl, -⟩ := h.form
  have h0 := h.below ((((Below.refl w.heap.size w).alloc (Nat.le_refl _) (.cells #[.int .i64 s, .slice A l.length c] 24)).alloc (by simp) (.cells #[.int .i64 0, .slice none 0 0] 30)).alloc (by simp; omega) (.cells #[.int .i64 s, .slice none 0 0] 30))
  have HT := Lib.hid (toIntA2S_any _ l _ h0 hl)
  clear h0 h hw1 hw2
  go_enter Try.func15, Try.ntmps15
  go_wp2_with fail
  refine HT.out.mono ?_
  rintro e w1 ⟨A2, c2, rfl, hr, hb⟩
  obtain ⟨B1, -⟩ : Blk w1 (w.heap.size + 1) 30 #[.int .i64 0, .slice none 0 0] ∧ True := ⟨Blk.below (B := w.heap.size + 1 + 1 + 1) (by simpa using ((Blk.new (w.alloc (.cells #[.int .i64 s, .slice A l.length c] 24)) 30 #[.int .i64 0, .slice none 0 0]).alloc (.cells #[.int .i64 s, .slice none 0 0] 30))) (by simpa using hb) (by omega), trivial⟩
  obtain ⟨B2, -⟩ : Blk w1 (w.heap.size + 1 + 1) 30 #[.int .i64 s, .slice none 0 0] ∧ True := ⟨Blk.below (B := w.heap.size + 1 + 1 + 1) (by simpa using (Blk.new ((w.alloc (.cells #[.int .i64 s, .slice A l.length c] 24)).alloc (.cells #[.int .i64 0, .slice none 0 0] 30)) 30 #[.int .i64 s, .slice none 0 0])) (by simpa using hb) (by omega), trivial⟩
  obtain ⟨p0, p1, z0, z1⟩ := B1.two
  obtain ⟨q0, q1, y0, y1⟩ := B2.two
  clear HT B1 B2
  go_wp2_with fail
  refine bodyPost_ret (v := .agg #[.int .i64 s, .slice A2 l.length c2]) (by simp [results, Try.results15, go_sem, p0, p1]) rfl ⟨A2, c2, rfl, ?_, ?_⟩
  · simp only [World.size_alloc] at hr
    exact own_base (ownsRow_setCell_below (ownsRow_setCell_below (ownsRow_setCell_below hr (by simp) _) (by simp) _) (by simp) _) (by omega)
  · exact ((((((Below.refl w.heap.size w).alloc (Nat.le_refl _) _).alloc (by simp) _).alloc (by simp; omega) _).trans (hb.mono (by simp; omega))).setCell (by simp; omega) _).setCell (by simp) _ |>.setCell (by simp) _

set_option maxHeartbeats 1000000 in
theorem eqIntA2S_yes (a b : Value) (l : List Ed) (w : World) (ha : Edges w a l) (hb : Edges w b l) (hl : l.length ≤ 1048576) :
    Calls Try.prog 60 #[a, b] w fun e w' => e = .returned (.bool true) ∧ Below w.heap.size w w' := by
  obtain ⟨A1, c1, rfl, h1⟩ := ha.form
  obtain ⟨A2, c2, rfl, h2⟩ := hb.form
  have H1 := Lib.hid h1
  have H2 := Lib.hid h2
  clear h1 h2 ha hb
  go_enter Try.func60, Try.ntmps60
  go_wp2_with fail
  go_loopw [5] (fun i wr => ∃ k : Nat, k ≤ l.length ∧ i = .int .i64 (k : Int) ∧ Below w.heap.size w wr) (fun i _ => l.length - (intOf i).toNat)
  case atStart => exact ⟨0, Nat.zero_le _, rfl, Below.refl _ _⟩
  case round =>
    obtain ⟨k, hk, rfl, hB⟩ := hrel
    by_cases hlt : k < l.length
    · obtain ⟨x, hx⟩ : ∃ x, l[k]? = some x := ⟨_, List.getElem?_eq_getElem hlt⟩
      obtain ⟨g1, o1, rfl, p0, p1⟩ := H1.out k x hx
      obtain ⟨g2, o2, rfl, q0, q1⟩ := H2.out k x hx
      have hlt' : (k : Int) < (l.length : Int) := by omega
      have d0 : wr.cell? ⟨g1, o1 + k * 2, none⟩ = some (.int .i64 x.1) := (hB.cell (p := ⟨g1, o1 + k * 2, none⟩) (World.block_lt_of_cell? w (a := ⟨g1, o1 + k * 2, none⟩) p0)).trans p0
      have d1 : wr.cell? ⟨g1, o1 + k * 2 + 1, none⟩ = some (.int .i64 x.2) := (hB.cell (p := ⟨g1, o1 + k * 2 + 1, none⟩) (World.block_lt_of_cell? w (a := ⟨g1, o1 + k * 2 + 1, none⟩) p1)).trans p1
      have e0 : wr.cell? ⟨g2, o2 + k * 2, none⟩ = some (.int .i64 x.1) := (hB.cell (p := ⟨g2, o2 + k * 2, none⟩) (World.block_lt_of_cell? w (a := ⟨g2, o2 + k * 2, none⟩) q0)).trans q0
      have e1 : wr.cell? ⟨g2, o2 + k * 2 + 1, none⟩ = some (.int .i64 x.2) := (hB.cell (p := ⟨g2, o2 + k * 2 + 1, none⟩) (World.block_lt_of_cell? w (a := ⟨g2, o2 + k * 2 + 1, none⟩) q1)).trans q1
      clear p0 p1 q0 q1 hx
      obtain ⟨a, b⟩ := x
      go_wp2_with fail
      go_region_held3 (fun w' => w'.cell? ⟨g1, o1 + k * 2, none⟩ = some (.int .i64 a) ∧ w'.cell? ⟨g1, o1 + k * 2 + 1, none⟩ = some (.int .i64 b) ∧ w'.cell? ⟨g2, o2 + k * 2, none⟩ = some (.int .i64 a) ∧ w'.cell? ⟨g2, o2 + k * 2 + 1, none⟩ = some (.int .i64 b)) (go_keep)
        (first | (go_at_call 119; refine (keep4 (p := ⟨g1, o1 + k * 2, none⟩) (q := ⟨g1, o1 + k * 2 + 1, none⟩) (r := ⟨g2, o2 + k * 2, none⟩) (s := ⟨g2, o2 + k * 2 + 1, none⟩) (eqIntA2_any a b _) (a := .int .i64 a) (b := .int .i64 b) (c := .int .i64 a) (d := .int .i64 b) ?_ ?_ ?_ ?_).mono ?_; (simp [*]); (simp [*]); (simp [*]); (simp [*]); rintro e w1 ⟨rfl, k0, k1, k2, k3, hb⟩))
      have hB2 : Below w.heap.size w w1 := hB.drew.trans (hb.mono hB.size)
      clear hb hB
      go_wp2_with fail
      go_roundw
      case rel => exact ⟨k + 1, by omega, by go_num, hB2⟩
      case measure => simp [intOf]; omega
    · go_wp2_with fail
      go_ret
      exact ⟨rfl, hB⟩

theorem eqGraph_yes (s : Int) (a b : Value) (l : List Ed) (w : World) (ha : Edges w a l) (hb : Edges w b l) (hl : l.length ≤ 1048576) :
    Calls Try.prog 19 #[.agg #[.int .i64 s, a], .agg #[.int .i64 s, b]] w fun e w' => e = .returned (.bool true) ∧ Below w.heap.size w w' := by
  have hB : Below w.heap.size w ((w.alloc (.cells #[.int .i64 s, a] 30)).alloc (.cells #[.int .i64 s, b] 30)) := ((Below.refl _ _).alloc (Nat.le_refl _) _).alloc (by simp) _
  have HE := Lib.hid (eqIntA2S_yes a b l _ (ha.below hB) (hb.below hB) hl)
  obtain ⟨A1, c1, rfl, -⟩ := ha.form
  obtain ⟨A2, c2, rfl, -⟩ := hb.form
  have hs : (s != s) = false := by simp
  clear hB ha hb
  go_enter Try.func19, Try.ntmps19
  go_wp2_with (go_at_call 60; refine HE.out.mono ?_; rintro e w1 ⟨rfl, hb⟩)
  go_ret
  exact ⟨rfl, ((((Below.refl _ _).alloc (Nat.le_refl _) _).alloc (by simp) _).trans (hb.mono (by simp; omega)))⟩

theorem toGraph_k (s : Int) (v : Value) (l : List Ed) (W : World) (h : Edges W v l) (hl : l.length ≤ 1048576) {p q r t : Addr} {a b c d : Value} (hp : W.cell? p = some a) (hq : W.cell? q = some b) (hr : W.cell? r = some c) (ht : W.cell? t = some d) :
    Calls Try.prog 15 #[.agg #[.int .i64 s, v]] W fun e w' => (∃ A c, e = .returned (.agg #[.int .i64 s, .slice A l.length c]) ∧ w'.ownsRow W.heap.size 115 2 (.slice A l.length c) l.length (cellsE l)) ∧
      w'.cell? p = some a ∧ w'.cell? q = some b ∧ w'.cell? r = some c ∧ w'.cell? t = some d ∧ Below W.heap.size W w' :=
  keep4r ((toGraph_any s v l W h hl).mono fun _ _ ⟨A, c, h1, h2, h3⟩ => ⟨⟨A, c, h1, h2⟩, h3⟩) hp hq hr ht
theorem eqGraph_k (s : Int) (u v : Value) (l : List Ed) (W : World) (h1 : Edges W u l) (h2 : Edges W v l) (hl : l.length ≤ 1048576) {p q r t : Addr} {a b c d : Value} (hp : W.cell? p = some a) (hq : W.cell? q = some b) (hr : W.cell? r = some c) (ht : W.cell? t = some d) :
    Calls Try.prog 19 #[.agg #[.int .i64 s, u], .agg #[.int .i64 s, v]] W fun e w' => e = .returned (.bool true) ∧
      w'.cell? p = some a ∧ w'.cell? q = some b ∧ w'.cell? r = some c ∧ w'.cell? t = some d ∧ Below W.heap.size W w' :=
  keep4 (eqGraph_yes s u v l W h1 h2 hl) hp hq hr ht

/-- the marks of n edges, the first m -/
def marksE (m n : Nat) : List Ed := (List.range n).map fun j : Nat => (((m + 2 * j : Nat) : Int), ((m + 2 * j + 1 : Nat) : Int))
theorem marksE_len (m n : Nat) : (marksE m n).length = n := by simp [marksE]
theorem marksE_at {m n j : Nat} (h : j < n) : (marksE m n)[j]? = some (((m + 2 * j : Nat) : Int), ((m + 2 * j + 1 : Nat) : Int)) := by simp [marksE, h]
theorem marksE_succ (m n : Nat) : marksE m (n + 1) = marksE m n ++ [(((m + 2 * n : Nat) : Int), ((m + 2 * n + 1 : Nat) : Int))] := by simp [marksE, List.range_succ]
/-- the first k edges marked -/
def markedE (m k : Nat) (l : List Ed) : List Value := cellsE (marksE m k ++ l.drop k)
theorem markedE_zero (m : Nat) (l : List Ed) : markedE m 0 l = cellsE l := by simp [markedE, marksE]
theorem markedE_all (m : Nat) (l : List Ed) : markedE m l.length l = cellsE (marksE m l.length) := by simp [markedE]
theorem markedE_set (m k : Nat) (l : List Ed) (hk : k < l.length) :
    ((markedE m k l).set (k * 2) (.int .i64 ((m + 2 * k : Nat) : Int))).set (k * 2 + 1) (.int .i64 ((m + 2 * k + 1 : Nat) : Int)) = markedE m (k + 1) l := by
  unfold markedE
  rw [List.drop_eq_getElem_cons hk, marksE_succ]
  have := cellsE_set (marksE m k) (l.drop (k + 1)) l[k] (((m + 2 * k : Nat) : Int), ((m + 2 * k + 1 : Nat) : Int))
  rw [marksE_len] at this
  rw [this]
  simp

set_option maxHeartbeats 1000000 in
theorem markIntA2S_any (v : Value) (l : List Ed) (B m : Nat) (w : World) (h : w.ownsRow B 115 2 v l.length (cellsE l)) (hl : m + 2 * l.length ≤ 10000000) :
    Calls Try.prog 61 #[v, .int .i64 (m : Int)] w fun e w' => e = .returned (.int .i64 ((m + 2 * l.length : Nat) : Int)) ∧ w'.ownsRow B 115 2 v l.length (cellsE (marksE m l.length)) ∧ w.grownBy w' v.ownBlock := by
  obtain ⟨A, c, rfl⟩ := own_form h
  have h0 := h
  rw [← markedE_zero m l] at h0
  have H0 := Lib.hid h0
  clear h h0
  go_enter Try.func61, Try.ntmps61
  go_wp2_with fail
  go_loopw [1, 5] (fun q i wr => ∃ k : Nat, k ≤ l.length ∧ i = .int .i64 (k : Int) ∧ q = .int .i64 ((m + 2 * k : Nat) : Int) ∧ wr.ownsRow B 115 2 (.slice A l.length c) l.length (markedE m k l) ∧ w.grownBy wr (Value.slice A l.length c).ownBlock)
    (fun _ i _ => l.length - (intOf i).toNat)
  case atStart => exact ⟨0, Nat.zero_le _, rfl, rfl, H0.out, World.grownBy.refl _ _⟩
  case round =>
    obtain ⟨k, hk, rfl, rfl, hrow, hg⟩ := hrel
    by_cases hlt : k < l.length
    · obtain ⟨g, cap, hf⟩ : ∃ g cap, Value.slice A l.length c = .slice (some ⟨g, 0, none⟩) l.length cap := by
        rcases hrow.2 with ⟨hf, h0⟩ | ⟨g, cap, cur, hf, _⟩
        · omega
        · exact ⟨g, cap, hf⟩
      obtain ⟨rfl, rfl⟩ : A = some ⟨g, 0, none⟩ ∧ c = cap := by simpa using hf
      have hlt' : (k : Int) < (l.length : Int) := by omega
      have hlc : (markedE m k l).length = l.length * 2 := by have := hrow.1; omega
      obtain ⟨u, hu⟩ : ∃ u, (markedE m k l)[k * 2]? = some u := ⟨_, List.getElem?_eq_getElem (by omega)⟩
      obtain ⟨v, hv⟩ : ∃ v, (markedE m k l)[k * 2 + 1]? = some v := ⟨_, List.getElem?_eq_getElem (by omega)⟩
      have f0 := hrow.cellAt (k * 2) (by omega)
      have f1 := hrow.cellAt (k * 2 + 1) (by omega)
      rw [hu] at f0
      rw [hv] at f1
      have z0 := hrow.frozenAt (k * 2)
      have z1 := hrow.frozenAt (k * 2 + 1)
      have hst := own_store2 hrow k (.int .i64 ((m + 2 * k : Nat) : Int)) (.int .i64 ((m + 2 * k + 1 : Nat) : Int))
      rw [markedE_set m k l hlt] at hst
      have HST := Lib.hid hst
      have HG := Lib.hid hg
      clear hst hu hv hf hrow hlc hg
      go_wp2_with fail
      refine wp_loop_rounds 3 ?_
      iterate 3 (rw [rounds_succ]; go_wp2_with fail)
      go_roundw
      case rel => exact ⟨k + 1, by omega, by go_num, by go_num, HST.out, gset (gset HG.out _ _) _ _⟩
      case measure => simp [intOf]; omega
    · obtain rfl : k = l.length := by omega
      rw [markedE_all] at hrow
      go_wp2_with fail
      go_ret
      exact ⟨rfl, hrow, hg⟩

theorem markGraph_any (s : Int) (v : Value) (l : List Ed) (B m : Nat) (w : World) (h : w.ownsRow B 115 2 v l.length (cellsE l)) (hl : m + 2 * l.length ≤ 10000000) :
    Calls Try.prog 21 #[.agg #[.int .i64 s, v], .int .i64 (m : Int)] w fun e w' => e = .returned (.int .i64 ((m + 2 * l.length : Nat) : Int)) ∧ w'.ownsRow B 115 2 v l.length (cellsE (marksE m l.length)) ∧ w.grownBy w' v.ownBlock := by
  have HM := Lib.hid (markIntA2S_any v l B m _ (h.alloc (.cells #[.int .i64 s, v] 30)) hl)
  obtain ⟨A, c, rfl⟩ := own_form h
  clear h
  go_enter Try.func21, Try.ntmps21
  go_wp2_with (go_at_call 61; refine HM.out.mono ?_; rintro e w1 ⟨rfl, hr, hg⟩)
  go_ret
  exact ⟨rfl, hr, gtrans (World.grownBy_alloc _ _ _) hg⟩

end Go.Proofs.Ytpeobnmfndelhaa.edges

/- What a law keeps of the slices that it has got: who owns which blocks; marks turn these alone. -/
namespace Go.Proofs.Ytpeobnmfndelhaa.owns
open Go.RowKit P2 words edges ints

/-- w' is w but for blocks from B on and below S, and new ones -/
structure Turned (B S : Nat) (w w' : World) : Prop where
  os : w'.os = w.os
  tape : w'.tape = w.tape
  output : w'.output = w.output
  size : w.heap.size ≤ w'.heap.size
  block : ∀ k, k < w.heap.size → (k < B ∨ S ≤ k) → w'.heap[k]? = w.heap[k]?
theorem Turned.below {B S N : Nat} {w w' : World} (h : Turned B S w w') (hN : N ≤ B) (hB : N ≤ w.heap.size) : Below N w w' :=
  ⟨h.os, h.tape, h.output, h.size, fun k hk => h.block k (by omega) (.inl (by omega))⟩
theorem turned_of {w w' : World} {B S : Nat} {v : Value} (hg : w.grownBy w' v.ownBlock) (h1 : ∀ k, v.ownBlock = some k → B ≤ k ∧ k < S) : Turned B S w w' :=
  ⟨hg.os, hg.tape, hg.output, hg.size, fun k hk h => hg.block k hk (fun e => by have := h1 k e.symm; omega)⟩

def OwnR (B S : Nat) (w : World) (t : TypeId) (size : Nat) (v : Value) (n : Nat) (xs : List Value) : Prop := w.ownsRow B t size v n xs ∧ ∀ k, v.ownBlock = some k → k < S
abbrev OwnI (B S : Nat) (w : World) (v : Value) (l : List Int) : Prop := OwnR B S w 3 1 v l.length (cellsI l)
abbrev OwnE (B S : Nat) (w : World) (v : Value) (l : List Ed) : Prop := OwnR B S w 115 2 v l.length (cellsE l)

section
variable {w w' : World} {B S B' S' : Nat} {t : TypeId} {size : Nat} {v : Value} {n : Nat} {xs : List Value}
theorem OwnR.new (h : w.ownsRow B t size v n xs) : OwnR B w.heap.size w t size v n xs := ⟨h, fun k hk => (h.lt k hk).2⟩
theorem OwnR.below (h : OwnR B S w t size v n xs) (hb : Below w.heap.size w w') : OwnR B S w' t size v n xs := ⟨own_below h.1 hb, h.2⟩
theorem OwnR.turned (h : OwnR B S w t size v n xs) (ht : Turned B' S' w w') (hd : S ≤ B' ∨ S' ≤ B) : OwnR B S w' t size v n xs := by
  refine ⟨⟨h.1.1, ?_⟩, h.2⟩
  rcases h.1.2 with hn | ⟨g, cap, cur, rfl, hb, hgg, rest⟩
  · exact .inl hn
  · refine .inr ⟨g, cap, cur, rfl, hb, ?_, rest⟩
    have hS := h.2 g rfl
    rw [ht.block g (Array.getElem?_eq_some_iff.1 hgg).1 (by omega)]
    exact hgg
theorem OwnR.reads (h : OwnR B S w t size v n xs) : Reads w size v n xs := Reads.of_own h.1
theorem OwnR.lt (h : OwnR B S w t size v n xs) : ∀ k, v.ownBlock = some k → B ≤ k ∧ k < S := fun k hk => ⟨(h.1.lt k hk).1, h.2 k hk⟩
end
theorem blk_turned {w w' : World} {B S g : Nat} {t : TypeId} {cs : Array Value} (h : Blk w g t cs) (ht : Turned B S w w') (hg : g < B ∨ S ≤ g) : Blk w' g t cs := (ht.block g h.lt hg).trans h

theorem markIntS_own (v : Value) (l : List Int) (B S m : Nat) (w : World) (h : OwnI B S w v l) (hl : m + l.length ≤ 10000000) :
    Calls Try.prog 22 #[v, .int .i64 (m : Int)] w fun e w' => e = .returned (.int .i64 ((m + l.length : Nat) : Int)) ∧ OwnR B S w' 3 1 v l.length (cellsI (marksI m l.length)) ∧ Turned B S w w' :=
  (markIntS_any v l B m w h.1 hl).mono fun _ _ ⟨h1, h2, h3⟩ => ⟨h1, ⟨h2, h.2⟩, turned_of h3 h.lt⟩
theorem heldIntS_own (v : Value) (n B S m : Nat) (w : World) (h : OwnR B S w 3 1 v n (cellsI (marksI m n))) (hl : m + n ≤ 10000000) :
    Calls Try.prog 27 #[v, .int .i64 (m : Int)] w fun e w' => e = .returned (.int .i64 ((m + n : Nat) : Int)) ∧ Below w.heap.size w w' :=
  (heldIntS_any v n m w (by have := h.reads; unfold Ints; rw [marksI_len]; exact this) hl).mono fun _ _ ⟨h1, h2⟩ => ⟨h1, h2 ▸ Below.refl _ _⟩
theorem eqIntS_own (a b : Value) (l : List Int) (w : World) (ha : Ints w a l) (hb : Ints w b l) (hl : l.length ≤ 1048576) :
    Calls Try.prog 20 #[a, b] w fun e w' => e = .returned (.bool true) ∧ Below w.heap.size w w' :=
  (eqIntS_yes a b l w ha hb hl).mono fun _ _ ⟨h1, m, h2⟩ => ⟨h1, h2 ▸ below_drewN (Below.refl _ _) m⟩
theorem markGraph_own (s : Int) (v : Value) (l : List Ed) (B S m : Nat) (w : World) (h : OwnE B S w v l) (hl : m + 2 * l.length ≤ 10000000) :
    Calls Try.prog 21 #[.agg #[.int .i64 s, v], .int .i64 (m : Int)] w fun e w' => e = .returned (.int .i64 ((m + 2 * l.length : Nat) : Int)) ∧ OwnR B S w' 115 2 v l.length (cellsE (marksE m l.length)) ∧ Turned B S w w' :=
  (markGraph_any s v l B m w h.1 hl).mono fun _ _ ⟨h1, h2, h3⟩ => ⟨h1, ⟨h2, h.2⟩, turned_of h3 h.lt⟩

theorem markIntA2S_own (v : Value) (l : List Ed) (B S m : Nat) (w : World) (h : OwnE B S w v l) (hl : m + 2 * l.length ≤ 10000000) :
    Calls Try.prog 61 #[v, .int .i64 (m : Int)] w fun e w' => e = .returned (.int .i64 ((m + 2 * l.length : Nat) : Int)) ∧ OwnR B S w' 115 2 v l.length (cellsE (marksE m l.length)) ∧ Turned B S w w' :=
  (markIntA2S_any v l B m w h.1 hl).mono fun _ _ ⟨h1, h2, h3⟩ => ⟨h1, ⟨h2, h.2⟩, turned_of h3 h.lt⟩
set_option maxHeartbeats 1000000 in
theorem heldP_any (v : Value) (n m : Nat) (w : World) (h : Edges w v (marksE m n)) (hl : m + 2 * n ≤ 10000000) :
    Calls Try.prog 109 #[v, .int .i64 (m : Int)] w fun e w' => e = .returned (.int .i64 ((m + 2 * n : Nat) : Int)) ∧ Below w.heap.size w w' := by
  obtain ⟨A, c, rfl, hc⟩ := h.form
  have hle := marksE_len m n
  rw [hle] at *
  have HC := Lib.hid hc
  clear hc h hle
  go_enter Try.func109, Try.ntmps109
  go_wp2_with fail
  go_loop [1, 5] (fun q i => ∃ k : Nat, k ≤ n ∧ i = .int .i64 (k : Int) ∧ q = .int .i64 ((m + 2 * k : Nat) : Int)) (fun _ i => n - (intOf i).toNat)
  case atStart => exact ⟨0, Nat.zero_le _, rfl, rfl⟩
  case round =>
    obtain ⟨k, hk, rfl, rfl⟩ := hrel
    by_cases hlt : k < n
    · obtain ⟨g, o, rfl, c0, c1⟩ := HC.out k _ (marksE_at hlt)
      have hlt' : (k : Int) < (n : Int) := by omega
      go_wp2_with fail
      refine wp_loop_rounds 3 ?_
      iterate 3 (rw [rounds_succ]; go_wp2_with fail)
      go_round
      case rel => exact ⟨k + 1, by omega, by go_num, by go_num⟩
      case measure => simp [intOf]; omega
    · obtain rfl : k = n := by omega
      go_wp2_with fail
      go_ret
      exact ⟨rfl, Below.refl _ _⟩
theorem heldIntA2S_own (v : Value) (n B S m : Nat) (w : World) (h : OwnR B S w 115 2 v n (cellsE (marksE m n))) (hl : m + 2 * n ≤ 10000000) :
    Calls Try.prog 109 #[v, .int .i64 (m : Int)] w fun e w' => e = .returned (.int .i64 ((m + 2 * n : Nat) : Int)) ∧ Below w.heap.size w w' :=
  (heldP_any v n m w (by have := h.reads; unfold Edges; rw [marksE_len]; exact this) hl).mono fun _ _ ⟨h1, h2⟩ => ⟨h1, h2⟩
theorem eqIntA2S_own (a b : Value) (l : List Ed) (w : World) (ha : Edges w a l) (hb : Edges w b l) (hl : l.length ≤ 1048576) :
    Calls Try.prog 60 #[a, b] w fun e w' => e = .returned (.bool true) ∧ Below w.heap.size w w' :=
  (eqIntA2S_yes a b l w ha hb hl)

theorem szIntA2S_yes (v : Value) (l : List Ed) (r : Int) (w : World) (h : Edges w v l) (hl : ((l.length : Nat) : Int) ≤ r) (hr : r ≤ 1048576) :
    Calls Try.prog 49 #[v, .int .i64 r] w fun e w' => e = .returned (.int .i64 (r - (l.length : Int))) ∧ w = w' := by
  obtain ⟨A, c, rfl, -⟩ := h.form
  go_enter Try.func49, Try.ntmps49
  go_wp2_with fail
  go_ret
  exact ⟨rfl, rfl⟩
theorem szIntA2S_no (v : Value) (l : List Ed) (r : Int) (w : World) (h : Edges w v l) (hl : r < ((l.length : Nat) : Int)) (hr : 0 ≤ r) (hm : ((l.length : Nat) : Int) ≤ 9223372036854775807) :
    Calls Try.prog 49 #[v, .int .i64 r] w fun e w' => e = .returned (.int .i64 (-1)) ∧ w = w' := by
  obtain ⟨A, c, rfl, -⟩ := h.form
  go_enter Try.func49, Try.ntmps49
  go_wp2_with fail
  go_ret
  exact ⟨rfl, rfl⟩
theorem szGraph_yes (s : Int) (v : Value) (l : List Ed) (r : Int) (w : World) (h : Edges w v l) (hl : ((l.length : Nat) : Int) ≤ r) (hr : r ≤ 1048576) :
    Calls Try.prog 13 #[.agg #[.int .i64 s, v], .int .i64 r] w fun e w' => e = .returned (.int .i64 (r - (l.length : Int))) ∧ Below w.heap.size w w' := by
  obtain ⟨A, c, hv, -⟩ := h.form
  have HS := Lib.hid (szIntA2S_yes v l r _ (h.below ((Below.refl _ _).alloc (Nat.le_refl _) (.cells #[.int .i64 s, v] 24))) hl hr)
  subst hv
  clear h
  go_enter Try.func13, Try.ntmps13
  go_wp2_with (go_at_call 49; refine HS.out.mono ?_; rintro e w' ⟨rfl, rfl⟩)
  go_ret
  exact ⟨rfl, (Below.refl _ _).alloc (Nat.le_refl _) _⟩
theorem szGraph_no (s : Int) (v : Value) (l : List Ed) (r : Int) (w : World) (h : Edges w v l) (hl : r < ((l.length : Nat) : Int)) (hr : 0 ≤ r) (hm : ((l.length : Nat) : Int) ≤ 9223372036854775807) :
    Calls Try.prog 13 #[.agg #[.int .i64 s, v], .int .i64 r] w fun e w' => e = .returned (.int .i64 (-1)) ∧ Below w.heap.size w w' := by
  obtain ⟨A, c, hv, -⟩ := h.form
  have HS := Lib.hid (szIntA2S_no v l r _ (h.below ((Below.refl _ _).alloc (Nat.le_refl _) (.cells #[.int .i64 s, v] 24))) hl hr hm)
  subst hv
  clear h
  go_enter Try.func13, Try.ntmps13
  go_wp2_with (go_at_call 49; refine HS.out.mono ?_; rintro e w' ⟨rfl, rfl⟩)
  go_ret
  exact ⟨rfl, (Below.refl _ _).alloc (Nat.le_refl _) _⟩
end Go.Proofs.Ytpeobnmfndelhaa.owns
