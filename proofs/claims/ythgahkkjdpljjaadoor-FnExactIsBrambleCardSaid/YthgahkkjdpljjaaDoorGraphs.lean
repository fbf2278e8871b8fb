/- Plain mathematics of graphs: edges in order, neighbors, and the list of edges that a test gives. It imports nothing of the program. -/
import Derived.Below
import Derived.Lib.Hide
namespace Go.Proofs.YthgahkkjdpljjaaDoor.P2
open Go

abbrev Ed := Int × Int
def Lex (a b : Ed) : Prop := a.1 < b.1 ∨ (a.1 = b.1 ∧ a.2 < b.2)
instance decLex (a b : Ed) : Decidable (Lex a b) := by unfold Lex; infer_instance
theorem Lex.irrefl (a : Ed) : ¬ Lex a a := by unfold Lex; omega
theorem Lex.trans {a b c : Ed} (h : Lex a b) (k : Lex b c) : Lex a c := by unfold Lex at *; omega

theorem sorted_ext : ∀ {l1 l2 : List Ed}, l1.Pairwise Lex → l2.Pairwise Lex → (∀ e, e ∈ l1 ↔ e ∈ l2) → l1 = l2
  | [], [], _, _, _ => rfl
  | [], b :: l2, _, _, h => absurd ((h b).2 (by simp)) (by simp)
  | a :: l1, [], _, _, h => absurd ((h a).1 (by simp)) (by simp)
  | a :: l1, b :: l2, h1, h2, h => by
    obtain ⟨p1, q1⟩ := List.pairwise_cons.1 h1
    obtain ⟨p2, q2⟩ := List.pairwise_cons.1 h2
    have hab : a = b := by
      rcases List.mem_cons.1 ((h a).1 (by simp)) with e | m1
      · exact e
      · rcases List.mem_cons.1 ((h b).2 (by simp)) with e | m2
        · exact e.symm
        · exact absurd ((p1 b m2).trans (p2 a m1)) (Lex.irrefl a)
    subst hab
    have ht : l1 = l2 := sorted_ext q1 q2 fun e => by
      constructor
      · intro m
        rcases List.mem_cons.1 ((h e).1 (by simp [m])) with e1 | m'
        · subst e1; exact absurd (p1 e m) (Lex.irrefl e)
        · exact m'
      · intro m
        rcases List.mem_cons.1 ((h e).2 (by simp [m])) with e1 | m'
        · subst e1; exact absurd (p2 e m) (Lex.irrefl e)
        · exact m'
    rw [ht]

/-- the edge at place j is in order -/
def OkAt (m : Int) (l : List Ed) (j : Nat) : Prop :=
  ∀ e, l[j]? = some e → 0 ≤ e.1 ∧ e.1 < e.2 ∧ e.2 ≤ m ∧ ∀ d, 0 < j → l[j - 1]? = some d → Lex d e
def OkTo (m : Int) (l : List Ed) (k : Nat) : Prop := ∀ j, j < k → OkAt m l j
theorem OkTo.zero (m : Int) (l : List Ed) : OkTo m l 0 := fun _ h => by omega
theorem OkTo.succ {m : Int} {l : List Ed} {k : Nat} (h : OkTo m l k) (hk : OkAt m l k) : OkTo m l (k + 1) := fun j hj => by
  by_cases e : j = k
  · subst e; exact hk
  · exact h j (by omega)

/-- the Graph of a Size and of edges is valid -/
def Good (s : Int) (l : List Ed) : Prop := 0 ≤ s ∧ s ≤ 8 ∧ OkTo (s - 1) l l.length
noncomputable instance decGood (s : Int) (l : List Ed) : Decidable (Good s l) := Classical.propDecidable _
noncomputable def goodB (s : Int) (l : List Ed) : Bool := decide (Good s l)
theorem goodB_yes {s : Int} {l : List Ed} (h : Good s l) : goodB s l = true := by simp [goodB, h]
theorem goodB_no {s : Int} {l : List Ed} (h : ¬ Good s l) : goodB s l = false := by simp [goodB, h]
theorem not_good_at {s : Int} {l : List Ed} {k : Nat} (hk : k < l.length) (h : ¬ OkAt (s - 1) l k) : ¬ Good s l := fun g => h (g.2.2 k hk)

theorem Good.pair {s : Int} {l : List Ed} (h : Good s l) : ∀ (i j : Nat) (a b : Ed), i < j → l[i]? = some a → l[j]? = some b → Lex a b := by
  intro i j a b hij ha hb
  induction j generalizing b with
  | zero => omega
  | succ j ih =>
    have hj : j + 1 < l.length := (List.getElem?_eq_some_iff.1 hb).1
    obtain ⟨d, hd⟩ : ∃ d, l[j]? = some d := ⟨_, List.getElem?_eq_getElem (by omega)⟩
    have h1 := (h.2.2 (j + 1) hj b hb).2.2.2 d (by omega) hd
    by_cases e : i = j
    · subst e; rw [ha] at hd; cases hd; exact h1
    · exact (ih d (by omega) hd).trans h1
theorem Good.sorted {s : Int} {l : List Ed} (h : Good s l) : l.Pairwise Lex := by
  rw [List.pairwise_iff_getElem]
  intro i j hi hj hij
  exact h.pair i j _ _ hij (List.getElem?_eq_getElem hi) (List.getElem?_eq_getElem hj)
theorem Good.mem {s : Int} {l : List Ed} (h : Good s l) {e : Ed} (he : e ∈ l) : 0 ≤ e.1 ∧ e.1 < e.2 ∧ e.2 < s := by
  obtain ⟨j, hj⟩ := List.getElem?_of_mem he
  have := h.2.2 j (List.getElem?_eq_some_iff.1 hj).1 e hj
  omega
theorem good_of {s : Int} {l : List Ed} (h0 : 0 ≤ s) (h8 : s ≤ 8) (hm : ∀ e ∈ l, 0 ≤ e.1 ∧ e.1 < e.2 ∧ e.2 < s) (hs : l.Pairwise Lex) : Good s l := by
  refine ⟨h0, h8, fun j hj e he => ?_⟩
  have := hm e (List.mem_of_getElem? he)
  refine ⟨this.1, this.2.1, by omega, fun d h0 hd => ?_⟩
  rw [List.pairwise_iff_getElem] at hs
  have hd' := List.getElem?_eq_some_iff.1 hd
  have he' := List.getElem?_eq_some_iff.1 he
  have := hs (j - 1) j hd'.1 he'.1 (by omega)
  rw [hd'.2, he'.2] at this
  exact this

/-- two numbers are neighbors by a list of edges -/
def adj (l : List Ed) (x y : Int) : Bool := decide ((x, y) ∈ l ∨ (y, x) ∈ l)
theorem adj_comm (l : List Ed) (x y : Int) : adj l x y = adj l y x := by
  unfold adj
  rw [decide_eq_decide]
  exact Or.comm
theorem adj_lt {s : Int} {l : List Ed} (h : Good s l) {x y : Int} (hxy : x < y) : adj l x y = decide ((x, y) ∈ l) := by
  unfold adj
  rw [decide_eq_decide]
  constructor
  · rintro (h1 | h1)
    · exact h1
    · have := h.mem h1; simp only at this; omega
  · exact Or.inl
theorem adj_min {s : Int} {l : List Ed} (h : Good s l) (x y : Int) : adj l x y = decide ((min x y, max x y) ∈ l) := by
  unfold adj
  rw [decide_eq_decide]
  by_cases hxy : x ≤ y
  · rw [Int.min_eq_left hxy, Int.max_eq_right hxy]
    constructor
    · rintro (h1 | h1)
      · exact h1
      · have := h.mem h1; simp only at this; omega
    · exact Or.inl
  · rw [Int.min_eq_right (by omega), Int.max_eq_left (by omega)]
    constructor
    · rintro (h1 | h1)
      · have := h.mem h1; simp only at this; omega
      · exact h1
    · exact Or.inr
theorem adj_self {s : Int} {l : List Ed} (h : Good s l) (x : Int) : adj l x x = false := by
  unfold adj
  rw [decide_eq_false_iff_not]
  rintro (h1 | h1) <;> (have := h.mem h1; simp only at this; omega)
theorem adj_node {s : Int} {l : List Ed} (h : Good s l) {x y : Int} (ha : adj l x y = true) : (0 ≤ x ∧ x < s) ∧ (0 ≤ y ∧ y < s) := by
  unfold adj at ha
  rw [decide_eq_true_iff] at ha
  rcases ha with h1 | h1 <;> (have := h.mem h1; simp only at this; omega)

/-- one node's edges to greater nodes less than y, by a test -/
def rowTo (J : Nat → Nat → Bool) (x y : Nat) : List Ed := ((List.range y).filter fun z : Nat => decide (x < z) && J x z).map fun z : Nat => ((x : Int), (z : Int))
/-- the edges of all nodes less than x -/
def gwTo (J : Nat → Nat → Bool) (n x : Nat) : List Ed := (List.range x).flatMap fun v => rowTo J v n
/-- the edges that a test gives -/
def gw (n : Nat) (J : Nat → Nat → Bool) : List Ed := gwTo J n n

theorem rowTo_start (J : Nat → Nat → Bool) (x y : Nat) (h : y ≤ x + 1) : rowTo J x y = [] := by
  unfold rowTo
  rw [List.filter_eq_nil_iff.2 (fun z hz => by have := List.mem_range.1 hz; simp; omega)]
  rfl
theorem rowTo_yes {J : Nat → Nat → Bool} {x y : Nat} (h : x < y) (hj : J x y = true) : rowTo J x (y + 1) = rowTo J x y ++ [((x : Int), (y : Int))] := by
  unfold rowTo
  rw [List.range_succ, List.filter_append, List.map_append]
  simp [h, hj]
theorem rowTo_no {J : Nat → Nat → Bool} {x y : Nat} (hj : J x y = false) : rowTo J x (y + 1) = rowTo J x y := by
  unfold rowTo
  rw [List.range_succ, List.filter_append, List.map_append]
  simp [hj]
theorem gwTo_zero (J : Nat → Nat → Bool) (n : Nat) : gwTo J n 0 = [] := rfl
theorem gwTo_succ (J : Nat → Nat → Bool) (n x : Nat) : gwTo J n (x + 1) = gwTo J n x ++ rowTo J x n := by
  unfold gwTo
  rw [List.range_succ, List.flatMap_append]
  simp
theorem rowTo_len (J : Nat → Nat → Bool) (x y : Nat) : (rowTo J x y).length ≤ y := by
  unfold rowTo
  rw [List.length_map]
  have := List.length_filter_le (fun z : Nat => decide (x < z) && J x z) (List.range y)
  simpa using this
theorem gwTo_len (J : Nat → Nat → Bool) (n x : Nat) : (gwTo J n x).length ≤ x * n := by
  induction x with
  | zero => simp [gwTo]
  | succ x ih =>
    rw [gwTo_succ, List.length_append, Nat.succ_mul]
    have := rowTo_len J x n
    omega
theorem gwTo_len64 (J : Nat → Nat → Bool) (n x y : Nat) (h : n ≤ 8) (hx : x ≤ n) (hy : y ≤ n) : (gwTo J n x ++ rowTo J x y).length ≤ 72 := by
  rw [List.length_append]
  have h1 := gwTo_len J n x
  have h2 := rowTo_len J x y
  have : x * n ≤ 8 * 8 := Nat.mul_le_mul (by omega) h
  omega
theorem mem_rowTo {J : Nat → Nat → Bool} {x y : Nat} {e : Ed} : e ∈ rowTo J x y ↔ ∃ z, x < z ∧ z < y ∧ J x z = true ∧ e = ((x : Int), (z : Int)) := by
  unfold rowTo
  simp only [List.mem_map, List.mem_filter, List.mem_range, Bool.and_eq_true, decide_eq_true_eq]
  constructor
  · rintro ⟨z, ⟨h1, h2, h3⟩, rfl⟩; exact ⟨z, h2, h1, h3, rfl⟩
  · rintro ⟨z, h2, h1, h3, rfl⟩; exact ⟨z, ⟨h1, h2, h3⟩, rfl⟩
theorem mem_gw {n : Nat} {J : Nat → Nat → Bool} {e : Ed} : e ∈ gw n J ↔ ∃ x z : Nat, x < z ∧ z < n ∧ J x z = true ∧ e = ((x : Int), (z : Int)) := by
  unfold gw gwTo
  simp only [List.mem_flatMap, List.mem_range, mem_rowTo]
  constructor
  · rintro ⟨x, _, z, h1, h2, h3, rfl⟩; exact ⟨x, z, h1, h2, h3, rfl⟩
  · rintro ⟨x, z, h1, h2, h3, rfl⟩; exact ⟨x, by omega, z, h1, h2, h3, rfl⟩
theorem rowTo_sorted (J : Nat → Nat → Bool) (x y : Nat) : (rowTo J x y).Pairwise Lex := by
  unfold rowTo
  rw [List.pairwise_map]
  refine List.Pairwise.imp ?_ (List.Pairwise.filter _ List.pairwise_lt_range)
  intro a b h
  exact .inr ⟨rfl, by simp only; omega⟩
theorem gwTo_sorted (J : Nat → Nat → Bool) (n x : Nat) : (gwTo J n x).Pairwise Lex := by
  induction x with
  | zero => simp [gwTo]
  | succ x ih =>
    rw [gwTo_succ, List.pairwise_append]
    refine ⟨ih, rowTo_sorted J x n, fun a ha b hb => ?_⟩
    unfold gwTo at ha
    simp only [List.mem_flatMap, List.mem_range] at ha
    obtain ⟨v, hv, ha⟩ := ha
    obtain ⟨z, _, _, _, rfl⟩ := mem_rowTo.1 ha
    obtain ⟨z', _, _, _, rfl⟩ := mem_rowTo.1 hb
    exact .inl (by simp only; omega)
theorem gw_good (n : Nat) (J : Nat → Nat → Bool) (h : n ≤ 8) : Good n (gw n J) :=
  good_of (by omega) (by omega) (fun e he => by
    obtain ⟨x, z, h1, h2, _, rfl⟩ := mem_gw.1 he
    simp only
    omega) (gwTo_sorted J n n)
theorem gw_congr {n : Nat} {J K : Nat → Nat → Bool} (h : ∀ x y, x < y → y < n → J x y = K x y) : gw n J = gw n K :=
  sorted_ext (gwTo_sorted J n n) (gwTo_sorted K n n) fun e => by
    rw [mem_gw, mem_gw]
    constructor
    · rintro ⟨x, z, h1, h2, h3, rfl⟩; exact ⟨x, z, h1, h2, by rw [← h x z h1 h2]; exact h3, rfl⟩
    · rintro ⟨x, z, h1, h2, h3, rfl⟩; exact ⟨x, z, h1, h2, by rw [h x z h1 h2]; exact h3, rfl⟩
/-- a list of edges in order is what its own test gives -/
theorem good_gw {n : Nat} {l : List Ed} (h : Good n l) : l = gw n fun x y => adj l x y :=
  sorted_ext h.sorted (gwTo_sorted _ n n) fun e => by
    rw [mem_gw]
    constructor
    · intro he
      have := h.mem he
      refine ⟨e.1.toNat, e.2.toNat, by omega, by omega, ?_, ?_⟩
      · rw [show ((e.1.toNat : Nat) : Int) = e.1 from by omega, show ((e.2.toNat : Nat) : Int) = e.2 from by omega]
        rw [adj, decide_eq_true_iff]
        exact .inl he
      · rw [show ((e.1.toNat : Nat) : Int) = e.1 from by omega, show ((e.2.toNat : Nat) : Int) = e.2 from by omega]
    · rintro ⟨x, z, h1, h2, h3, rfl⟩
      rw [adj_lt h (by omega), decide_eq_true_iff] at h3
      exact h3
theorem adj_gw {n : Nat} {J : Nat → Nat → Bool} {x y : Nat} (hxy : x < y) (hy : y < n) : adj (gw n J) x y = J x y := by
  unfold adj
  rw [Bool.eq_iff_iff, decide_eq_true_iff, mem_gw, mem_gw]
  constructor
  · rintro (⟨a, b, h1, h2, h3, he⟩ | ⟨a, b, h1, h2, h3, he⟩)
    · simp only [Prod.mk.injEq] at he
      obtain rfl : x = a := by omega
      obtain rfl : y = b := by omega
      exact h3
    · simp only [Prod.mk.injEq] at he; omega
  · intro h; exact .inl ⟨x, y, hxy, hy, h, rfl⟩
theorem good_ext {s : Int} {l1 l2 : List Ed} (h1 : Good s l1) (h2 : Good s l2) (h : ∀ x y : Int, 0 ≤ x → x < y → y < s → adj l1 x y = adj l2 x y) : l1 = l2 :=
  sorted_ext h1.sorted h2.sorted fun e => by
    have key : ∀ {l1 l2 : List Ed}, Good s l1 → Good s l2 → (∀ x y : Int, 0 ≤ x → x < y → y < s → adj l1 x y = adj l2 x y) → e ∈ l1 → e ∈ l2 := by
      intro l1 l2 h1 h2 h he
      have hm := h1.mem he
      have := h e.1 e.2 hm.1 hm.2.1 hm.2.2
      rw [adj_lt h1 hm.2.1, adj_lt h2 hm.2.1, decide_eq_decide] at this
      exact this.1 he
    exact ⟨key h1 h2 h, key h2 h1 fun x y a b c => (h x y a b c).symm⟩
end Go.Proofs.YthgahkkjdpljjaaDoor.P2
