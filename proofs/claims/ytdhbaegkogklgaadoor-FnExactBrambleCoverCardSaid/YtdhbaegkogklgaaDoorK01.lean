/- Plain mathematics of graphs: edges in order, neighbors, and the list of edges that a test gives. It imports nothing of the program. -/
import Derived.Below
import Derived.Lib.Hide
import Derived.WalkKit
import Derived.WalkSmall
import Derived.Laws.OwnMore
import Derived.Test.YtdhbaegkogklgaaDoorProg
import Derived.WalkLawsBesides
import Derived.WalkSpells
import Derived.IntWalk
import Derived.Deep.QuietTactic
import Derived.BigQuiet
import Derived.Deep.RegionHeld3
import Derived.Deep.RegionWith
import Derived.Maps.Views
import Derived.DeepKeys4
namespace Go.Proofs.YtdhbaegkogklgaaDoor.P2
open Go

abbrev Ed := Int × Int
def Lex (a b : Ed) : Prop := a.1 < b.1 ∨ (a.1 = b.1 ∧ a.2 < b.2)
instance decLex (a b : Ed) : Decidable (Lex a b) := by unfold Lex; infer_instance
theorem Lex.irrefl (a : Ed) : ¬ Lex a a := by unfold Lex; omega
theorem Lex.trans {a b c : Ed} (h : Lex a b) (k : Lex b c) : Lex a c := by unfold Lex at *; omega

theorem sorted_ext : ∀ {l1 l2 : List Ed}, l1.Pairwise Lex → l2.Pairwise Lex → (∀ e, e ∈ l1 ↔ e ∈ l2) → l1 = l2
  | [], [], _, _, _ => rfl
  | [], b :: l2, _, _, h => absurd ((h b).2 (by simp)) (by simp)
  | a :: l1, [], _, _, h => absurd ((h a).1 (by simp)) (by simp)
  | a :: l1, b :: l2, h1, h2, h => by
    obtain ⟨p1, q1⟩ := List.pairwise_cons.1 h1
    obtain ⟨p2, q2⟩ := List.pairwise_cons.1 h2
    have hab : a = b := by
      rcases List.mem_cons.1 ((h a).1 (by simp)) with e | m1
      · exact e
      · rcases List.mem_cons.1 ((h b).2 (by simp)) with e | m2
        · exact e.symm
        · exact absurd ((p1 b m2).trans (p2 a m1)) (Lex.irrefl a)
    subst hab
    have ht : l1 = l2 := sorted_ext q1 q2 fun e => by
      constructor
      · intro m
        rcases List.mem_cons.1 ((h e).1 (by simp [m])) with e1 | m'
        · subst e1; exact absurd (p1 e m) (Lex.irrefl e)
        · exact m'
      · intro m
        rcases List.mem_cons.1 ((h e).2 (by simp [m])) with e1 | m'
        · subst e1; exact absurd (p2 e m) (Lex.irrefl e)
        · exact m'
    rw [ht]

/-- the edge at place j is in order -/
def OkAt (m : Int) (l : List Ed) (j : Nat) : Prop :=
  ∀ e, l[j]? = some e → 0 ≤ e.1 ∧ e.1 < e.2 ∧ e.2 ≤ m ∧ ∀ d, 0 < j → l[j - 1]? = some d → Lex d e
def OkTo (m : Int) (l : List Ed) (k : Nat) : Prop := ∀ j, j < k → OkAt m l j
theorem OkTo.zero (m : Int) (l : List Ed) : OkTo m l 0 := fun _ h => by omega
theorem OkTo.succ {m : Int} {l : List Ed} {k : Nat} (h : OkTo m l k) (hk : OkAt m l k) : OkTo m l (k + 1) := fun j hj => by
  by_cases e : j = k
  · subst e; exact hk
  · exact h j (by omega)

/-- the Graph of a Size and of edges is valid -/
def Good (s : Int) (l : List Ed) : Prop := 0 ≤ s ∧ s ≤ 8 ∧ OkTo (s - 1) l l.length
noncomputable instance decGood (s : Int) (l : List Ed) : Decidable (Good s l) := Classical.propDecidable _
noncomputable def goodB (s : Int) (l : List Ed) : Bool := decide (Good s l)
theorem goodB_yes {s : Int} {l : List Ed} (h : Good s l) : goodB s l = true := by simp [goodB, h]
theorem goodB_no {s : Int} {l : List Ed} (h : ¬ Good s l) : goodB s l = false := by simp [goodB, h]
theorem not_good_at {s : Int} {l : List Ed} {k : Nat} (hk : k < l.length) (h : ¬ OkAt (s - 1) l k) : ¬ Good s l := fun g => h (g.2.2 k hk)

theorem Good.pair {s : Int} {l : List Ed} (h : Good s l) : ∀ (i j : Nat) (a b : Ed), i < j → l[i]? = some a → l[j]? = some b → Lex a b := by
  intro i j a b hij ha hb
  induction j generalizing b with
  | zero => omega
  | succ j ih =>
    have hj : j + 1 < l.length := (List.getElem?_eq_some_iff.1 hb).1
    obtain ⟨d, hd⟩ : ∃ d, l[j]? = some d := ⟨_, List.getElem?_eq_getElem (by omega)⟩
    have h1 := (h.2.2 (j + 1) hj b hb).2.2.2 d (by omega) hd
    by_cases e : i = j
    · subst e; rw [ha] at hd; cases hd; exact h1
    · exact (ih d (by omega) hd).trans h1
theorem Good.sorted {s : Int} {l : List Ed} (h : Good s l) : l.Pairwise Lex := by
  rw [List.pairwise_iff_getElem]
  intro i j hi hj hij
  exact h.pair i j _ _ hij (List.getElem?_eq_getElem hi) (List.getElem?_eq_getElem hj)
theorem Good.mem {s : Int} {l : List Ed} (h : Good s l) {e : Ed} (he : e ∈ l) : 0 ≤ e.1 ∧ e.1 < e.2 ∧ e.2 < s := by
  obtain ⟨j, hj⟩ := List.getElem?_of_mem he
  have := h.2.2 j (List.getElem?_eq_some_iff.1 hj).1 e hj
  omega
theorem good_of {s : Int} {l : List Ed} (h0 : 0 ≤ s) (h8 : s ≤ 8) (hm : ∀ e ∈ l, 0 ≤ e.1 ∧ e.1 < e.2 ∧ e.2 < s) (hs : l.Pairwise Lex) : Good s l := by
  refine ⟨h0, h8, fun j hj e he => ?_⟩
  have := hm e (List.mem_of_getElem? he)
  refine ⟨this.1, this.2.1, by omega, fun d h0 hd => ?_⟩
  rw [List.pairwise_iff_getElem] at hs
  have hd' := List.getElem?_eq_some_iff.1 hd
  have he' := List.getElem?_eq_some_iff.1 he
  have := hs (j - 1) j hd'.1 he'.1 (by omega)
  rw [hd'.2, he'.2] at this
  exact this

/-- two numbers are neighbors by a list of edges -/
def adj (l : List Ed) (x y : Int) : Bool := decide ((x, y) ∈ l ∨ (y, x) ∈ l)
theorem adj_comm (l : List Ed) (x y : Int) : adj l x y = adj l y x := by
  unfold adj
  rw [decide_eq_decide]
  exact Or.comm
theorem adj_lt {s : Int} {l : List Ed} (h : Good s l) {x y : Int} (hxy : x < y) : adj l x y = decide ((x, y) ∈ l) := by
  unfold adj
  rw [decide_eq_decide]
  constructor
  · rintro (h1 | h1)
    · exact h1
    · have := h.mem h1; simp only at this; omega
  · exact Or.inl
theorem adj_min {s : Int} {l : List Ed} (h : Good s l) (x y : Int) : adj l x y = decide ((min x y, max x y) ∈ l) := by
  unfold adj
  rw [decide_eq_decide]
  by_cases hxy : x ≤ y
  · rw [Int.min_eq_left hxy, Int.max_eq_right hxy]
    constructor
    · rintro (h1 | h1)
      · exact h1
      · have := h.mem h1; simp only at this; omega
    · exact Or.inl
  · rw [Int.min_eq_right (by omega), Int.max_eq_left (by omega)]
    constructor
    · rintro (h1 | h1)
      · have := h.mem h1; simp only at this; omega
      · exact h1
    · exact Or.inr
theorem adj_self {s : Int} {l : List Ed} (h : Good s l) (x : Int) : adj l x x = false := by
  unfold adj
  rw [decide_eq_false_iff_not]
  rintro (h1 | h1) <;> (have := h.mem h1; simp only at this; omega)
theorem adj_node {s : Int} {l : List Ed} (h : Good s l) {x y : Int} (ha : adj l x y = true) : (0 ≤ x ∧ x < s) ∧ (0 ≤ y ∧ y < s) := by
  unfold adj at ha
  rw [decide_eq_true_iff] at ha
  rcases ha with h1 | h1 <;> (have := h.mem h1; simp only at this; omega)

/-- one node's edges to greater nodes less than y, by a test -/
def rowTo (J : Nat → Nat → Bool) (x y : Nat) : List Ed := ((List.range y).filter fun z : Nat => decide (x < z) && J x z).map fun z : Nat => ((x : Int), (z : Int))
/-- the edges of all nodes less than x -/
def gwTo (J : Nat → Nat → Bool) (n x : Nat) : List Ed := (List.range x).flatMap fun v => rowTo J v n
/-- the edges that a test gives -/
def gw (n : Nat) (J : Nat → Nat → Bool) : List Ed := gwTo J n n

theorem rowTo_start (J : Nat → Nat → Bool) (x y : Nat) (h : y ≤ x + 1) : rowTo J x y = [] := by
  unfold rowTo
  rw [List.filter_eq_nil_iff.2 (fun z hz => by have := List.mem_range.1 hz; simp; omega)]
  rfl
theorem rowTo_yes {J : Nat → Nat → Bool} {x y : Nat} (h : x < y) (hj : J x y = true) : rowTo J x (y + 1) = rowTo J x y ++ [((x : Int), (y : Int))] := by
  unfold rowTo
  rw [List.range_succ, List.filter_append, List.map_append]
  simp [h, hj]
theorem rowTo_no {J : Nat → Nat → Bool} {x y : Nat} (hj : J x y = false) : rowTo J x (y + 1) = rowTo J x y := by
  unfold rowTo
  rw [List.range_succ, List.filter_append, List.map_append]
  simp [hj]
theorem gwTo_zero (J : Nat → Nat → Bool) (n : Nat) : gwTo J n 0 = [] := rfl
theorem gwTo_succ (J : Nat → Nat → Bool) (n x : Nat) : gwTo J n (x + 1) = gwTo J n x ++ rowTo J x n := by
  unfold gwTo
  rw [List.range_succ, List.flatMap_append]
  simp
theorem rowTo_len (J : Nat → Nat → Bool) (x y : Nat) : (rowTo J x y).length ≤ y := by
  unfold rowTo
  rw [List.length_map]
  have := List.length_filter_le (fun z : Nat => decide (x < z) && J x z) (List.range y)
  simpa using this
theorem gwTo_len (J : Nat → Nat → Bool) (n x : Nat) : (gwTo J n x).length ≤ x * n := by
  induction x with
  | zero => simp [gwTo]
  | succ x ih =>
    rw [gwTo_succ, List.length_append, Nat.succ_mul]
    have := rowTo_len J x n
    omega
theorem gwTo_len64 (J : Nat → Nat → Bool) (n x y : Nat) (h : n ≤ 8) (hx : x ≤ n) (hy : y ≤ n) : (gwTo J n x ++ rowTo J x y).length ≤ 72 := by
  rw [List.length_append]
  have h1 := gwTo_len J n x
  have h2 := rowTo_len J x y
  have : x * n ≤ 8 * 8 := Nat.mul_le_mul (by omega) h
  omega
theorem mem_rowTo {J : Nat → Nat → Bool} {x y : Nat} {e : Ed} : e ∈ rowTo J x y ↔ ∃ z, x < z ∧ z < y ∧ J x z = true ∧ e = ((x : Int), (z : Int)) := by
  unfold rowTo
  simp only [List.mem_map, List.mem_filter, List.mem_range, Bool.and_eq_true, decide_eq_true_eq]
  constructor
  · rintro ⟨z, ⟨h1, h2, h3⟩, rfl⟩; exact ⟨z, h2, h1, h3, rfl⟩
  · rintro ⟨z, h2, h1, h3, rfl⟩; exact ⟨z, ⟨h1, h2, h3⟩, rfl⟩
theorem mem_gw {n : Nat} {J : Nat → Nat → Bool} {e : Ed} : e ∈ gw n J ↔ ∃ x z : Nat, x < z ∧ z < n ∧ J x z = true ∧ e = ((x : Int), (z : Int)) := by
  unfold gw gwTo
  simp only [List.mem_flatMap, List.mem_range, mem_rowTo]
  constructor
  · rintro ⟨x, _, z, h1, h2, h3, rfl⟩; exact ⟨x, z, h1, h2, h3, rfl⟩
  · rintro ⟨x, z, h1, h2, h3, rfl⟩; exact ⟨x, by omega, z, h1, h2, h3, rfl⟩
theorem rowTo_sorted (J : Nat → Nat → Bool) (x y : Nat) : (rowTo J x y).Pairwise Lex := by
  unfold rowTo
  rw [List.pairwise_map]
  refine List.Pairwise.imp ?_ (List.Pairwise.filter _ List.pairwise_lt_range)
  intro a b h
  exact .inr ⟨rfl, by simp only; omega⟩
theorem gwTo_sorted (J : Nat → Nat → Bool) (n x : Nat) : (gwTo J n x).Pairwise Lex := by
  induction x with
  | zero => simp [gwTo]
  | succ x ih =>
    rw [gwTo_succ, List.pairwise_append]
    refine ⟨ih, rowTo_sorted J x n, fun a ha b hb => ?_⟩
    unfold gwTo at ha
    simp only [List.mem_flatMap, List.mem_range] at ha
    obtain ⟨v, hv, ha⟩ := ha
    obtain ⟨z, _, _, _, rfl⟩ := mem_rowTo.1 ha
    obtain ⟨z', _, _, _, rfl⟩ := mem_rowTo.1 hb
    exact .inl (by simp only; omega)
theorem gw_good (n : Nat) (J : Nat → Nat → Bool) (h : n ≤ 8) : Good n (gw n J) :=
  good_of (by omega) (by omega) (fun e he => by
    obtain ⟨x, z, h1, h2, _, rfl⟩ := mem_gw.1 he
    simp only
    omega) (gwTo_sorted J n n)
theorem gw_congr {n : Nat} {J K : Nat → Nat → Bool} (h : ∀ x y, x < y → y < n → J x y = K x y) : gw n J = gw n K :=
  sorted_ext (gwTo_sorted J n n) (gwTo_sorted K n n) fun e => by
    rw [mem_gw, mem_gw]
    constructor
    · rintro ⟨x, z, h1, h2, h3, rfl⟩; exact ⟨x, z, h1, h2, by rw [← h x z h1 h2]; exact h3, rfl⟩
    · rintro ⟨x, z, h1, h2, h3, rfl⟩; exact ⟨x, z, h1, h2, by rw [h x z h1 h2]; exact h3, rfl⟩
/-- a list of edges in order is what its own test gives -/
theorem good_gw {n : Nat} {l : List Ed} (h : Good n l) : l = gw n fun x y => adj l x y :=
  sorted_ext h.sorted (gwTo_sorted _ n n) fun e => by
    rw [mem_gw]
    constructor
    · intro he
      have := h.mem he
      refine ⟨e.1.toNat, e.2.toNat, by omega, by omega, ?_, ?_⟩
      · rw [show ((e.1.toNat : Nat) : Int) = e.1 from by omega, show ((e.2.toNat : Nat) : Int) = e.2 from by omega]
        rw [adj, decide_eq_true_iff]
        exact .inl he
      · rw [show ((e.1.toNat : Nat) : Int) = e.1 from by omega, show ((e.2.toNat : Nat) : Int) = e.2 from by omega]
    · rintro ⟨x, z, h1, h2, h3, rfl⟩
      rw [adj_lt h (by omega), decide_eq_true_iff] at h3
      exact h3
theorem adj_gw {n : Nat} {J : Nat → Nat → Bool} {x y : Nat} (hxy : x < y) (hy : y < n) : adj (gw n J) x y = J x y := by
  unfold adj
  rw [Bool.eq_iff_iff, decide_eq_true_iff, mem_gw, mem_gw]
  constructor
  · rintro (⟨a, b, h1, h2, h3, he⟩ | ⟨a, b, h1, h2, h3, he⟩)
    · simp only [Prod.mk.injEq] at he
      obtain rfl : x = a := by omega
      obtain rfl : y = b := by omega
      exact h3
    · simp only [Prod.mk.injEq] at he; omega
  · intro h; exact .inl ⟨x, y, hxy, hy, h, rfl⟩
theorem good_ext {s : Int} {l1 l2 : List Ed} (h1 : Good s l1) (h2 : Good s l2) (h : ∀ x y : Int, 0 ≤ x → x < y → y < s → adj l1 x y = adj l2 x y) : l1 = l2 :=
  sorted_ext h1.sorted h2.sorted fun e => by
    have key : ∀ {l1 l2 : List Ed}, Good s l1 → Good s l2 → (∀ x y : Int, 0 ≤ x → x < y → y < s → adj l1 x y = adj l2 x y) → e ∈ l1 → e ∈ l2 := by
      intro l1 l2 h1 h2 h he
      have hm := h1.mem he
      have := h e.1 e.2 hm.1 hm.2.1 hm.2.2
      rw [adj_lt h1 hm.2.1, adj_lt h2 hm.2.1, decide_eq_decide] at this
      exact this.1 he
    exact ⟨key h1 h2 h, key h2 h1 fun x y a b c => (h x y a b c).symm⟩
end Go.Proofs.YtdhbaegkogklgaaDoor.P2

/- Words for memory: slices that read as lists of integers and of edges, nil let in; rows of the call's own. It imports nothing of the program. -/
namespace Go.Proofs.YtdhbaegkogklgaaDoor.words
open Go.RowKit P2

theorem ret_int {k : IntKind} {a b : Int} (h : a = b) : Ending.returned (.int k a) = .returned (.int k b) := by rw [h]
theorem ret_bool {a b : Bool} (h : a = b) : Ending.returned (.bool a) = .returned (.bool b) := by rw [h]

def cellsI (l : List Int) : List Value := l.map (Value.int .i64)
def cellsE (l : List Ed) : List Value := l.flatMap fun e : Ed => [.int .i64 e.1, .int .i64 e.2]
theorem cellsI_len (l : List Int) : (cellsI l).length = l.length * 1 := by simp [cellsI]
theorem cellsE_len (l : List Ed) : (cellsE l).length = l.length * 2 := by
  induction l with
  | nil => rfl
  | cons a l ih => simp only [cellsE, List.flatMap_cons, List.length_append, List.length_cons, List.length_nil] at ih ⊢; omega
theorem cellsI_at {l : List Int} {k : Nat} {x : Int} (h : l[k]? = some x) : (cellsI l)[k]? = some (.int .i64 x) := by simp [cellsI, h]
theorem cellsE_at : ∀ {l : List Ed} {k : Nat} {e : Ed}, l[k]? = some e → (cellsE l)[k * 2]? = some (.int .i64 e.1) ∧ (cellsE l)[k * 2 + 1]? = some (.int .i64 e.2)
  | [], _, _, h => by simp at h
  | a :: l, 0, e, h => by
    simp at h
    subst h
    exact ⟨rfl, rfl⟩
  | a :: l, k + 1, e, h => by
    have := cellsE_at (l := l) (k := k) (e := e) (by simpa using h)
    simp only [cellsE, List.flatMap_cons] at this ⊢
    rw [show (k + 1) * 2 = (k * 2) + 2 from by omega, show k * 2 + 2 + 1 = (k * 2 + 1) + 2 from by omega]
    exact this
theorem cellsI_app (l m : List Int) : cellsI (l ++ m) = cellsI l ++ cellsI m := by simp [cellsI]
theorem cellsE_app (l m : List Ed) : cellsE (l ++ m) = cellsE l ++ cellsE m := by simp [cellsE]

/-- a slice that reads as n elements of so many cells each; nil let in -/
def Reads (w : World) (_size : Nat) (v : Value) (n : Nat) (xs : List Value) : Prop :=
  ∃ A c, v = .slice A n c ∧ (0 < n → ∃ g o, A = some ⟨g, o, none⟩ ∧ n ≤ c ∧ ∀ j u, xs[j]? = some u → w.cell? ⟨g, o + j, none⟩ = some u)
abbrev Ints (w : World) (v : Value) (l : List Int) : Prop := Reads w 1 v l.length (cellsI l)
abbrev Edges (w : World) (v : Value) (l : List Ed) : Prop := Reads w 2 v l.length (cellsE l)

section
variable {w w' : World} {B size n : Nat} {v : Value} {xs : List Value}
theorem Reads.keep (h : Reads w size v n xs) (hk : ∀ p : Addr, p.block < w.heap.size → w'.cell? p = w.cell? p) : Reads w' size v n xs := by
  obtain ⟨A, c, e, hx⟩ := h
  refine ⟨A, c, e, fun hn => ?_⟩
  obtain ⟨g, o, eA, hc, hj⟩ := hx hn
  exact ⟨g, o, eA, hc, fun j u hu => (hk ⟨g, o + j, none⟩ (World.block_lt_of_cell? w (a := ⟨g, o + j, none⟩) (hj j u hu))).trans (hj j u hu)⟩
theorem Reads.below (h : Reads w size v n xs) (hb : Below w.heap.size w w') : Reads w' size v n xs := by
  obtain ⟨A, c, e, hx⟩ := h
  refine ⟨A, c, e, fun hn => ?_⟩
  obtain ⟨g, o, eA, hc, hj⟩ := hx hn
  exact ⟨g, o, eA, hc, fun j u hu => (hb.cell (p := ⟨g, o + j, none⟩) (World.block_lt_of_cell? w (a := ⟨g, o + j, none⟩) (hj j u hu))).trans (hj j u hu)⟩
theorem Reads.of_own {t : TypeId} (h : w.ownsRow B t size v n xs) : Reads w size v n xs := by
  rcases h.2 with ⟨rfl, rfl⟩ | ⟨g, cap, cur, rfl, _, _, hc, _⟩
  · exact ⟨none, 0, rfl, fun hn => by omega⟩
  · refine ⟨_, cap, rfl, fun _ => ⟨g, 0, rfl, hc, fun j u hu => ?_⟩⟩
    have hj : j < n * size := by rw [← h.1]; exact (List.getElem?_eq_some_iff.1 hu).1
    rw [Nat.zero_add, h.cellAt j hj, hu]
theorem Reads.nil (w : World) (size : Nat) : Reads w size (.slice none 0 0) 0 [] := ⟨none, 0, rfl, fun h => by omega⟩
theorem Reads.grown {row : Option Nat} (h : Reads w size v n xs) (hg : w.grownBy w' row) (hne : ∀ g o k c, v = .slice (some ⟨g, o, none⟩) k c → some g ≠ row) : Reads w' size v n xs := by
  obtain ⟨A, c, e, hx⟩ := h
  refine ⟨A, c, e, fun hn => ?_⟩
  obtain ⟨g, o, eA, hc, hj⟩ := hx hn
  refine ⟨g, o, eA, hc, fun j u hu => ?_⟩
  subst eA
  exact hg.cell (a := ⟨g, o + j, none⟩) (hj j u hu) (hne g o n c e)
end
theorem Ints.at_ {w : World} {v : Value} {l : List Int} {k : Nat} {x : Int} (h : Ints w v l) (hk : l[k]? = some x) :
    ∃ g o c, v = .slice (some ⟨g, o, none⟩) l.length c ∧ w.cell? ⟨g, o + k, none⟩ = some (.int .i64 x) := by
  obtain ⟨A, c, e, hx⟩ := h
  obtain ⟨g, o, rfl, _, hj⟩ := hx (by have := (List.getElem?_eq_some_iff.1 hk).1; omega)
  exact ⟨g, o, c, e, hj k _ (cellsI_at hk)⟩
theorem Edges.at_ {w : World} {v : Value} {l : List Ed} {k : Nat} {x : Ed} (h : Edges w v l) (hk : l[k]? = some x) :
    ∃ g o c, v = .slice (some ⟨g, o, none⟩) l.length c ∧ w.cell? ⟨g, o + k * 2, none⟩ = some (.int .i64 x.1) ∧ w.cell? ⟨g, o + k * 2 + 1, none⟩ = some (.int .i64 x.2) := by
  obtain ⟨A, c, e, hx⟩ := h
  obtain ⟨g, o, rfl, _, hj⟩ := hx (by have := (List.getElem?_eq_some_iff.1 hk).1; omega)
  exact ⟨g, o, c, e, hj _ _ (cellsE_at hk).1, hj _ _ (cellsE_at hk).2⟩
/-- the address of a slice is no matter where it is empty -/
theorem Edges.form {w : World} {v : Value} {l : List Ed} (h : Edges w v l) : ∃ A c, v = .slice A l.length c ∧ ∀ (k : Nat) (x : Ed), l[k]? = some x → ∃ g o, A = some ⟨g, o, none⟩ ∧ w.cell? ⟨g, o + k * 2, none⟩ = some (.int .i64 x.1) ∧ w.cell? ⟨g, o + k * 2 + 1, none⟩ = some (.int .i64 x.2) := by
  obtain ⟨A, c, e, hx⟩ := h
  refine ⟨A, c, e, fun k x hk => ?_⟩
  obtain ⟨g, o, rfl, _, hj⟩ := hx (by have := (List.getElem?_eq_some_iff.1 hk).1; omega)
  exact ⟨g, o, rfl, hj _ _ (cellsE_at hk).1, hj _ _ (cellsE_at hk).2⟩
theorem Ints.form {w : World} {v : Value} {l : List Int} (h : Ints w v l) : ∃ A c, v = .slice A l.length c ∧ ∀ (k : Nat) (x : Int), l[k]? = some x → ∃ g o, A = some ⟨g, o, none⟩ ∧ w.cell? ⟨g, o + k, none⟩ = some (.int .i64 x) := by
  obtain ⟨A, c, e, hx⟩ := h
  refine ⟨A, c, e, fun k x hk => ?_⟩
  obtain ⟨g, o, rfl, _, hj⟩ := hx (by have := (List.getElem?_eq_some_iff.1 hk).1; omega)
  exact ⟨g, o, rfl, hj _ _ (cellsI_at hk)⟩

theorem run_make_rowN {P : Program} (t e : TypeId) (i : TypeInfo) (z : Value) (ht : P.underlying t = some (.slice e)) (hi : P.info? e = some i) (hz : i.zero = some z)
    (kl kc : IntKind) (n c : Nat) (hnc : n ≤ c) (hbytes : i.bytes * c ≤ 281474976710656) (h63 : c ≤ 9223372036854775807) (w : World) :
    (Instr.makeSlice t (.int kl (n : Int)) (.int kc (c : Int))).run P w = .ok (.slice (some ⟨w.heap.size, 0, none⟩) n c) (w.alloc (.cells (madeCells z.cells (c * i.size)) e)) := by
  have hb : (i.bytes : Int) * (c : Int) ≤ 281474976710656 := by
    have h : ((i.bytes * c : Nat) : Int) ≤ 281474976710656 := by omega
    rwa [Int.natCast_mul] at h
  have hr := run_make (P := P) w t e i z ht hi hz kl kc n c (by omega) (by omega) hb (by omega)
  simp only [Int.toNat_natCast] at hr
  exact hr
/-- a store into a place of the two cells of an element -/
theorem own_store2 {w : World} {B : Nat} {t : TypeId} {g n c : Nat} {xs : List Value} (h : w.ownsRow B t 2 (.slice (some ⟨g, 0, none⟩) n c) n xs) (k : Nat) (a b : Value) :
    ((w.setCell ⟨g, k * 2, none⟩ a).setCell ⟨g, k * 2 + 1, none⟩ b).ownsRow B t 2 (.slice (some ⟨g, 0, none⟩) n c) n ((xs.set (k * 2) a).set (k * 2 + 1) b) :=
  ((h.stored (k * 2) a).1.stored (k * 2 + 1) b).1
theorem gtrans {a w w' : World} {row : Option Nat} (h : a.grownBy w row) (k : w.grownBy w' row) : a.grownBy w' row :=
  ⟨k.os.trans h.os, k.tape.trans h.tape, k.output.trans h.output, Nat.le_trans h.size k.size, fun i hi hne => (k.block i (Nat.lt_of_lt_of_le hi h.size) hne).trans (h.block i hi hne)⟩
theorem gof {w w' : World} (hb : Below w.heap.size w w') (row : Option Nat) : w.grownBy w' row := ⟨hb.os, hb.tape, hb.output, hb.size, fun i hi _ => hb.block i hi⟩
theorem gset {a w : World} {g : Nat} (h : a.grownBy w (some g)) (j : Nat) (u : Value) : a.grownBy (w.setCell ⟨g, j, none⟩ u) (some g) :=
  ⟨h.os, h.tape, h.output, by simpa [World.setCell] using h.size, fun i hi hne => (Below.heap_setCell w ⟨g, j, none⟩ u i (fun e => hne (by rw [e]))).trans (h.block i hi hne)⟩
theorem bof {w w' : World} {B : Nat} {row : Option Nat} (hg : w.grownBy w' row) (hB : B ≤ w.heap.size) (hr : ∀ k, row = some k → B ≤ k) : Below B w w' := (Below.refl B w).grown hg hB hr
theorem btrans {a b c : World} (h : Below a.heap.size a b) (k : Below b.heap.size b c) : Below a.heap.size a c := h.trans (k.mono h.size)
/-- a block of cells, none frozen -/
def Blk (w : World) (g : Nat) (t : TypeId) (cs : Array Value) : Prop := w.heap[g]? = some (.cells cs t (0, 0))
section
variable {w w' : World} {g : Nat} {t : TypeId} {cs : Array Value}
theorem Blk.lt (h : Blk w g t cs) : g < w.heap.size := by
  rcases Nat.lt_or_ge g w.heap.size with hlt | hge
  · exact hlt
  · unfold Blk at h; rw [Array.getElem?_eq_none hge] at h; cases h
theorem Blk.cell (h : Blk w g t cs) (i : Nat) : w.cell? ⟨g, i, none⟩ = cs[i]? := cell_of_row w g i cs t (0, 0) h
theorem Blk.frozen (h : Blk w g t cs) (i : Nat) : w.frozen? ⟨g, i, none⟩ = false := by
  unfold Blk at h
  simp [World.frozen?, h]
theorem Blk.new (w : World) (t : TypeId) (cs : Array Value) : Blk (w.alloc (.cells cs t)) w.heap.size t cs := heap_alloc_new w _
theorem Blk.alloc (h : Blk w g t cs) (o : Obj) : Blk (w.alloc o) g t cs := (Below.heap_alloc w o g h.lt).trans h
theorem Blk.drewN (h : Blk w g t cs) (n : Nat) : Blk (w.drewN n) g t cs := h
theorem Blk.set_ (h : Blk w g t cs) (i : Nat) (u : Value) : Blk (w.setCell ⟨g, i, none⟩ u) g t (cs.setIfInBounds i u) := by
  unfold Blk at h ⊢
  simp [World.setCell, Array.getElem?_modify, h]
theorem Blk.far (h : Blk w g t cs) {p : Addr} (hp : g ≠ p.block) (u : Value) : Blk (w.setCell p u) g t cs := (Below.heap_setCell w p u g hp).trans h
theorem Blk.below {B : Nat} (h : Blk w g t cs) (hb : Below B w w') (hg : g < B) : Blk w' g t cs := (hb.block g hg).trans h
theorem Blk.grown {row : Option Nat} (h : Blk w g t cs) (hb : w.grownBy w' row) (hg : some g ≠ row) : Blk w' g t cs := (hb.block g h.lt hg).trans h
end
/-- the two cells of a block, as the walk asks for them -/
theorem Blk.two {w : World} {g : Nat} {t : TypeId} {a b : Value} (h : Blk w g t #[a, b]) :
    w.cell? ⟨g, 0, none⟩ = some a ∧ w.cell? ⟨g, 1, none⟩ = some b ∧ w.frozen? ⟨g, 0, none⟩ = false ∧ w.frozen? ⟨g, 1, none⟩ = false :=
  ⟨h.cell 0, h.cell 1, h.frozen 0, h.frozen 1⟩
theorem Blk.one {w : World} {g : Nat} {t : TypeId} {a : Value} (h : Blk w g t #[a]) : w.cell? ⟨g, 0, none⟩ = some a ∧ w.frozen? ⟨g, 0, none⟩ = false := ⟨h.cell 0, h.frozen 0⟩

theorem own_base {w : World} {B B' : Nat} {t : TypeId} {size n : Nat} {v : Value} {xs : List Value} (h : w.ownsRow B t size v n xs) (hB : B' ≤ B) : w.ownsRow B' t size v n xs := by
  obtain ⟨h1, h2⟩ := h
  refine ⟨h1, ?_⟩
  rcases h2 with h2 | ⟨g, cap, cur, hv, hg, rest⟩
  · exact .inl h2
  · exact .inr ⟨g, cap, cur, hv, by omega, rest⟩
theorem own_form {w : World} {B : Nat} {t : TypeId} {size n : Nat} {v : Value} {xs : List Value} (h : w.ownsRow B t size v n xs) : ∃ A c, v = .slice A n c := by
  rcases h.2 with ⟨rfl, rfl⟩ | ⟨g, cap, cur, rfl, _⟩
  · exact ⟨_, _, rfl⟩
  · exact ⟨_, _, rfl⟩
theorem own_below {w w' : World} {B : Nat} {t : TypeId} {size n : Nat} {v : Value} {xs : List Value} (h : w.ownsRow B t size v n xs) (hb : Below w.heap.size w w') : w'.ownsRow B t size v n xs :=
  h.kept (gof hb none) (by cases v.ownBlock <;> simp)

/-- cells that a callee keeps, said anew behind it -/
theorem keepc {P : Program} {f : FuncId} {args : Array Value} {W : World} {R : Ending → Prop} {p : Addr} {a : Value}
    (h : Calls P f args W fun e w' => R e ∧ Below W.heap.size W w') (hp : W.cell? p = some a) :
    Calls P f args W fun e w' => R e ∧ w'.cell? p = some a ∧ Below W.heap.size W w' :=
  h.mono fun _ _ ⟨he, hb⟩ => ⟨he, (hb.cell (World.block_lt_of_cell? W _ hp)).trans hp, hb⟩
theorem keep4 {P : Program} {f : FuncId} {args : Array Value} {W : World} {R : Ending → Prop} {p q r s : Addr} {a b c d : Value}
    (h : Calls P f args W fun e w' => R e ∧ Below W.heap.size W w') (hp : W.cell? p = some a) (hq : W.cell? q = some b) (hr : W.cell? r = some c) (hs : W.cell? s = some d) :
    Calls P f args W fun e w' => R e ∧ w'.cell? p = some a ∧ w'.cell? q = some b ∧ w'.cell? r = some c ∧ w'.cell? s = some d ∧ Below W.heap.size W w' :=
  h.mono fun _ _ ⟨he, hb⟩ => ⟨he, (hb.cell (World.block_lt_of_cell? W _ hp)).trans hp, (hb.cell (World.block_lt_of_cell? W _ hq)).trans hq, (hb.cell (World.block_lt_of_cell? W _ hr)).trans hr, (hb.cell (World.block_lt_of_cell? W _ hs)).trans hs, hb⟩
theorem keep4r {P : Program} {f : FuncId} {args : Array Value} {W : World} {R : Ending → World → Prop} {p q r s : Addr} {a b c d : Value}
    (h : Calls P f args W fun e w' => R e w' ∧ Below W.heap.size W w') (hp : W.cell? p = some a) (hq : W.cell? q = some b) (hr : W.cell? r = some c) (hs : W.cell? s = some d) :
    Calls P f args W fun e w' => R e w' ∧ w'.cell? p = some a ∧ w'.cell? q = some b ∧ w'.cell? r = some c ∧ w'.cell? s = some d ∧ Below W.heap.size W w' :=
  h.mono fun _ _ ⟨he, hb⟩ => ⟨he, (hb.cell (World.block_lt_of_cell? W _ hp)).trans hp, (hb.cell (World.block_lt_of_cell? W _ hq)).trans hq, (hb.cell (World.block_lt_of_cell? W _ hr)).trans hr, (hb.cell (World.block_lt_of_cell? W _ hs)).trans hs, hb⟩
end Go.Proofs.YtdhbaegkogklgaaDoor.words

/- The contracts of the laws' helpers over edges and Graphs: sizes, copies, comparisons, marks. -/
namespace Go.Proofs.YtdhbaegkogklgaaDoor.edges
open Go.RowKit P2 words

theorem infoEd : (Tryd.prog.info? 111).map (fun i => (i.zero, i.size, i.bytes)) = some (some (.agg #[.int .i64 0, .int .i64 0]), 2, 16) := by kernel_rfl

theorem toIntA2_any (a b : Int) (w : World) :
    Calls Tryd.prog 94 #[.agg #[.int .i64 a, .int .i64 b]] w fun e w' => e = .returned (.agg #[.int .i64 a, .int .i64 b]) ∧ Below w.heap.size w w' := by
  go_enter Tryd.func94, Tryd.ntmps94
  go_wp2_with fail
  refine wp_loop_rounds 3 ?_
  iterate 3 (rw [rounds_succ]; go_wp2_with fail)
  refine bodyPost_ret (v := .agg #[.int .i64 a, .int .i64 b]) (by simp [results, Tryd.results94, go_sem]) rfl ⟨rfl, ?_⟩
  exact (((Below.refl _ _).alloc (Nat.le_refl _) _).alloc (by simp) _).alloc (by simp; omega) _

theorem eqIntA2_any (a b : Int) (w : World) :
    Calls Tryd.prog 107 #[.agg #[.int .i64 a, .int .i64 b], .agg #[.int .i64 a, .int .i64 b]] w fun e w' => e = .returned (.bool true) ∧ Below w.heap.size w w' := by
  go_enter Tryd.func107, Tryd.ntmps107
  go_wp2_with fail
  refine wp_loop_rounds 3 ?_
  iterate 2 (rw [rounds_succ]; go_wp2_with fail; go_quiet (fail); go_wp2_with fail)
  rw [rounds_succ]
  go_wp2_with fail
  go_ret
  exact ⟨rfl, below_drewN (((Below.refl _ _).alloc (Nat.le_refl _) _).alloc (by simp) _) _⟩

theorem szIntA2S_any (v : Value) (l : List Ed) (w : World) (h : Edges w v l) (hl : l.length ≤ maxLen) :
    Calls Tryd.prog 34 #[v, .int .i64 1048576] w fun e w' => e = .returned (.int .i64 (if l.length ≤ 1048576 then (1048576 - l.length : Int) else -1)) ∧ w = w' := by
  obtain ⟨A, c, rfl, -⟩ := h.form
  unfold maxLen at hl
  by_cases h1 : l.length ≤ 1048576
  · rw [if_pos h1]
    have h2 : (l.length : Int) ≤ 1048576 := by omega
    go_enter Tryd.func34, Tryd.ntmps34
    go_wp2_with fail
    go_ret
    exact ⟨rfl, rfl⟩
  · rw [if_neg h1]
    have h2 : (1048576 : Int) < (l.length : Int) := by omega
    go_enter Tryd.func34, Tryd.ntmps34
    go_wp2_with fail
    go_ret
    exact ⟨rfl, rfl⟩
theorem szGraph_any (s : Int) (v : Value) (l : List Ed) (w : World) (h : Edges w v l) (hl : l.length ≤ maxLen) :
    Calls Tryd.prog 9 #[.agg #[.int .i64 s, v], .int .i64 1048576] w fun e w' => e = .returned (.int .i64 (if l.length ≤ 1048576 then (1048576 - l.length : Int) else -1)) ∧ Below w.heap.size w w' := by
  obtain ⟨A, c, hv, -⟩ := h.form
  have hb := h.below ((Below.refl _ _).alloc (Nat.le_refl _) (.cells #[.int .i64 s, v] 24))
  have HS := Lib.hid (szIntA2S_any v l _ hb hl)
  subst hv
  by_cases h1 : l.length ≤ 1048576
  · rw [if_pos h1] at HS ⊢
    have h2 : (l.length : Int) ≤ 1048576 := by omega
    clear hb h
    go_enter Tryd.func9, Tryd.ntmps9
    go_wp2_with (go_at_call 34; refine HS.out.mono ?_; rintro e w' ⟨rfl, rfl⟩)
    go_ret
    exact ⟨rfl, (Below.refl _ _).alloc (Nat.le_refl _) _⟩
  · rw [if_neg h1] at HS ⊢
    clear hb h
    go_enter Tryd.func9, Tryd.ntmps9
    go_wp2_with (go_at_call 34; refine HS.out.mono ?_; rintro e w' ⟨rfl, rfl⟩)
    go_ret
    exact ⟨rfl, (Below.refl _ _).alloc (Nat.le_refl _) _⟩

/-- the first k edges, then empty ones -/
def copied (l : List Ed) (k : Nat) : List Value := cellsE (l.take k ++ List.replicate (l.length - k) (0, 0))
theorem copied_all (l : List Ed) : copied l l.length = cellsE l := by simp [copied]
theorem copied_zero (l : List Ed) : copied l 0 = cellsE (List.replicate l.length (0, 0)) := by simp [copied]
theorem cellsE_set (l m : List Ed) (a e : Ed) : ((cellsE (l ++ a :: m)).set (l.length * 2) (.int .i64 e.1)).set (l.length * 2 + 1) (.int .i64 e.2) = cellsE (l ++ e :: m) := by
  have hl := cellsE_len l
  have h2 : ∀ x : Ed, cellsE (x :: m) = .int .i64 x.1 :: .int .i64 x.2 :: cellsE m := fun x => rfl
  rw [cellsE_app, cellsE_app, h2, h2, ← hl, List.set_append_right _ _ (Nat.le_refl _), Nat.sub_self, List.set_cons_zero, List.set_append_right _ _ (by omega), show (cellsE l).length + 1 - (cellsE l).length = 1 from by omega]
  rfl
theorem copied_set {l : List Ed} {k : Nat} {e : Ed} (h : l[k]? = some e) : ((copied l k).set (k * 2) (.int .i64 e.1)).set (k * 2 + 1) (.int .i64 e.2) = copied l (k + 1) := by
  obtain ⟨hk, he⟩ := List.getElem?_eq_some_iff.1 h
  have hl : (l.take k).length = k := by rw [List.length_take]; omega
  unfold copied
  rw [show l.length - k = (l.length - (k + 1)) + 1 from by omega, List.replicate_succ]
  have := cellsE_set (l.take k) (List.replicate (l.length - (k + 1)) (0, 0)) (0, 0) e
  rw [hl] at this
  rw [this, List.take_add_one, h]
  simp
theorem made2 (n : Nat) : (madeCells #[Value.int .i64 0, Value.int .i64 0] (n * 2)).toList = cellsE (List.replicate n (0, 0)) := by
  apply List.ext_getElem?
  intro j
  have hr : ∀ k, k < n → (List.replicate n ((0, 0) : Ed))[k]? = some (0, 0) := fun k hk => by rw [List.getElem?_replicate, if_pos hk]
  by_cases hj : j < n * 2
  · rcases Nat.mod_two_eq_zero_or_one j with h0 | h0
    · obtain ⟨k, rfl⟩ : ∃ k, j = k * 2 := ⟨j / 2, by omega⟩
      rw [(cellsE_at (hr k (by omega))).1]
      simp [madeCells, hj]
    · obtain ⟨k, rfl⟩ : ∃ k, j = k * 2 + 1 := ⟨j / 2, by omega⟩
      rw [(cellsE_at (hr k (by omega))).2]
      simp [madeCells, hj, Nat.add_mod]
  · rw [List.getElem?_eq_none (by simp [madeCells]; omega), List.getElem?_eq_none (by rw [cellsE_len, List.length_replicate]; omega)]

set_option maxHeartbeats 400000 in
theorem toIntA2S_any (v : Value) (l : List Ed) (w : World) (h : Edges w v l) (hl : l.length ≤ 1048576) :
    Calls Tryd.prog 43 #[v] w fun e w' => ∃ A c, e = .returned (.slice A l.length c) ∧ w'.ownsRow w.heap.size 111 2 (.slice A l.length c) l.length (cellsE l) ∧ Below w.heap.size w w' := by
  obtain ⟨A, c, rfl, hc⟩ := h.form
  obtain ⟨i0, hi, hz0, hz1, hz2⟩ := info_parts infoEd
  have hmk := run_make_rowN (P := Tryd.prog) 22 111 i0 (.agg #[.int .i64 0, .int .i64 0]) Tryd.underlying22 hi hz0 .i64 .i64 l.length l.length (Nat.le_refl _) (by rw [hz2]; omega) (by omega)
  have hmm := made2 l.length
  have hown := World.ownsRow_lit (base := w.heap.size) (e := 111) (size := 2) w (madeCells #[Value.int .i64 0, Value.int .i64 0] (l.length * 2)) l.length (Nat.le_refl _) (by unfold maxLen; omega) (size_madeCells _ _)
  rw [hmm, ← copied_zero] at hown
  have HOWN := Lib.hid hown
  have HC := Lib.hid hc
  clear hown hmm hc
  go_enter Tryd.func43, Tryd.ntmps43
  go_wp2_with fail
  go_loopw [4] (fun i wr => ∃ k : Nat, k ≤ l.length ∧ i = .int .i64 (k : Int) ∧ wr.ownsRow w.heap.size 111 2 (.slice (some ⟨w.heap.size, 0, none⟩) l.length l.length) l.length (copied l k) ∧ Below w.heap.size w wr)
    (fun i _ => l.length - (intOf i).toNat)
  case atStart => exact ⟨0, Nat.zero_le _, rfl, HOWN.out, (Below.refl _ _).alloc (Nat.le_refl _) _⟩
  case round =>
    obtain ⟨k, hk, rfl, hrow, hB⟩ := hrel
    by_cases hlt : k < l.length
    · obtain ⟨x, hx⟩ : ∃ x, l[k]? = some x := ⟨_, List.getElem?_eq_getElem hlt⟩
      obtain ⟨g, o, rfl, c0, c1⟩ := HC.out k x hx
      have hlt' : (k : Int) < (l.length : Int) := by omega
      have d0 : wr.cell? ⟨g, o + k * 2, none⟩ = some (.int .i64 x.1) := (hB.cell (p := ⟨g, o + k * 2, none⟩) (World.block_lt_of_cell? w (a := ⟨g, o + k * 2, none⟩) c0)).trans c0
      have d1 : wr.cell? ⟨g, o + k * 2 + 1, none⟩ = some (.int .i64 x.2) := (hB.cell (p := ⟨g, o + k * 2 + 1, none⟩) (World.block_lt_of_cell? w (a := ⟨g, o + k * 2 + 1, none⟩) c1)).trans c1
      have HX := Lib.hid hx
      clear hx c0 c1
      obtain ⟨a, b⟩ := x
      go_wp2_with fail
      refine (toIntA2_any a b _).mono ?_
      rintro e w1 ⟨rfl, hb⟩
      have hrow1 := hrow.kept (gof hb none) (.inr (by simp [Value.ownBlock]))
      have hlc : (copied l k).length = l.length * 2 := by have := hrow1.1; omega
      obtain ⟨u, hu⟩ : ∃ u, (copied l k)[k * 2]? = some u := ⟨_, List.getElem?_eq_getElem (by omega)⟩
      obtain ⟨v, hv⟩ : ∃ v, (copied l k)[k * 2 + 1]? = some v := ⟨_, List.getElem?_eq_getElem (by omega)⟩
      have f0 := hrow1.cellAt (k * 2) (by omega)
      have f1 := hrow1.cellAt (k * 2 + 1) (by omega)
      rw [hu] at f0
      rw [hv] at f1
      have z0 := hrow1.frozenAt (k * 2)
      have z1 := hrow1.frozenAt (k * 2 + 1)
      have hst := own_store2 hrow1 k (.int .i64 a) (.int .i64 b)
      have := copied_set HX.out
      simp only at this
      rw [this] at hst
      have HST := Lib.hid hst
      have HB : Hid (Below w.heap.size w w1) := hB.trans (hb.mono hB.size)
      clear hst hu hv this hrow1 hrow hB
      go_wp2_with fail
      go_roundw
      case rel => exact ⟨k + 1, by omega, by go_num, HST.out, (HB.out.setCell (Nat.le_refl _) _).setCell (Nat.le_refl _) _⟩
      case measure => simp [intOf]; omega
    · obtain rfl : k = l.length := by omega
      rw [copied_all] at hrow
      go_wp2_with fail
      go_ret
      exact ⟨_, _, rfl, hrow, hB⟩

theorem toGraph_any (s : Int) (v : Value) (l : List Ed) (w : World) (h : Edges w v l) (hl : l.length ≤ 1048576) :
    Calls Tryd.prog 11 #[.agg #[.int .i64 s, v]] w fun e w' => ∃ A c, e = .returned (.agg #[.int .i64 s, .slice A l.length c]) ∧ w'.ownsRow w.heap.size 111 2 (.slice A l.length c) l.length (cellsE l) ∧ Below w.heap.size w w' := by
  have hw1 : Below w.heap.size w (((w.alloc (.cells #[.int .i64 s, v] 24)).alloc (.cells #[.int .i64 0, .slice none 0 0] 29)).alloc (.cells #[.int .i64 0, .slice none 0 0] 29)) :=
    (((Below.refl _ _).alloc (Nat.le_refl _) _).alloc (by simp) _).alloc (by simp; omega) _
  have hw2 := hw1.size
  obtain ⟨A, c, rfl, -⟩ := h.form
  have h0 := h.below ((((Below.refl w.heap.size w).alloc (Nat.le_refl _) (.cells #[.int .i64 s, .slice A l.length c] 24)).alloc (by simp) (.cells #[.int .i64 0, .slice none 0 0] 29)).alloc (by simp; omega) (.cells #[.int .i64 s, .slice none 0 0] 29))
  have HT := Lib.hid (toIntA2S_any _ l _ h0 hl)
  clear h0 h hw1 hw2
  go_enter Tryd.func11, Tryd.ntmps11
  go_wp2_with fail
  refine HT.out.mono ?_
  rintro e w1 ⟨A2, c2, rfl, hr, hb⟩
  obtain ⟨B1, -⟩ : Blk w1 (w.heap.size + 1) 29 #[.int .i64 0, .slice none 0 0] ∧ True := ⟨Blk.below (B := w.heap.size + 1 + 1 + 1) (by simpa using ((Blk.new (w.alloc (.cells #[.int .i64 s, .slice A l.length c] 24)) 29 #[.int .i64 0, .slice none 0 0]).alloc (.cells #[.int .i64 s, .slice none 0 0] 29))) (by simpa using hb) (by omega), trivial⟩
  obtain ⟨B2, -⟩ : Blk w1 (w.heap.size + 1 + 1) 29 #[.int .i64 s, .slice none 0 0] ∧ True := ⟨Blk.below (B := w.heap.size + 1 + 1 + 1) (by simpa using (Blk.new ((w.alloc (.cells #[.int .i64 s, .slice A l.length c] 24)).alloc (.cells #[.int .i64 0, .slice none 0 0] 29)) 29 #[.int .i64 s, .slice none 0 0])) (by simpa using hb) (by omega), trivial⟩
  obtain ⟨p0, p1, z0, z1⟩ := B1.two
  obtain ⟨q0, q1, y0, y1⟩ := B2.two
  clear HT B1 B2
  go_wp2_with fail
  refine bodyPost_ret (v := .agg #[.int .i64 s, .slice A2 l.length c2]) (by simp [results, Tryd.results11, go_sem, p0, p1]) rfl ⟨A2, c2, rfl, ?_, ?_⟩
  · simp only [World.size_alloc] at hr
    exact own_base (ownsRow_setCell_below (ownsRow_setCell_below (ownsRow_setCell_below hr (by simp) _) (by simp) _) (by simp) _) (by omega)
  · exact ((((((Below.refl w.heap.size w).alloc (Nat.le_refl _) _).alloc (by simp) _).alloc (by simp; omega) _).trans (hb.mono (by simp; omega))).setCell (by simp; omega) _).setCell (by simp) _ |>.setCell (by simp) _

set_option maxHeartbeats 1000000 in
theorem eqIntA2S_yes (a b : Value) (l : List Ed) (w : World) (ha : Edges w a l) (hb : Edges w b l) (hl : l.length ≤ 1048576) :
    Calls Tryd.prog 55 #[a, b] w fun e w' => e = .returned (.bool true) ∧ Below w.heap.size w w' := by
  obtain ⟨A1, c1, rfl, h1⟩ := ha.form
  obtain ⟨A2, c2, rfl, h2⟩ := hb.form
  have H1 := Lib.hid h1
  have H2 := Lib.hid h2
  clear h1 h2 ha hb
  go_enter Tryd.func55, Tryd.ntmps55
  go_wp2_with fail
  go_loopw [5] (fun i wr => ∃ k : Nat, k ≤ l.length ∧ i = .int .i64 (k : Int) ∧ Below w.heap.size w wr) (fun i _ => l.length - (intOf i).toNat)
  case atStart => exact ⟨0, Nat.zero_le _, rfl, Below.refl _ _⟩
  case round =>
    obtain ⟨k, hk, rfl, hB⟩ := hrel
    by_cases hlt : k < l.length
    · obtain ⟨x, hx⟩ : ∃ x, l[k]? = some x := ⟨_, List.getElem?_eq_getElem hlt⟩
      obtain ⟨g1, o1, rfl, p0, p1⟩ := H1.out k x hx
      obtain ⟨g2, o2, rfl, q0, q1⟩ := H2.out k x hx
      have hlt' : (k : Int) < (l.length : Int) := by omega
      have d0 : wr.cell? ⟨g1, o1 + k * 2, none⟩ = some (.int .i64 x.1) := (hB.cell (p := ⟨g1, o1 + k * 2, none⟩) (World.block_lt_of_cell? w (a := ⟨g1, o1 + k * 2, none⟩) p0)).trans p0
      have d1 : wr.cell? ⟨g1, o1 + k * 2 + 1, none⟩ = some (.int .i64 x.2) := (hB.cell (p := ⟨g1, o1 + k * 2 + 1, none⟩) (World.block_lt_of_cell? w (a := ⟨g1, o1 + k * 2 + 1, none⟩) p1)).trans p1
      have e0 : wr.cell? ⟨g2, o2 + k * 2, none⟩ = some (.int .i64 x.1) := (hB.cell (p := ⟨g2, o2 + k * 2, none⟩) (World.block_lt_of_cell? w (a := ⟨g2, o2 + k * 2, none⟩) q0)).trans q0
      have e1 : wr.cell? ⟨g2, o2 + k * 2 + 1, none⟩ = some (.int .i64 x.2) := (hB.cell (p := ⟨g2, o2 + k * 2 + 1, none⟩) (World.block_lt_of_cell? w (a := ⟨g2, o2 + k * 2 + 1, none⟩) q1)).trans q1
      clear p0 p1 q0 q1 hx
      obtain ⟨a, b⟩ := x
      go_wp2_with fail
      go_region_held3 (fun w' => w'.cell? ⟨g1, o1 + k * 2, none⟩ = some (.int .i64 a) ∧ w'.cell? ⟨g1, o1 + k * 2 + 1, none⟩ = some (.int .i64 b) ∧ w'.cell? ⟨g2, o2 + k * 2, none⟩ = some (.int .i64 a) ∧ w'.cell? ⟨g2, o2 + k * 2 + 1, none⟩ = some (.int .i64 b)) (go_keep)
        (first | (go_at_call 107; refine (keep4 (p := ⟨g1, o1 + k * 2, none⟩) (q := ⟨g1, o1 + k * 2 + 1, none⟩) (r := ⟨g2, o2 + k * 2, none⟩) (s := ⟨g2, o2 + k * 2 + 1, none⟩) (eqIntA2_any a b _) (a := .int .i64 a) (b := .int .i64 b) (c := .int .i64 a) (d := .int .i64 b) ?_ ?_ ?_ ?_).mono ?_; (simp [*]); (simp [*]); (simp [*]); (simp [*]); rintro e w1 ⟨rfl, k0, k1, k2, k3, hb⟩))
      have hB2 : Below w.heap.size w w1 := hB.drew.trans (hb.mono hB.size)
      clear hb hB
      go_wp2_with fail
      go_roundw
      case rel => exact ⟨k + 1, by omega, by go_num, hB2⟩
      case measure => simp [intOf]; omega
    · go_wp2_with fail
      go_ret
      exact ⟨rfl, hB⟩

theorem eqGraph_yes (s : Int) (a b : Value) (l : List Ed) (w : World) (ha : Edges w a l) (hb : Edges w b l) (hl : l.length ≤ 1048576) :
    Calls Tryd.prog 14 #[.agg #[.int .i64 s, a], .agg #[.int .i64 s, b]] w fun e w' => e = .returned (.bool true) ∧ Below w.heap.size w w' := by
  have hB : Below w.heap.size w ((w.alloc (.cells #[.int .i64 s, a] 29)).alloc (.cells #[.int .i64 s, b] 29)) := ((Below.refl _ _).alloc (Nat.le_refl _) _).alloc (by simp) _
  have HE := Lib.hid (eqIntA2S_yes a b l _ (ha.below hB) (hb.below hB) hl)
  obtain ⟨A1, c1, rfl, -⟩ := ha.form
  obtain ⟨A2, c2, rfl, -⟩ := hb.form
  have hs : (s != s) = false := by simp
  clear hB ha hb
  go_enter Tryd.func14, Tryd.ntmps14
  go_wp2_with (go_at_call 55; refine HE.out.mono ?_; rintro e w1 ⟨rfl, hb⟩)
  go_ret
  exact ⟨rfl, ((((Below.refl _ _).alloc (Nat.le_refl _) _).alloc (by simp) _).trans (hb.mono (by simp; omega)))⟩

theorem toGraph_k (s : Int) (v : Value) (l : List Ed) (W : World) (h : Edges W v l) (hl : l.length ≤ 1048576) {p q r t : Addr} {a b c d : Value} (hp : W.cell? p = some a) (hq : W.cell? q = some b) (hr : W.cell? r = some c) (ht : W.cell? t = some d) :
    Calls Tryd.prog 11 #[.agg #[.int .i64 s, v]] W fun e w' => (∃ A c, e = .returned (.agg #[.int .i64 s, .slice A l.length c]) ∧ w'.ownsRow W.heap.size 111 2 (.slice A l.length c) l.length (cellsE l)) ∧
      w'.cell? p = some a ∧ w'.cell? q = some b ∧ w'.cell? r = some c ∧ w'.cell? t = some d ∧ Below W.heap.size W w' :=
  keep4r ((toGraph_any s v l W h hl).mono fun _ _ ⟨A, c, h1, h2, h3⟩ => ⟨⟨A, c, h1, h2⟩, h3⟩) hp hq hr ht
theorem eqGraph_k (s : Int) (u v : Value) (l : List Ed) (W : World) (h1 : Edges W u l) (h2 : Edges W v l) (hl : l.length ≤ 1048576) {p q r t : Addr} {a b c d : Value} (hp : W.cell? p = some a) (hq : W.cell? q = some b) (hr : W.cell? r = some c) (ht : W.cell? t = some d) :
    Calls Tryd.prog 14 #[.agg #[.int .i64 s, u], .agg #[.int .i64 s, v]] W fun e w' => e = .returned (.bool true) ∧
      w'.cell? p = some a ∧ w'.cell? q = some b ∧ w'.cell? r = some c ∧ w'.cell? t = some d ∧ Below W.heap.size W w' :=
  keep4 (eqGraph_yes s u v l W h1 h2 hl) hp hq hr ht

/-- the marks of n edges, the first m -/
def marksE (m n : Nat) : List Ed := (List.range n).map fun j : Nat => (((m + 2 * j : Nat) : Int), ((m + 2 * j + 1 : Nat) : Int))
theorem marksE_len (m n : Nat) : (marksE m n).length = n := by simp [marksE]
theorem marksE_at {m n j : Nat} (h : j < n) : (marksE m n)[j]? = some (((m + 2 * j : Nat) : Int), ((m + 2 * j + 1 : Nat) : Int)) := by simp [marksE, h]
theorem marksE_succ (m n : Nat) : marksE m (n + 1) = marksE m n ++ [(((m + 2 * n : Nat) : Int), ((m + 2 * n + 1 : Nat) : Int))] := by simp [marksE, List.range_succ]
/-- the first k edges marked -/
def markedE (m k : Nat) (l : List Ed) : List Value := cellsE (marksE m k ++ l.drop k)
theorem markedE_zero (m : Nat) (l : List Ed) : markedE m 0 l = cellsE l := by simp [markedE, marksE]
theorem markedE_all (m : Nat) (l : List Ed) : markedE m l.length l = cellsE (marksE m l.length) := by simp [markedE]
theorem markedE_set (m k : Nat) (l : List Ed) (hk : k < l.length) :
    ((markedE m k l).set (k * 2) (.int .i64 ((m + 2 * k : Nat) : Int))).set (k * 2 + 1) (.int .i64 ((m + 2 * k + 1 : Nat) : Int)) = markedE m (k + 1) l := by
  unfold markedE
  rw [List.drop_eq_getElem_cons hk, marksE_succ]
  have := cellsE_set (marksE m k) (l.drop (k + 1)) l[k] (((m + 2 * k : Nat) : Int), ((m + 2 * k + 1 : Nat) : Int))
  rw [marksE_len] at this
  rw [this]
  simp

set_option maxHeartbeats 1000000 in
theorem markIntA2S_any (v : Value) (l : List Ed) (B m : Nat) (w : World) (h : w.ownsRow B 111 2 v l.length (cellsE l)) (hl : m + 2 * l.length ≤ 10000000) :
    Calls Tryd.prog 61 #[v, .int .i64 (m : Int)] w fun e w' => e = .returned (.int .i64 ((m + 2 * l.length : Nat) : Int)) ∧ w'.ownsRow B 111 2 v l.length (cellsE (marksE m l.length)) ∧ w.grownBy w' v.ownBlock := by
  obtain ⟨A, c, rfl⟩ := own_form h
  have h0 := h
  rw [← markedE_zero m l] at h0
  have H0 := Lib.hid h0
  clear h h0
  go_enter Tryd.func61, Tryd.ntmps61
  go_wp2_with fail
  go_loopw [1, 5] (fun q i wr => ∃ k : Nat, k ≤ l.length ∧ i = .int .i64 (k : Int) ∧ q = .int .i64 ((m + 2 * k : Nat) : Int) ∧ wr.ownsRow B 111 2 (.slice A l.length c) l.length (markedE m k l) ∧ w.grownBy wr (Value.slice A l.length c).ownBlock)
    (fun _ i _ => l.length - (intOf i).toNat)
  case atStart => exact ⟨0, Nat.zero_le _, rfl, rfl, H0.out, World.grownBy.refl _ _⟩
  case round =>
    obtain ⟨k, hk, rfl, rfl, hrow, hg⟩ := hrel
    by_cases hlt : k < l.length
    · obtain ⟨g, cap, hf⟩ : ∃ g cap, Value.slice A l.length c = .slice (some ⟨g, 0, none⟩) l.length cap := by
        rcases hrow.2 with ⟨hf, h0⟩ | ⟨g, cap, cur, hf, _⟩
        · omega
        · exact ⟨g, cap, hf⟩
      obtain ⟨rfl, rfl⟩ : A = some ⟨g, 0, none⟩ ∧ c = cap := by simpa using hf
      have hlt' : (k : Int) < (l.length : Int) := by omega
      have hlc : (markedE m k l).length = l.length * 2 := by have := hrow.1; omega
      obtain ⟨u, hu⟩ : ∃ u, (markedE m k l)[k * 2]? = some u := ⟨_, List.getElem?_eq_getElem (by omega)⟩
      obtain ⟨v, hv⟩ : ∃ v, (markedE m k l)[k * 2 + 1]? = some v := ⟨_, List.getElem?_eq_getElem (by omega)⟩
      have f0 := hrow.cellAt (k * 2) (by omega)
      have f1 := hrow.cellAt (k * 2 + 1) (by omega)
      rw [hu] at f0
      rw [hv] at f1
      have z0 := hrow.frozenAt (k * 2)
      have z1 := hrow.frozenAt (k * 2 + 1)
      have hst := own_store2 hrow k (.int .i64 ((m + 2 * k : Nat) : Int)) (.int .i64 ((m + 2 * k + 1 : Nat) : Int))
      rw [markedE_set m k l hlt] at hst
      have HST := Lib.hid hst
      have HG := Lib.hid hg
      clear hst hu hv hf hrow hlc hg
      go_wp2_with fail
      refine wp_loop_rounds 3 ?_
      iterate 3 (rw [rounds_succ]; go_wp2_with fail)
      go_roundw
      case rel => exact ⟨k + 1, by omega, by go_num, by go_num, HST.out, gset (gset HG.out _ _) _ _⟩
      case measure => simp [intOf]; omega
    · obtain rfl : k = l.length := by omega
      rw [markedE_all] at hrow
      go_wp2_with fail
      go_ret
      exact ⟨rfl, hrow, hg⟩

theorem markGraph_any (s : Int) (v : Value) (l : List Ed) (B m : Nat) (w : World) (h : w.ownsRow B 111 2 v l.length (cellsE l)) (hl : m + 2 * l.length ≤ 10000000) :
    Calls Tryd.prog 18 #[.agg #[.int .i64 s, v], .int .i64 (m : Int)] w fun e w' => e = .returned (.int .i64 ((m + 2 * l.length : Nat) : Int)) ∧ w'.ownsRow B 111 2 v l.length (cellsE (marksE m l.length)) ∧ w.grownBy w' v.ownBlock := by
  have HM := Lib.hid (markIntA2S_any v l B m _ (h.alloc (.cells #[.int .i64 s, v] 29)) hl)
  obtain ⟨A, c, rfl⟩ := own_form h
  clear h
  go_enter Tryd.func18, Tryd.ntmps18
  go_wp2_with (go_at_call 61; refine HM.out.mono ?_; rintro e w1 ⟨rfl, hr, hg⟩)
  go_ret
  exact ⟨rfl, hr, gtrans (World.grownBy_alloc _ _ _) hg⟩

end Go.Proofs.YtdhbaegkogklgaaDoor.edges

/- Whether a Graph is valid: the contracts of the program's IsGraph and of the model's l2Good, and of what they call. -/
namespace Go.Proofs.YtdhbaegkogklgaaDoor.good
open Go.RowKit P2 words edges

theorem quiet_left {P : Program} {f : FuncId} {args : Array Value} {w : World} {n : Nat} {v : Value}
    (h : Calls P f args (w.drewN n) fun e w' => e = .returned v ∧ w.drewN n = w') : Calls P f args (w.drewN n) fun e w'' => e = .returned v ∧ ∃ m, w'' = w.drewN m :=
  h.mono fun _ _ ⟨he, hm⟩ => ⟨he, n, hm.symm⟩

theorem l1In_yes (x a b : Int) (w : World) (h1 : a ≤ x) (h2 : x ≤ b) :
    Calls Tryd.prog 86 #[.int .i64 x, .int .i64 a, .int .i64 b] w fun e w' => e = .returned (.bool true) ∧ w = w' := by
  go_enter Tryd.func86, Tryd.ntmps86
  go_wp2_with fail
  go_ret
  exact ⟨rfl, rfl⟩
theorem l1In_no (x a b : Int) (w : World) (h : x < a ∨ b < x) :
    Calls Tryd.prog 86 #[.int .i64 x, .int .i64 a, .int .i64 b] w fun e w' => e = .returned (.bool false) ∧ w = w' := by
  by_cases h1 : a ≤ x
  · have h2 : ¬ x ≤ b := by omega
    have d2 : decide (x ≤ b) = false := by simpa using h2
    clear h
    go_enter Tryd.func86, Tryd.ntmps86
    go_wp2_with fail
    go_ret
    exact ⟨rfl, rfl⟩
  · have d1 : decide (a ≤ x) = false := by simpa using h1
    clear h
    go_enter Tryd.func86, Tryd.ntmps86
    go_wp2_with fail
    go_ret
    exact ⟨rfl, rfl⟩
def inB (x a b : Int) : Bool := decide (a ≤ x ∧ x ≤ b)
theorem l1In_any (x a b : Int) (w : World) :
    Calls Tryd.prog 86 #[.int .i64 x, .int .i64 a, .int .i64 b] w fun e w' => e = .returned (.bool (inB x a b)) ∧ w = w' := by
  by_cases h : a ≤ x ∧ x ≤ b
  · have : inB x a b = true := by simp [inB, h]
    rw [this]; exact l1In_yes x a b w h.1 h.2
  · have : inB x a b = false := by simp only [inB, decide_eq_false_iff_not]; exact h
    rw [this]; exact l1In_no x a b w (by omega)

def lexB (a b : Ed) : Bool := decide (Lex a b)
theorem l2Before_any (a b c d : Int) (w : World) :
    Calls Tryd.prog 87 #[.agg #[.int .i64 a, .int .i64 b], .agg #[.int .i64 c, .int .i64 d]] w fun e w' => e = .returned (.bool (lexB (a, b) (c, d))) ∧ Below w.heap.size w w' := by
  have hL : lexB (a, b) (c, d) = decide (a < c ∨ (a = c ∧ b < d)) := rfl
  have hB : Below w.heap.size w ((w.alloc (.cells #[.int .i64 a, .int .i64 b] 111)).alloc (.cells #[.int .i64 c, .int .i64 d] 111)) := ((Below.refl _ _).alloc (Nat.le_refl _) _).alloc (by simp) _
  have HB := Lib.hid hB
  clear hB
  rcases Int.lt_trichotomy a c with h | h | h
  · rw [show lexB (a, b) (c, d) = true from by rw [hL]; simp [h]]
    have d1 : decide (a < c) = true := by simpa using h
    clear hL
    go_enter Tryd.func87, Tryd.ntmps87
    go_wp2_with fail
    go_ret
    exact ⟨rfl, HB.out⟩
  · subst h
    have d1 : decide (a < a) = false := by simp
    have d2 : (a == a) = true := by simp
    rcases (show b < d ∨ d ≤ b from by omega) with h | h
    · rw [show lexB (a, b) (a, d) = true from by rw [hL]; simp [h]]
      have d3 : decide (b < d) = true := by simpa using h
      clear hL
      go_enter Tryd.func87, Tryd.ntmps87
      go_wp2_with fail
      go_ret
      exact ⟨rfl, HB.out⟩
    · rw [show lexB (a, b) (a, d) = false from by rw [hL]; simp; omega]
      have d3 : decide (b < d) = false := by simp; omega
      clear hL
      go_enter Tryd.func87, Tryd.ntmps87
      go_wp2_with fail
      go_ret
      exact ⟨rfl, HB.out⟩
  · rw [show lexB (a, b) (c, d) = false from by rw [hL]; simp; omega]
    have d1 : decide (a < c) = false := by simp; omega
    have d2 : (a == c) = false := by simp; omega
    clear hL
    go_enter Tryd.func87, Tryd.ntmps87
    go_wp2_with fail
    go_ret
    exact ⟨rfl, HB.out⟩

def cmpI (a b : Int) : Int := if a < b then -1 else if b < a then 1 else 0
theorem compare_any (a b : Int) (w : World) :
    Calls Tryd.prog 102 #[.int .i64 a, .int .i64 b] w fun e w' => e = .returned (.int .i64 (cmpI a b)) ∧ w = w' := by
  have ha : (a != a) = false := by simp
  have hb : (b != b) = false := by simp
  rcases Int.lt_trichotomy a b with h | h | h
  · rw [show cmpI a b = -1 from by unfold cmpI; rw [if_pos h]]
    go_enter Tryd.func102, Tryd.ntmps102
    go_wp2
    go_ret
    exact ⟨rfl, rfl⟩
  · rw [show cmpI a b = 0 from by unfold cmpI; rw [if_neg (by omega), if_neg (by omega)]]
    go_enter Tryd.func102, Tryd.ntmps102
    go_wp2
    go_ret
    exact ⟨rfl, rfl⟩
  · rw [show cmpI a b = 1 from by unfold cmpI; rw [if_neg (by omega), if_pos h]]
    go_enter Tryd.func102, Tryd.ntmps102
    go_wp2
    go_ret
    exact ⟨rfl, rfl⟩
def cmpE (a b : Ed) : Int := if cmpI a.1 b.1 = 0 then cmpI a.2 b.2 else cmpI a.1 b.1
theorem cmpE_lex {a b : Ed} (h : Lex a b) : cmpE a b = -1 := by
  unfold Lex at h; unfold cmpE cmpI
  split <;> split at * <;> (try split at *) <;> (try split) <;> omega
theorem cmpE_not {a b : Ed} (h : ¬ Lex a b) : 0 ≤ cmpE a b := by
  unfold Lex at h; unfold cmpE cmpI
  split <;> split at * <;> (try split at *) <;> (try split) <;> omega
theorem compare2_any (g1 o1 c1 g2 o2 c2 : Nat) (a b : Ed) (w : World) (h0 : w.cell? ⟨g1, o1, none⟩ = some (.int .i64 a.1)) (h1 : w.cell? ⟨g1, o1 + 1, none⟩ = some (.int .i64 a.2))
    (k0 : w.cell? ⟨g2, o2, none⟩ = some (.int .i64 b.1)) (k1 : w.cell? ⟨g2, o2 + 1, none⟩ = some (.int .i64 b.2)) :
    Calls Tryd.prog 132 #[.slice (some ⟨g1, o1, none⟩) 2 c1, .slice (some ⟨g2, o2, none⟩) 2 c2] w fun e w' => e = .returned (.int .i64 (cmpE a b)) ∧ w = w' := by
  obtain ⟨a1, a2⟩ := a
  obtain ⟨b1, b2⟩ := b
  obtain ⟨r1, hr1⟩ : ∃ r, cmpI a1 b1 = r := ⟨_, rfl⟩
  obtain ⟨r2, hr2⟩ : ∃ r, cmpI a2 b2 = r := ⟨_, rfl⟩
  have C1 := fun W => compare_any a1 b1 W
  have C2 := fun W => compare_any a2 b2 W
  unfold cmpE
  simp only at h0 h1 k0 k1 ⊢
  rw [hr1] at C1 ⊢
  rw [hr2] at C2 ⊢
  have D1 := Lib.hid C1
  have D2 := Lib.hid C2
  clear C1 C2 hr1 hr2
  by_cases hz : r1 = 0
  · rw [if_pos hz]
    subst hz
    by_cases hy : r2 = 0
    · subst hy
      go_enter Tryd.func132, Tryd.ntmps132
      go_wp2_with fail
      refine wp_loop_rounds 3 ?_
      rw [rounds_succ]
      go_wp2_with (go_at_call 102; refine (D1.out _).mono ?_; rintro e w' ⟨rfl, rfl⟩)
      rw [rounds_succ]
      go_wp2_with (go_at_call 102; refine (D2.out _).mono ?_; rintro e w' ⟨rfl, rfl⟩)
      rw [rounds_succ]
      go_wp2_with fail
      go_ret
      exact ⟨rfl, rfl⟩
    · have d2 : (r2 != 0) = true := by simpa using hy
      go_enter Tryd.func132, Tryd.ntmps132
      go_wp2_with fail
      refine wp_loop_rounds 3 ?_
      rw [rounds_succ]
      go_wp2_with (go_at_call 102; refine (D1.out _).mono ?_; rintro e w' ⟨rfl, rfl⟩)
      rw [rounds_succ]
      go_wp2_with (go_at_call 102; refine (D2.out _).mono ?_; rintro e w' ⟨rfl, rfl⟩)
      go_ret
      exact ⟨rfl, rfl⟩
  · rw [if_neg hz]
    have d2 : (r1 != 0) = true := by simpa using hz
    go_enter Tryd.func132, Tryd.ntmps132
    go_wp2_with fail
    refine wp_loop_rounds 3 ?_
    rw [rounds_succ]
    go_wp2_with (go_at_call 102; refine (D1.out _).mono ?_; rintro e w' ⟨rfl, rfl⟩)
    go_ret
    exact ⟨rfl, rfl⟩

theorem ok_of {m : Int} {l : List Ed} {k : Nat} {e : Ed} (he : l[k]? = some e) (h1 : 0 ≤ e.1) (h2 : e.1 < e.2) (h3 : e.2 ≤ m) (h4 : ∀ d, 0 < k → l[k - 1]? = some d → Lex d e) : OkAt m l k := fun e' he' => by
  rw [he] at he'; cases he'; exact ⟨h1, h2, h3, h4⟩
theorem not_ok_of {m : Int} {l : List Ed} {k : Nat} {e : Ed} (he : l[k]? = some e) (h : e.1 < 0 ∨ e.2 ≤ e.1 ∨ m < e.2) : ¬ OkAt m l k := fun H => by
  have := H e he; omega
theorem not_ok_lex {m : Int} {l : List Ed} {k : Nat} {d e : Ed} (he : l[k]? = some e) (hk : 0 < k) (hd : l[k - 1]? = some d) (h : ¬ Lex d e) : ¬ OkAt m l k := fun H => h ((H e he).2.2.2 d hk hd)

set_option maxHeartbeats 1000000 in
theorem implIsGraph_no (s : Int) (v : Value) (l : List Ed) (w : World) (h : Edges w v l) (hs : s < 0 ∨ 8 < s) :
    Calls Tryd.prog 109 #[.agg #[.int .i64 s, v]] w fun e w' => e = .returned (.bool false) ∧ Below w.heap.size w w' := by
  obtain ⟨A, c, rfl, -⟩ := h.form
  clear h
  by_cases h0 : s < 0
  · have d0 : decide (s < 0) = true := by simpa using h0
    clear hs
    go_enter Tryd.func109, Tryd.ntmps109
    go_wp2_with fail
    go_ret
    exact ⟨rfl, (Below.refl _ _).alloc (Nat.le_refl _) _⟩
  · have d0 : decide (s < 0) = false := by simpa using h0
    have d1 : decide (8 < s) = true := by simp; omega
    clear hs
    go_enter Tryd.func109, Tryd.ntmps109
    go_wp2_with fail
    go_ret
    exact ⟨rfl, (Below.refl _ _).alloc (Nat.le_refl _) _⟩

set_option maxHeartbeats 1000000 in
theorem implIsGraph_in (s : Int) (v : Value) (l : List Ed) (w : World) (h : Edges w v l) (h0 : 0 ≤ s) (h8 : s ≤ 8) (hl : l.length ≤ 1048576) :
    Calls Tryd.prog 109 #[.agg #[.int .i64 s, v]] w fun e w' => e = .returned (.bool (goodB s l)) ∧ Below w.heap.size w w' := by
  have hbx := Blk.new w 29 #[.int .i64 s, v]
  have hb1 : Below w.heap.size w (w.alloc (.cells #[.int .i64 s, v] 29)) := (Below.refl _ _).alloc (Nat.le_refl _) _
  obtain ⟨A, c, rfl, hc⟩ := h.form
  have HC := Lib.hid hc
  have d0 : decide (s < 0) = false := by simpa using h0
  have d1 : decide (8 < s) = false := by simpa using h8
  clear h hc
  go_enter Tryd.func109, Tryd.ntmps109
  go_wp2_with fail
  go_loopw [16] (fun i wr => ∃ k : Nat, k ≤ l.length ∧ i = .int .i64 (k : Int) ∧ Hid (OkTo (s - 1) l k) ∧ Blk wr w.heap.size 29 #[.int .i64 s, .slice A l.length c] ∧ Below w.heap.size w wr) (fun i _ => l.length - (intOf i).toNat)
  case atStart => exact ⟨0, Nat.zero_le _, rfl, OkTo.zero _ _, hbx, hb1⟩
  case round =>
    obtain ⟨k, hk, rfl, hok, hbk, hB⟩ := hrel
    by_cases hlt : k < l.length
    · obtain ⟨x, hx⟩ : ∃ x, l[k]? = some x := ⟨_, List.getElem?_eq_getElem hlt⟩
      obtain ⟨g, o, rfl, c0, c1⟩ := HC.out k x hx
      have hlt' : (k : Int) < (l.length : Int) := by omega
      have q0 : wr.cell? ⟨g, o + k * 2, none⟩ = some (.int .i64 x.1) := (hB.cell (p := ⟨g, o + k * 2, none⟩) (World.block_lt_of_cell? w (a := ⟨g, o + k * 2, none⟩) c0)).trans c0
      have q1 : wr.cell? ⟨g, o + k * 2 + 1, none⟩ = some (.int .i64 x.2) := (hB.cell (p := ⟨g, o + k * 2 + 1, none⟩) (World.block_lt_of_cell? w (a := ⟨g, o + k * 2 + 1, none⟩) c1)).trans c1
      obtain ⟨p0, p1, z0, z1⟩ := hbk.two
      have hsz : w.heap.size < wr.heap.size := hbk.lt
      obtain ⟨a, b⟩ := x
      have HBK := Lib.hid hbk
      clear hbk c0 c1
      by_cases ha : 0 ≤ a
      · by_cases hab : a < b
        · by_cases hbs : b < s
          · by_cases hk0 : k = 0
            · have dk : decide (0 < k) = false := by simp; omega
              have dk' : decide ((0 : Int) < (k : Int)) = false := by simp; omega
              have HOK := Lib.hid (hok.out.succ (ok_of hx ha hab (by simp only; omega) (fun d h => by omega)))
              clear hx hk0
              go_wp2_with fail
              go_quiet (fail)
              go_wp2_with fail
              go_roundw
              case rel => exact ⟨k + 1, by omega, by go_num, HOK, (HBK.out.alloc _).drewN _, below_drewN (hB.alloc (by omega) _) _⟩
              case measure => simp [intOf]; omega
            · obtain ⟨j, rfl⟩ : ∃ j, k = j + 1 := ⟨k - 1, by omega⟩
              obtain ⟨y, hy⟩ : ∃ y, l[j]? = some y := ⟨_, List.getElem?_eq_getElem (by omega)⟩
              obtain ⟨g', o', e', c2, c3⟩ := HC.out j y hy
              obtain ⟨rfl, rfl⟩ : g = g' ∧ o = o' := by simpa using e'
              have q2 : wr.cell? ⟨g, o + j * 2, none⟩ = some (.int .i64 y.1) := (hB.cell (p := ⟨g, o + j * 2, none⟩) (World.block_lt_of_cell? w (a := ⟨g, o + j * 2, none⟩) c2)).trans c2
              have q3 : wr.cell? ⟨g, o + j * 2 + 1, none⟩ = some (.int .i64 y.2) := (hB.cell (p := ⟨g, o + j * 2 + 1, none⟩) (World.block_lt_of_cell? w (a := ⟨g, o + j * 2 + 1, none⟩) c3)).trans c3
              have hg : g < wr.heap.size := World.block_lt_of_cell? wr (a := ⟨g, o + j * 2, none⟩) q2
              have HW : Hid (∀ n, Calls Tryd.prog 132 #[.slice (some ⟨g, o + j * 2, none⟩) 2 2, .slice (some ⟨wr.heap.size, 0, none⟩) 2 2] ((wr.alloc (.cells #[.int .i64 a, .int .i64 b] 111)).drewN n) fun e w' => e = .returned (.int .i64 (cmpE y (a, b))) ∧ (wr.alloc (.cells #[.int .i64 a, .int .i64 b] 111)).drewN n = w') := fun n =>
                compare2_any g (o + j * 2) 2 wr.heap.size 0 2 y (a, b) _ ((World.cell?_alloc_lt wr _ _ hg).trans q2) ((World.cell?_alloc_lt wr _ _ hg).trans q3) ((Blk.new wr _ #[.int .i64 a, .int .i64 b]).cell 0) ((Blk.new wr _ #[.int .i64 a, .int .i64 b]).cell 1)
              clear c2 c3 e' q2 q3 hg
              by_cases hL : Lex y (a, b)
              · have HOK := Lib.hid (hok.out.succ (ok_of hx ha hab (by simp only; omega) (fun d _ hd => by
                  rw [Nat.add_sub_cancel] at hd; rw [hy] at hd; cases hd; exact hL)))
                rw [cmpE_lex hL] at HW
                clear hx hy hL
                go_wp2_with fail
                go_quiet ((go_at_call 132; exact quiet_left (HW.out _)))
                go_wp2_with fail
                go_roundw
                case rel => exact ⟨j + 1 + 1, by omega, by go_num, HOK, (HBK.out.alloc _).drewN _, below_drewN (hB.alloc (by omega) _) _⟩
                case measure => simp [intOf]; omega
              · have HN := Lib.hid (goodB_no (s := s) (not_good_at hlt (not_ok_lex hx (m := s - 1) (by omega) (by rw [Nat.add_sub_cancel]; exact hy) hL)))
                have hr := cmpE_not hL
                obtain ⟨r, hr2⟩ : ∃ r, cmpE y (a, b) = r := ⟨_, rfl⟩
                rw [hr2] at HW hr
                clear hx hy hL hr2
                go_wp2_with fail
                go_quiet ((go_at_call 132; exact quiet_left (HW.out _)))
                go_wp2_with fail
                go_ret
                exact ⟨ret_bool HN.out.symm, below_drewN (hB.alloc (by omega) _) _⟩
          · have HN := Lib.hid (goodB_no (s := s) (not_good_at hlt (not_ok_of hx (m := s - 1) (.inr (.inr (by simp only; omega))))))
            have db : decide (s ≤ b) = true := by simp; omega
            clear hx
            go_wp2_with fail
            go_ret
            exact ⟨ret_bool HN.out.symm, hB.alloc (by omega) _⟩
        · have HN := Lib.hid (goodB_no (s := s) (not_good_at hlt (not_ok_of hx (m := s - 1) (.inr (.inl (by simp only; omega))))))
          have db : decide (b ≤ a) = true := by simp; omega
          clear hx
          go_wp2_with fail
          go_ret
          exact ⟨ret_bool HN.out.symm, hB.alloc (by omega) _⟩
      · have HN := Lib.hid (goodB_no (s := s) (not_good_at hlt (not_ok_of hx (m := s - 1) (.inl (by simp only; omega)))))
        have da : decide (a < 0) = true := by simp; omega
        clear hx
        go_wp2_with fail
        go_ret
        exact ⟨ret_bool HN.out.symm, hB.alloc (by omega) _⟩
    · have HN := Lib.hid (goodB_yes (s := s) (l := l) ⟨h0, h8, by have := hok.out; rwa [show k = l.length from by omega] at this⟩)
      go_wp2_with fail
      go_ret
      exact ⟨ret_bool HN.out.symm, hB⟩
end Go.Proofs.YtdhbaegkogklgaaDoor.good

/- Whether a Graph is valid: the contract of the model's l2Good, for every Graph; and that of the program's IsGraph put together. -/
namespace Go.Proofs.YtdhbaegkogklgaaDoor.good
open Go.RowKit P2 words edges

theorem implIsGraph_any (s : Int) (v : Value) (l : List Ed) (w : World) (h : Edges w v l) (hl : l.length ≤ 1048576) :
    Calls Tryd.prog 109 #[.agg #[.int .i64 s, v]] w fun e w' => e = .returned (.bool (goodB s l)) ∧ Below w.heap.size w w' := by
  by_cases h0 : 0 ≤ s ∧ s ≤ 8
  · exact implIsGraph_in s v l w h h0.1 h0.2 hl
  · rw [goodB_no (fun g => h0 ⟨g.1, g.2.1⟩)]
    exact implIsGraph_no s v l w h (by omega)

theorem keep6 {P : Program} {f : FuncId} {args : Array Value} {W : World} {R : Ending → Prop} {p q r s t u : Addr} {a b c d x y : Value}
    (h : Calls P f args W fun e w' => R e ∧ Below W.heap.size W w') (hp : W.cell? p = some a) (hq : W.cell? q = some b) (hr : W.cell? r = some c) (hs : W.cell? s = some d) (ht : W.cell? t = some x) (hu : W.cell? u = some y) :
    Calls P f args W fun e w' => R e ∧ w'.cell? p = some a ∧ w'.cell? q = some b ∧ w'.cell? r = some c ∧ w'.cell? s = some d ∧ w'.cell? t = some x ∧ w'.cell? u = some y ∧ Below W.heap.size W w' :=
  h.mono fun _ _ ⟨he, hb⟩ => ⟨he, (hb.cell (World.block_lt_of_cell? W _ hp)).trans hp, (hb.cell (World.block_lt_of_cell? W _ hq)).trans hq, (hb.cell (World.block_lt_of_cell? W _ hr)).trans hr, (hb.cell (World.block_lt_of_cell? W _ hs)).trans hs,
    (hb.cell (World.block_lt_of_cell? W _ ht)).trans ht, (hb.cell (World.block_lt_of_cell? W _ hu)).trans hu, hb⟩

noncomputable def goodM (s m : Int) (l : List Ed) : Bool := @decide (OkTo m l l.length ∧ 0 ≤ s ∧ s ≤ 8) (Classical.propDecidable _)
theorem goodM_no {s m : Int} {l : List Ed} {k : Nat} (h : ¬ OkAt m l k) (hk : k < l.length) : goodM s m l = false := by
  unfold goodM
  exact @decide_eq_false _ (Classical.propDecidable _) (fun H => h (H.1 k hk))
theorem goodM_eq {s m : Int} {l : List Ed} (h : 0 ≤ s → s ≤ 8 → m = s - 1) : goodM s m l = goodB s l := by
  unfold goodM goodB
  refine decide_eq_decide.2 ?_
  show _ ↔ (_ ∧ _)
  constructor
  · rintro ⟨h1, h2, h3⟩; rw [h h2 h3] at h1; exact ⟨h2, h3, h1⟩
  · rintro ⟨h2, h3, h1⟩; rw [h h2 h3]; exact ⟨h1, h2, h3⟩
set_option maxHeartbeats 1000000 in
set_option maxRecDepth 100000 in
theorem l2Good_m (s m : Int) (v : Value) (l : List Ed) (w : World) (h : Edges w v l) (hl : l.length ≤ 1048576) (hm : IntKind.i64.wrap (s - 1) = m) :
    Calls Tryd.prog 35 #[.agg #[.int .i64 s, v]] w fun e w' => e = .returned (.bool (goodM s m l)) ∧ Below w.heap.size w w' := by
  have hbx := Blk.new w 29 #[.int .i64 s, v]
  have hb1 : Below w.heap.size w (w.alloc (.cells #[.int .i64 s, v] 29)) := (Below.refl _ _).alloc (Nat.le_refl _) _
  obtain ⟨A, c, rfl, hc⟩ := h.form
  have HC := Lib.hid hc
  have HM := Lib.hid hm
  clear h hc hm
  go_enter Tryd.func35, Tryd.ntmps35
  go_wp2_with fail
  go_loopw [3] (fun i wr => ∃ k : Nat, k ≤ l.length ∧ i = .int .i64 (k : Int) ∧ Hid (OkTo m l k) ∧ Blk wr w.heap.size 29 #[.int .i64 s, .slice A l.length c] ∧ Below w.heap.size w wr) (fun i _ => l.length - (intOf i).toNat)
  case atStart => exact ⟨0, Nat.zero_le _, rfl, OkTo.zero _ _, hbx, hb1⟩
  case round =>
    obtain ⟨k, hk, rfl, hok, hbk, hB⟩ := hrel
    obtain ⟨p0, p1, z0, z1⟩ := hbk.two
    have hsz : w.heap.size < wr.heap.size := hbk.lt
    by_cases hlt : k < l.length
    · obtain ⟨x, hx⟩ : ∃ x, l[k]? = some x := ⟨_, List.getElem?_eq_getElem hlt⟩
      obtain ⟨g, o, rfl, c0, c1⟩ := HC.out k x hx
      have hlt' : (k : Int) < (l.length : Int) := by omega
      have q0 : wr.cell? ⟨g, o + k * 2, none⟩ = some (.int .i64 x.1) := (hB.cell (p := ⟨g, o + k * 2, none⟩) (World.block_lt_of_cell? w (a := ⟨g, o + k * 2, none⟩) c0)).trans c0
      have q1 : wr.cell? ⟨g, o + k * 2 + 1, none⟩ = some (.int .i64 x.2) := (hB.cell (p := ⟨g, o + k * 2 + 1, none⟩) (World.block_lt_of_cell? w (a := ⟨g, o + k * 2 + 1, none⟩) c1)).trans c1
      obtain ⟨a, b⟩ := x
      have HBK := Lib.hid hbk
      clear hbk c0 c1
      by_cases ha : 0 ≤ a ∧ a ≤ m
      · have ia : inB a 0 m = true := by simpa [inB] using ha
        by_cases hb : 0 ≤ b ∧ b ≤ m
        · have ib : inB b 0 m = true := by simpa [inB] using hb
          by_cases hab : a < b
          · have dab : decide (b ≤ a) = false := by simp; omega
            by_cases hk0 : k = 0
            · have dk : decide (0 < k) = false := by simp; omega
              have dk' : decide ((0 : Int) < (k : Int)) = false := by simp; omega
              have HOK := Lib.hid (hok.out.succ (ok_of (m := m) hx ha.1 hab (by simp only; omega) (fun d h => by omega)))
              clear hx hk0
              go_wp2_with fail
              have hm := HM.out
              go_quiet ((go_at_call 86; exact quiet_left (l1In_any _ _ _ _)))
              clear hm
              go_wp2_with fail
              go_roundw
              case rel => exact ⟨k + 1, by omega, by go_num, HOK, (HBK.out.alloc _).drewN _, below_drewN (hB.alloc (by omega) _) _⟩
              case measure => simp [intOf]; omega
            · obtain ⟨j, rfl⟩ : ∃ j, k = j + 1 := ⟨k - 1, by omega⟩
              obtain ⟨y, hy⟩ : ∃ y, l[j]? = some y := ⟨_, List.getElem?_eq_getElem (by omega)⟩
              obtain ⟨g', o', e', c2, c3⟩ := HC.out j y hy
              obtain ⟨rfl, rfl⟩ : g = g' ∧ o = o' := by simpa using e'
              have q2 : wr.cell? ⟨g, o + j * 2, none⟩ = some (.int .i64 y.1) := (hB.cell (p := ⟨g, o + j * 2, none⟩) (World.block_lt_of_cell? w (a := ⟨g, o + j * 2, none⟩) c2)).trans c2
              have q3 : wr.cell? ⟨g, o + j * 2 + 1, none⟩ = some (.int .i64 y.2) := (hB.cell (p := ⟨g, o + j * 2 + 1, none⟩) (World.block_lt_of_cell? w (a := ⟨g, o + j * 2 + 1, none⟩) c3)).trans c3
              obtain ⟨y1, y2⟩ := y
              clear c2 c3 e'
              by_cases hL : Lex (y1, y2) (a, b)
              · have HOK := Lib.hid (hok.out.succ (ok_of (m := m) hx ha.1 hab (by simp only; omega) (fun d h hd => by
                  rw [Nat.add_sub_cancel] at hd; rw [hy] at hd; cases hd; exact hL)))
                have il : lexB (y1, y2) (a, b) = true := by simpa [lexB] using hL
                clear hx hy hL
                go_wp2_with fail
                have hm := HM.out
                have hj1 : IntKind.i64.wrap ((j : Int) + 1 - 1) = (j : Int) := by rw [show (j : Int) + 1 - 1 = (j : Int) from by omega]; exact IntWalk.i64_in _ (by omega)
                have hj1' : IntKind.i64.wrap (j : Int) = (j : Int) := IntWalk.i64_in _ (by omega)
                have hj2 : (0 : Int) ≤ (j : Int) := by omega
                have hj4 : j < l.length := by omega
                have hj3 : (j : Int) < (l.length : Int) := by omega
                go_region_held3 (fun w' => w'.cell? ⟨g, o + j * 2, none⟩ = some (.int .i64 y1) ∧ w'.cell? ⟨g, o + j * 2 + 1, none⟩ = some (.int .i64 y2) ∧ w'.cell? ⟨wr.heap.size, 0, none⟩ = some (.int .i64 a) ∧ w'.cell? ⟨wr.heap.size, 1, none⟩ = some (.int .i64 b) ∧ w'.cell? ⟨w.heap.size, 0, none⟩ = some (.int .i64 s) ∧ w'.cell? ⟨w.heap.size, 1, none⟩ = some (.slice (some ⟨g, o, none⟩) l.length c)) (go_keep)
                  (first | (go_at_call 86; refine (l1In_any _ _ _ _).mono ?_; rintro e w1 ⟨rfl, rfl⟩)
                         | (go_at_call 87; refine (keep6 (p := ⟨g, o + j * 2, none⟩) (q := ⟨g, o + j * 2 + 1, none⟩) (r := ⟨wr.heap.size, 0, none⟩) (s := ⟨wr.heap.size, 1, none⟩) (t := ⟨w.heap.size, 0, none⟩) (u := ⟨w.heap.size, 1, none⟩) (l2Before_any y1 y2 a b _) (a := .int .i64 y1) (b := .int .i64 y2) (c := .int .i64 a) (d := .int .i64 b) (x := .int .i64 s) (y := .slice (some ⟨g, o, none⟩) l.length c) ?_ ?_ ?_ ?_ ?_ ?_).mono ?_; (simp [*]); (simp [*]); (simp [*]); (simp [*]); (simp [*]); (simp [*]); rintro e w1 ⟨rfl, k0, k1, k2, k3, k4, k5, hb⟩))
                have hB2 : Below w.heap.size w w1 := (below_drewN (hB.alloc (by omega) (.cells #[.int .i64 a, .int .i64 b] 111)) 1).trans (hb.mono (by simp; omega))
                have hb2 : Blk w1 w.heap.size 29 #[.int .i64 s, .slice (some ⟨g, o, none⟩) l.length c] := ((HBK.out.alloc (.cells #[.int .i64 a, .int .i64 b] 111)).drewN 1).below hb (by simp; omega)
                clear hm hj1 hj1' hj2 hj3 hj4 hb
                go_wp2_with fail
                go_roundw
                case rel => exact ⟨j + 1 + 1, by omega, by go_num, HOK, hb2, hB2⟩
                case measure => simp [intOf]; omega
              · have HN : Hid (goodM s m l = false) := goodM_no (not_ok_lex hx (m := m) (by omega) (by rw [Nat.add_sub_cancel]; exact hy) hL) hlt
                have il : lexB (y1, y2) (a, b) = false := by simpa [lexB] using hL
                clear hx hy hL
                go_wp2_with fail
                have hm := HM.out
                have hj1 : IntKind.i64.wrap ((j : Int) + 1 - 1) = (j : Int) := by rw [show (j : Int) + 1 - 1 = (j : Int) from by omega]; exact IntWalk.i64_in _ (by omega)
                have hj1' : IntKind.i64.wrap (j : Int) = (j : Int) := IntWalk.i64_in _ (by omega)
                have hj2 : (0 : Int) ≤ (j : Int) := by omega
                have hj4 : j < l.length := by omega
                have hj3 : (j : Int) < (l.length : Int) := by omega
                go_region_held3 (fun w' => w'.cell? ⟨g, o + j * 2, none⟩ = some (.int .i64 y1) ∧ w'.cell? ⟨g, o + j * 2 + 1, none⟩ = some (.int .i64 y2) ∧ w'.cell? ⟨wr.heap.size, 0, none⟩ = some (.int .i64 a) ∧ w'.cell? ⟨wr.heap.size, 1, none⟩ = some (.int .i64 b) ∧ w'.cell? ⟨w.heap.size, 0, none⟩ = some (.int .i64 s) ∧ w'.cell? ⟨w.heap.size, 1, none⟩ = some (.slice (some ⟨g, o, none⟩) l.length c)) (go_keep)
                  (first | (go_at_call 86; refine (l1In_any _ _ _ _).mono ?_; rintro e w1 ⟨rfl, rfl⟩)
                         | (go_at_call 87; refine (keep6 (p := ⟨g, o + j * 2, none⟩) (q := ⟨g, o + j * 2 + 1, none⟩) (r := ⟨wr.heap.size, 0, none⟩) (s := ⟨wr.heap.size, 1, none⟩) (t := ⟨w.heap.size, 0, none⟩) (u := ⟨w.heap.size, 1, none⟩) (l2Before_any y1 y2 a b _) (a := .int .i64 y1) (b := .int .i64 y2) (c := .int .i64 a) (d := .int .i64 b) (x := .int .i64 s) (y := .slice (some ⟨g, o, none⟩) l.length c) ?_ ?_ ?_ ?_ ?_ ?_).mono ?_; (simp [*]); (simp [*]); (simp [*]); (simp [*]); (simp [*]); (simp [*]); rintro e w1 ⟨rfl, k0, k1, k2, k3, k4, k5, hb⟩))
                have hB2 : Below w.heap.size w w1 := (below_drewN (hB.alloc (by omega) (.cells #[.int .i64 a, .int .i64 b] 111)) 1).trans (hb.mono (by simp; omega))
                clear hm hj1 hj1' hj2 hj3 hj4 hb
                go_wp2_with fail
                go_ret
                exact ⟨ret_bool HN.out.symm, hB2⟩
          · have HN : Hid (goodM s m l = false) := goodM_no (not_ok_of hx (m := m) (.inr (.inl (by simp only; omega)))) hlt
            have dab : decide (b ≤ a) = true := by simp; omega
            clear hx
            go_wp2_with fail
            have hm := HM.out
            go_quiet ((go_at_call 86; exact quiet_left (l1In_any _ _ _ _)))
            clear hm
            go_wp2_with fail
            go_ret
            exact ⟨ret_bool HN.out.symm, below_drewN (hB.alloc (by omega) _) _⟩
        · have ib : inB b 0 m = false := by simpa [inB] using hb
          have HN : Hid (goodM s m l = false) := goodM_no (fun H => by have := H _ hx; simp only at this; omega) hlt
          clear hx
          go_wp2_with fail
          have hm := HM.out
          go_quiet ((go_at_call 86; exact quiet_left (l1In_any _ _ _ _)))
          clear hm
          go_wp2_with fail
          go_ret
          exact ⟨ret_bool HN.out.symm, below_drewN (hB.alloc (by omega) _) _⟩
      · have ia : inB a 0 m = false := by simpa [inB] using ha
        have HN : Hid (goodM s m l = false) := goodM_no (fun H => by have := H _ hx; simp only at this; omega) hlt
        clear hx
        go_wp2_with fail
        have hm := HM.out
        go_quiet ((go_at_call 86; exact quiet_left (l1In_any _ _ _ _)))
        clear hm
        go_wp2_with fail
        go_ret
        exact ⟨ret_bool HN.out.symm, below_drewN (hB.alloc (by omega) _) _⟩
    · have HN : Hid (goodM s m l = inB s 0 8) := by
        have h1 : OkTo m l l.length := by have := hok.out; rwa [show k = l.length from by omega] at this
        show _ = _
        unfold goodM inB
        refine decide_eq_decide.2 ?_
        exact ⟨fun h => h.2, fun h => ⟨h1, h⟩⟩
      go_wp2_with (go_at_call 86; refine (l1In_any _ _ _ _).mono ?_; rintro e w' ⟨rfl, rfl⟩)
      go_ret
      exact ⟨ret_bool HN.out.symm, hB⟩

theorem l2Good_any (s : Int) (v : Value) (l : List Ed) (w : World) (h : Edges w v l) (hl : l.length ≤ 1048576) (h0 : -9223372036854775808 ≤ s) (h1 : s ≤ 9223372036854775807) :
    Calls Tryd.prog 35 #[.agg #[.int .i64 s, v]] w fun e w' => e = .returned (.bool (goodB s l)) ∧ Below w.heap.size w w' := by
  rw [← goodM_eq (m := IntKind.i64.wrap (s - 1)) (fun h2 h3 => IntWalk.i64_in _ (by omega))]
  exact l2Good_m s _ v l w h hl rfl
end Go.Proofs.YtdhbaegkogklgaaDoor.good

/- The contract of neighborTest and of the function value that it returns: a map of the edges, asked at a pair. -/
namespace Go.Proofs.YtdhbaegkogklgaaDoor.near
open Go.RowKit Go.Maps P2 words edges


/-- an integer of 64 bits -/
def In64 (x : Int) : Prop := -9223372036854775808 ≤ x ∧ x ≤ 9223372036854775807
theorem wf64 {x : Int} (h : In64 x) : (Lit.int .i64 x).wf = true := WalkArith.wf_i64 h
end Go.Proofs.YtdhbaegkogklgaaDoor.near
