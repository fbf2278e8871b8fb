/- Degrees: the contracts of the program's DegreesOf and of the model's. -/
import Derived.Handy
import Derived.Test.YtjcnngnahijceaaNeighS
import Derived.Test.YtjcnngnahijceaaCov
import Derived.Test.YtjcnngnahijceaaRet
namespace Go.Proofs.Ytjcnngnahijceaa.degs
open Go.RowKit P2 words edges ints good near adjs fns sets rets neigh covs
set_option linter.unusedVariables false

def touch (x : Nat) (e : Ed) : Bool := e.1 == (x : Int) || e.2 == (x : Int)
/-- the degrees by the first k edges -/
def degT (l : List Ed) (n k : Nat) : List Int := (List.range n).map fun x : Nat => (((l.take k).countP (touch x) : Nat) : Int)
/-- the degrees -/
def degL (l : List Ed) (n : Nat) : List Int := (List.range n).map fun x : Nat => (((nw (fun y => adj l x y) n).length : Nat) : Int)
theorem degT_len (l : List Ed) (n k : Nat) : (degT l n k).length = n := by simp [degT]
theorem degL_len (l : List Ed) (n : Nat) : (degL l n).length = n := by simp [degL]
theorem degT_at {l : List Ed} {n k j : Nat} (h : j < n) : (degT l n k)[j]? = some (((l.take k).countP (touch j) : Nat) : Int) := by simp [degT, h]
theorem degT_zero (l : List Ed) (n : Nat) : degT l n 0 = List.replicate n 0 := by
  apply List.ext_getElem?
  intro j
  by_cases h : j < n
  · rw [degT_at h]; simp [h]
  · rw [List.getElem?_eq_none (by rw [degT_len]; omega), List.getElem?_eq_none (by simp; omega)]
theorem count_le (l : List Ed) (k x : Nat) : (l.take k).countP (touch x) ≤ k := by
  refine Nat.le_trans List.countP_le_length ?_
  rw [List.length_take]; omega
theorem count_succ {l : List Ed} {k x : Nat} {e : Ed} (h : l[k]? = some e) : (l.take (k + 1)).countP (touch x) = (l.take k).countP (touch x) + if touch x e = true then 1 else 0 := by
  rw [List.take_add_one, h, List.countP_append, Option.toList_some, List.countP_singleton]
theorem degT_succ {l : List Ed} {n k p q : Nat} (h : l[k]? = some ((p : Int), (q : Int))) (hpq : p < q) (hq : q < n) :
    ((degT l n k).set p ((((l.take k).countP (touch p) : Nat) : Int) + 1)).set q ((((l.take k).countP (touch q) : Nat) : Int) + 1) = degT l n (k + 1) := by
  apply List.ext_getElem?
  intro j
  by_cases hj : j < n
  · rw [degT_at hj, count_succ h, List.getElem?_set]
    have ht : touch j ((p : Int), (q : Int)) = (decide (p = j) || decide (q = j)) := by
      unfold touch
      rw [Bool.eq_iff_iff]
      simp only [Bool.or_eq_true, beq_iff_eq, decide_eq_true_eq]
      omega
    rw [ht]
    by_cases h2 : q = j
    · subst h2
      rw [if_pos rfl, if_pos (by rw [List.length_set, degT_len]; exact hj)]
      simp
    · rw [if_neg h2, List.getElem?_set]
      by_cases h1 : p = j
      · subst h1
        rw [if_pos rfl, if_pos (by rw [degT_len]; exact hj)]
        simp
      · rw [if_neg h1, degT_at hj]
        simp [h1, h2]
  · rw [List.getElem?_eq_none (by rw [List.length_set, List.length_set, degT_len]; omega), List.getElem?_eq_none (by rw [degT_len]; omega)]

/-- the other end of an edge -/
def other (x : Nat) (e : Ed) : Int := if e.1 = (x : Int) then e.2 else e.1
theorem lex_nodup {l : List Ed} (h : l.Pairwise Lex) : l.Nodup := h.imp (fun {a b} hab e => by subst e; exact Lex.irrefl a hab)
theorem ends_nodup {s : Int} {l : List Ed} (hg : P2.Good s l) (x : Nat) : ((l.filter (touch x)).map (other x)).Nodup := by
  rw [List.Nodup, List.pairwise_map]
  have hs := (List.Pairwise.filter (touch x) hg.sorted)
  refine hs.imp_of_mem ?_
  intro a b ha hb hab
  have ha1 := (List.mem_filter.1 ha)
  have hb1 := (List.mem_filter.1 hb)
  have hma := hg.mem ha1.1
  have hmb := hg.mem hb1.1
  have ta := ha1.2
  have tb := hb1.2
  unfold touch at ta tb
  simp only [Bool.or_eq_true, beq_iff_eq] at ta tb
  unfold other Lex at *
  split <;> split <;> omega
theorem mem_ends {s : Int} {l : List Ed} (hg : P2.Good s l) (x : Nat) (z : Int) : z ∈ (l.filter (touch x)).map (other x) ↔ adj l (x : Int) z = true := by
  rw [List.mem_map]
  unfold adj
  rw [decide_eq_true_iff]
  constructor
  · rintro ⟨e, he, rfl⟩
    obtain ⟨h1, h2⟩ := List.mem_filter.1 he
    obtain ⟨a, b⟩ := e
    unfold touch at h2
    simp only [Bool.or_eq_true, beq_iff_eq] at h2
    unfold other
    simp only
    split
    · rename_i hh; subst hh; exact .inl h1
    · rename_i hh
      rcases h2 with h2 | h2
      · exact absurd h2 hh
      · subst h2; exact .inr h1
  · rintro (h | h)
    · exact ⟨_, List.mem_filter.2 ⟨h, by simp [touch]⟩, by simp [other]⟩
    · have := hg.mem h
      simp only at this
      refine ⟨_, List.mem_filter.2 ⟨h, by simp [touch]⟩, ?_⟩
      unfold other
      simp only
      rw [if_neg (by omega)]
theorem nw_nodup (p : Nat → Bool) (n : Nat) : (nw p n).Nodup := (nw_asc p n).imp (fun {a b} h e => by omega)
theorem degree_eq {n : Nat} {l : List Ed} (hg : P2.Good n l) (x : Nat) : l.countP (touch x) = (nw (fun y => adj l (x : Int) y) n).length := by
  have e1 : l.countP (touch x) = ((l.filter (touch x)).map (other x)).length := by rw [List.length_map, List.countP_eq_length_filter]
  rw [e1]
  have hmem : ∀ z, z ∈ (l.filter (touch x)).map (other x) ↔ z ∈ nw (fun y => adj l (x : Int) y) n := fun z => by
    rw [mem_ends hg, mem_nw]
    constructor
    · intro h
      have := (adj_node hg h).2
      exact ⟨z.toNat, by omega, by rw [show ((z.toNat : Nat) : Int) = z from by omega]; exact h, by omega⟩
    · rintro ⟨j, _, h, rfl⟩; exact h
  have h1 := (ends_nodup hg x).length_le_of_subset (fun z hz => (hmem z).1 hz)
  have h2 := (nw_nodup (fun y => adj l (x : Int) y) n).length_le_of_subset (fun z hz => (hmem z).2 hz)
  omega
theorem degT_all {n : Nat} {l : List Ed} (hg : P2.Good n l) : degT l n l.length = degL l n := by
  unfold degT degL
  rw [List.take_length]
  refine List.map_congr_left fun x _ => ?_
  rw [degree_eq hg]

theorem deg_len (s : Int) (l : List Ed) : (inG (P2.Good s l) (degL l s.toNat)).length ≤ 1048576 := inG_len fun h => by
  rw [degL_len]; have := h.2.1; omega


end Go.Proofs.Ytjcnngnahijceaa.degs
