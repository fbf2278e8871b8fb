/- Forests: plain mathematics. -/
import Derived.Handy
import Derived.Test.YtphlpipbhaiijaaBagM
import Derived.Test.YtphlpipbhaiijaaRet
import Derived.Test.YtphlpipbhaiijaaDeg
namespace Go.Proofs.Ytphlpipbhaiijaa.forests
open Go.RowKit P2 words edges ints fns sets rets covs reach bags degs
set_option linter.unusedVariables false

/-- the parent of a node, -1 behind the root -/
def parI (tl : List Int) (y : Int) : Int := if y < 0 then -1 else tl.getD y.toNat (-1)
def upF (tl : List Int) : Nat → Int → Int
  | 0, x => x
  | k + 1, x => parI tl (upF tl k x)
section
variable {tl : List Int} {n : Nat}
theorem par_at {k : Nat} {p : Int} (h : tl[k]? = some p) : parI tl (k : Int) = p := by
  unfold parI
  rw [if_neg (by omega), Int.toNat_natCast]
  simp [List.getD, h]
theorem upF_shift {x : Int} {i j : Nat} (h : upF tl i x = upF tl j x) : ∀ t, upF tl (i + t) x = upF tl (j + t) x
  | 0 => h
  | t + 1 => by
    show parI tl (upF tl (i + t) x) = parI tl (upF tl (j + t) x)
    rw [upF_shift h t]
theorem upF_neg {x : Int} {k : Nat} (h : upF tl k x < 0) : ∀ t, upF tl (k + t + 1) x = -1
  | 0 => by
    show parI tl (upF tl k x) = -1
    unfold parI; rw [if_pos h]
  | t + 1 => by
    show parI tl (upF tl (k + t + 1) x) = -1
    rw [upF_neg h t]; rfl
theorem upF_stay {x : Int} {k m : Nat} (h : upF tl k x < 0) (hm : k ≤ m) : upF tl m x < 0 := by
  by_cases e : m = k
  · subst e; exact h
  · have := upF_neg h (m - k - 1)
    rw [show k + (m - k - 1) + 1 = m from by omega] at this
    omega
theorem upF_cycle {x : Int} {i j : Nat} (hij : i < j) (h : upF tl i x = upF tl j x) (hp : ∀ m, m ≤ j → 0 ≤ upF tl m x) : ∀ m, 0 ≤ upF tl m x := by
  intro m
  induction m using Nat.strongRecOn with
  | _ m ih =>
    by_cases hm : m ≤ j
    · exact hp m hm
    · have h1 := upF_shift h (m - j)
      rw [show j + (m - j) = m from by omega] at h1
      rw [← h1]
      exact ih _ (by omega)
/-- all numbers are those of nodes, or -1 -/
def RangeF (n : Nat) (tl : List Int) : Prop := tl.length = n ∧ ∀ p ∈ tl, -1 ≤ p ∧ p < (n : Int)
theorem RangeF.up (h : RangeF n tl) {x : Int} (hx : -1 ≤ x ∧ x < (n : Int)) : ∀ k, -1 ≤ upF tl k x ∧ upF tl k x < (n : Int)
  | 0 => hx
  | k + 1 => by
    show -1 ≤ parI tl (upF tl k x) ∧ parI tl (upF tl k x) < (n : Int)
    unfold parI
    have ih := h.up hx k
    split
    · exact ⟨by omega, by omega⟩
    · have hl : (upF tl k x).toNat < tl.length := by rw [h.1]; omega
      rw [show tl.getD (upF tl k x).toNat (-1) = tl[(upF tl k x).toNat] from by simp [List.getD, hl]]
      exact h.2 _ (List.getElem_mem hl)
def EndsF (tl : List Int) (x : Int) : Prop := ∃ k, upF tl k x < 0
/-- the nodes above a node -/
noncomputable def abvB (tl : List Int) (x y : Nat) : Bool := okG (∃ k, 1 ≤ k ∧ upF tl k (x : Int) = (y : Int))
theorem abvB_iff {x y : Nat} : abvB tl x y = true ↔ ∃ k, 1 ≤ k ∧ upF tl k (x : Int) = (y : Int) := okG_iff
/-- the first k of them -/
noncomputable def abK (tl : List Int) (x k y : Nat) : Bool := okG (∃ j, 1 ≤ j ∧ j ≤ k ∧ upF tl j (x : Int) = (y : Int))
theorem abK_iff {x k y : Nat} : abK tl x k y = true ↔ ∃ j, 1 ≤ j ∧ j ≤ k ∧ upF tl j (x : Int) = (y : Int) := okG_iff
/-- so far, all of them are nodes and different -/
def PSt (tl : List Int) (n x k : Nat) : Prop := (∀ j, 1 ≤ j → j ≤ k → 0 ≤ upF tl j (x : Int) ∧ upF tl j (x : Int) < (n : Int)) ∧ ∀ i j, 1 ≤ i → i < j → j ≤ k → upF tl i (x : Int) ≠ upF tl j (x : Int)
theorem PSt.zero (tl : List Int) (n x : Nat) : PSt tl n x 0 := ⟨fun j h1 h2 => by omega, fun i j h1 h2 h3 => by omega⟩
theorem PSt.le {x k : Nat} (h : PSt tl n x k) : k ≤ n := by
  have hnd : ((List.range k).map fun j => (upF tl (j + 1) (x : Int)).toNat).Nodup := by
    rw [List.Nodup, List.pairwise_map]
    refine List.pairwise_lt_range.imp_of_mem fun {a b} ha hb hab e => ?_
    have h1 := List.mem_range.1 ha
    have h2 := List.mem_range.1 hb
    have h3 := h.1 (a + 1) (by omega) (by omega)
    have h4 := h.1 (b + 1) (by omega) (by omega)
    exact h.2 (a + 1) (b + 1) (by omega) (by omega) (by omega) (by omega)
  have := nodup_len (n := n) hnd fun z hz => by
    obtain ⟨j, hj, rfl⟩ := List.mem_map.1 hz
    have hj2 := List.mem_range.1 hj
    have h3 := h.1 (j + 1) (by omega) (by omega)
    omega
  simpa using this
theorem PSt.succ {x k y : Nat} (h : PSt tl n x k) (hy : upF tl (k + 1) (x : Int) = (y : Int)) (hyn : y < n) (hno : abK tl x k y = false) : PSt tl n x (k + 1) := by
  refine ⟨fun j h1 h2 => ?_, fun i j h1 h2 h3 => ?_⟩
  · by_cases e : j = k + 1
    · subst e; rw [hy]; omega
    · exact h.1 j h1 (by omega)
  · by_cases e : j = k + 1
    · subst e
      intro e2
      have : abK tl x k y = true := abK_iff.2 ⟨i, h1, by omega, by rw [e2, hy]⟩
      rw [hno] at this; cases this
    · exact h.2 i j h1 h2 (by omega)
theorem abK_zero (tl : List Int) (n x : Nat) : numOf (abK tl x 0) n = 0 := numOf_zero.2 fun k _ => okG_no (by rintro ⟨j, h1, h2, _⟩; omega)
theorem abK_succ {x k y : Nat} (hy : upF tl (k + 1) (x : Int) = (y : Int)) : abK tl x (k + 1) = pput (abK tl x k) y := by
  funext z
  unfold pput
  rw [Bool.eq_iff_iff, Bool.or_eq_true, decide_eq_true_iff, abK_iff, abK_iff]
  constructor
  · rintro ⟨j, h1, h2, h3⟩
    by_cases e : j = k + 1
    · subst e; rw [hy] at h3; exact .inr (by omega)
    · exact .inl ⟨j, h1, by omega, h3⟩
  · rintro (⟨j, h1, h2, h3⟩ | rfl)
    · exact ⟨j, h1, by omega, h3⟩
    · exact ⟨k + 1, by omega, by omega, hy⟩
theorem abK_all {x k : Nat} (h : upF tl (k + 1) (x : Int) < 0) : abK tl x k = abvB tl x := by
  funext z
  rw [Bool.eq_iff_iff, abK_iff, abvB_iff]
  constructor
  · rintro ⟨j, h1, h2, h3⟩; exact ⟨j, h1, h3⟩
  · rintro ⟨j, h1, h3⟩
    refine ⟨j, h1, ?_, h3⟩
    apply Classical.byContradiction
    intro hn
    have := upF_stay (m := j) h (by omega)
    omega
/-- a node met twice: there is no end -/
theorem no_end {x k y : Nat} (hx : 0 ≤ (x : Int)) (h : PSt tl n x k) (hy : upF tl (k + 1) (x : Int) = (y : Int)) (hm : abK tl x k y = true) : ¬ EndsF tl (x : Int) := by
  rintro ⟨m, hm2⟩
  obtain ⟨j, h1, h2, h3⟩ := abK_iff.1 hm
  have := upF_cycle (tl := tl) (x := (x : Int)) (i := j) (j := k + 1) (by omega) (by rw [h3, hy]) (fun i hi => by
    by_cases e0 : i = 0
    · subst e0; exact hx
    · by_cases e : i = k + 1
      · subst e; rw [hy]; omega
      · exact (h.1 i (by omega) (by omega)).1) m
  omega
/-- the first k above a node, as a list -/
def ancK (tl : List Int) (x : Int) (k : Nat) : List Int := (List.range k).map fun j => upF tl (j + 1) x
theorem ancK_len (tl : List Int) (x : Int) (k : Nat) : (ancK tl x k).length = k := by simp [ancK]
theorem ancK_succ (tl : List Int) (x : Int) (k : Nat) : ancK tl x (k + 1) = ancK tl x k ++ [upF tl (k + 1) x] := by simp [ancK, List.range_succ]
/-- where the model stops -/
def AncIs (tl : List Int) (n : Nat) (x : Int) (k : Nat) : Prop := (∀ j, j < k → 0 ≤ upF tl (j + 1) x) ∧ (upF tl (k + 1) x < 0 ∨ k = n + 1) ∧ k ≤ n + 1
theorem AncIs.pst {x k : Nat} (hr : RangeF n tl) (hx : x < n) (h : AncIs tl n (x : Int) k) (he : EndsF tl (x : Int)) : PSt tl n x k ∧ ∀ j, 1 ≤ j → j ≤ k → upF tl j (x : Int) ≠ (x : Int) := by
  have hp : ∀ m, m ≤ k → 0 ≤ upF tl m (x : Int) := fun m hm => by
    by_cases e : m = 0
    · subst e; show 0 ≤ (x : Int); omega
    · have := h.1 (m - 1) (by omega)
      rwa [show m - 1 + 1 = m from by omega] at this
  obtain ⟨m, hm⟩ := he
  refine ⟨⟨fun j h1 h2 => ⟨hp j h2, (hr.up (x := (x : Int)) (by omega) j).2⟩, fun i j h1 h2 h3 e => ?_⟩, fun j h1 h2 e => ?_⟩
  · have := upF_cycle h2 e (fun q hq => hp q (by omega)) m; omega
  · have := upF_cycle (tl := tl) (x := (x : Int)) (i := 0) (j := j) (by omega) e.symm (fun q hq => hp q (by omega)) m; omega
theorem AncIs.lt {x k : Nat} (hr : RangeF n tl) (hx : x < n) (h : AncIs tl n (x : Int) k) : k < n ↔ EndsF tl (x : Int) := by
  constructor
  · intro hk
    rcases h.2.1 with h1 | h1
    · exact ⟨k + 1, h1⟩
    · omega
  · intro he
    obtain ⟨h1, h2⟩ := h.pst hr hx he
    have hnd : (x :: (List.range k).map fun j => (upF tl (j + 1) (x : Int)).toNat).Nodup := by
      rw [List.nodup_cons]
      refine ⟨fun hm => ?_, ?_⟩
      · obtain ⟨j, hj, e⟩ := List.mem_map.1 hm
        have hj2 := List.mem_range.1 hj
        have h3 := h1.1 (j + 1) (by omega) (by omega)
        exact h2 (j + 1) (by omega) (by omega) (by omega)
      · rw [List.Nodup, List.pairwise_map]
        refine List.pairwise_lt_range.imp_of_mem fun {a b} ha hb hab e => ?_
        have h5 := List.mem_range.1 ha
        have h6 := List.mem_range.1 hb
        have h3 := h1.1 (a + 1) (by omega) (by omega)
        have h4 := h1.1 (b + 1) (by omega) (by omega)
        exact h1.2 (a + 1) (b + 1) (by omega) (by omega) (by omega) (by omega)
    have := nodup_len (n := n) hnd fun z hz => by
      rcases List.mem_cons.1 hz with rfl | hz
      · exact hx
      · obtain ⟨j, hj, rfl⟩ := List.mem_map.1 hz
        have hj2 := List.mem_range.1 hj
        have h3 := h1.1 (j + 1) (by omega) (by omega)
        omega
    simp at this
    omega
theorem AncIs.mem {x k y : Nat} (hr : RangeF n tl) (hx : x < n) (h : AncIs tl n (x : Int) k) (he : EndsF tl (x : Int)) : decide ((y : Int) ∈ ancK tl (x : Int) k) = abvB tl x y := by
  have hk := (h.lt hr hx).2 he
  have hz : upF tl (k + 1) (x : Int) < 0 := by
    rcases h.2.1 with h1 | h1
    · exact h1
    · omega
  rw [← abK_all hz, Bool.eq_iff_iff, decide_eq_true_iff, abK_iff]
  unfold ancK
  rw [List.mem_map]
  constructor
  · rintro ⟨j, hj, e⟩
    have := List.mem_range.1 hj
    exact ⟨j + 1, by omega, by omega, e⟩
  · rintro ⟨j, h1, h2, e⟩
    exact ⟨j - 1, List.mem_range.2 (by omega), by rw [show j - 1 + 1 = j from by omega]; exact e⟩
theorem AncIs.count {x k : Nat} (hr : RangeF n tl) (hx : x < n) (h : AncIs tl n (x : Int) k) (he : EndsF tl (x : Int)) : (nw (abvB tl x) n).length = k := by
  obtain ⟨h1, h2⟩ := h.pst hr hx he
  have hnd : (ancK tl (x : Int) k).Nodup := by
    unfold ancK
    rw [List.Nodup, List.pairwise_map]
    refine List.pairwise_lt_range.imp_of_mem fun {a b} ha hb hab e => ?_
    have h5 := List.mem_range.1 ha
    have h6 := List.mem_range.1 hb
    exact h1.2 (a + 1) (b + 1) (by omega) (by omega) (by omega) e
  have hm : ∀ z, z ∈ ancK tl (x : Int) k ↔ z ∈ nw (abvB tl x) n := fun z => by
    rw [mem_nw]
    constructor
    · intro hz
      have hz2 := hz
      unfold ancK at hz2
      obtain ⟨j, hj, rfl⟩ := List.mem_map.1 hz2
      have hj2 := List.mem_range.1 hj
      have h3 := h1.1 (j + 1) (by omega) (by omega)
      refine ⟨(upF tl (j + 1) (x : Int)).toNat, by omega, ?_, by omega⟩
      rw [← h.mem hr hx he, show (((upF tl (j + 1) (x : Int)).toNat : Nat) : Int) = upF tl (j + 1) (x : Int) from by omega]
      exact decide_eq_true hz
    · rintro ⟨j, hj, hb, rfl⟩
      rw [← h.mem hr hx he] at hb
      exact of_decide_eq_true hb
  have h3 := hnd.length_le_of_subset (fun z hz => (hm z).1 hz)
  have h4 := (nw_nodup (abvB tl x) n).length_le_of_subset (fun z hz => (hm z).2 hz)
  rw [ancK_len] at h3 h4
  omega
end
/-- a list is a forest -/
def ForS (n : Nat) (l : List Ed) (tl : List Int) : Prop := RangeF n tl ∧ (∀ x : Nat, x < n → EndsF tl (x : Int)) ∧ ∀ e ∈ l, abvB tl e.1.toNat e.2.toNat = true ∨ abvB tl e.2.toNat e.1.toNat = true
def ForOk (s : Int) (l : List Ed) (tl : List Int) : Prop := P2.Good s l ∧ ForS s.toNat l tl
/-- the depths of all nodes -/
noncomputable def depF (n : Nat) (tl : List Int) (x : Nat) : Int := ((nw (abvB tl x) n).length : Int) + 1
noncomputable def depL (n : Nat) (tl : List Int) : List Int := (List.range n).map (depF n tl)
theorem depL_len (n : Nat) (tl : List Int) : (depL n tl).length = n := by simp [depL]
end Go.Proofs.Ytphlpipbhaiijaa.forests
