/- Cuts and bandwidths of layouts: plain mathematics. -/
import Derived.Handy
import Derived.Test.YtjcnngnahijceaaDeg
import Derived.Test.YtjcnngnahijceaaElim
namespace Go.Proofs.Ytjcnngnahijceaa.lays
open Go.RowKit P2 words edges ints good adjs fns sets rets covs reach bags each degs
set_option linter.unusedVariables false

/-- how many nodes outside of a set are neighbors of a node -/
def outN (n : Nat) (l : List Ed) (S : Nat → Bool) (x : Nat) : Nat := (nw (fun y => !S y && adj l (x : Int) (y : Int)) n).length
/-- how many edges lead out of a list -/
def crossN (l : List Ed) (xs : List Int) : Nat := l.countP fun e => decide (e.1 ∈ xs) != decide (e.2 ∈ xs)
theorem out_eq {n : Nat} {l : List Ed} (hg : P2.Good n l) (S : Nat → Bool) (x : Nat) : outN n l S x = l.countP (fun e => touch x e && !S (other x e).toNat) := by
  have e1 : l.countP (fun e => touch x e && !S (other x e).toNat) = (((l.filter (touch x)).map (other x)).filter fun z => !S z.toNat).length := by
    rw [← List.countP_eq_length_filter, List.countP_map, List.countP_filter]
    exact List.countP_congr fun e _ => by simp [Bool.and_comm]
  rw [e1]
  unfold outN
  have hmem : ∀ z, z ∈ ((l.filter (touch x)).map (other x)).filter (fun z => !S z.toNat) ↔ z ∈ nw (fun y => !S y && adj l (x : Int) (y : Int)) n := fun z => by
    rw [List.mem_filter, mem_ends hg, mem_nw]
    constructor
    · rintro ⟨h1, h2⟩
      have h3 := (adj_node hg h1).2
      refine ⟨z.toNat, by omega, ?_, by omega⟩
      rw [show ((z.toNat : Nat) : Int) = z from by omega, h1, h2]; rfl
    · rintro ⟨j, _, h, rfl⟩
      rw [Bool.and_eq_true] at h
      rw [Int.toNat_natCast]
      exact ⟨h.2, h.1⟩
  have h0 : (((l.filter (touch x)).map (other x)).filter fun z => !S z.toNat).Nodup := (ends_nodup hg x).filter _
  have h1 := h0.length_le_of_subset (fun z hz => (hmem z).1 hz)
  have h2 := (nw_nodup (fun y => !S y && adj l (x : Int) (y : Int)) n).length_le_of_subset (fun z hz => (hmem z).2 hz)
  omega
theorem sum_add {α : Type} (f g : α → Nat) : ∀ xs : List α, (xs.map fun x => f x + g x).sum = (xs.map f).sum + (xs.map g).sum
  | [] => rfl
  | x :: xs => by simp only [List.map_cons, List.sum_cons, sum_add f g xs]; omega
theorem sum_zero {α : Type} : ∀ xs : List α, (xs.map fun _ => 0).sum = 0
  | [] => rfl
  | x :: xs => by simp only [List.map_cons, List.sum_cons, sum_zero xs]
theorem sum_one {xs : List Int} (hnd : xs.Nodup) (a : Int) (b : Bool) : (xs.map fun x => if x = a ∧ b = true then 1 else 0).sum = if a ∈ xs ∧ b = true then 1 else 0 := by
  induction xs with
  | nil => simp
  | cons x xs ih =>
    obtain ⟨h1, h2⟩ := List.nodup_cons.1 hnd
    rw [List.map_cons, List.sum_cons, ih h2]
    cases b with
    | false => simp
    | true =>
      by_cases e : x = a
      · subst e; simp [h1]
      · have e2 : ¬ a = x := fun h => e h.symm
        simp [e, e2]
/-- the edges that lead out, counted at their nodes within -/
theorem cross_sum {n : Nat} {l : List Ed} (hg : P2.Good n l) {xs : List Int} (hnd : xs.Nodup) (h0 : ∀ x ∈ xs, 0 ≤ x) : (xs.map fun x => outN n l (goneB xs) x.toNat).sum = crossN l xs := by
  have e1 : (xs.map fun x => outN n l (goneB xs) x.toNat) = xs.map fun x => l.countP (fun e => touch x.toNat e && !goneB xs (other x.toNat e).toNat) := List.map_congr_left fun x _ => out_eq hg _ _
  rw [e1]
  have hm : ∀ e ∈ l, 0 ≤ e.1 ∧ e.1 < e.2 := fun e he => by have := hg.mem he; exact ⟨this.1, this.2.1⟩
  clear e1 hg
  unfold crossN
  induction l with
  | nil => simp [sum_zero]
  | cons e l ih =>
    obtain ⟨hp1, hp2⟩ := hm e (by simp)
    rw [List.countP_cons, ← ih (fun e he => hm e (by simp [he]))]
    have e2 : (xs.map fun x => (e :: l).countP (fun e => touch x.toNat e && !goneB xs (other x.toNat e).toNat)) = xs.map fun x => l.countP (fun e => touch x.toNat e && !goneB xs (other x.toNat e).toNat) + ((if x = e.1 ∧ (!decide (e.2 ∈ xs)) = true then 1 else 0) + if x = e.2 ∧ (!decide (e.1 ∈ xs)) = true then 1 else 0) := by
      refine List.map_congr_left fun x hx => ?_
      rw [List.countP_cons]
      congr 1
      have hx0 := h0 x hx
      obtain ⟨m, rfl⟩ : ∃ m : Nat, x = (m : Int) := ⟨x.toNat, by omega⟩
      obtain ⟨a, b⟩ := e
      simp only at hp1 hp2 ⊢
      rw [Int.toNat_natCast]
      unfold touch other goneB
      simp only [Bool.or_eq_true, beq_iff_eq, Bool.and_eq_true]
      by_cases ha : (m : Int) = a
      · have hb : ¬ (m : Int) = b := by omega
        have hb2 : ¬ b = (m : Int) := fun h => hb h.symm
        subst ha
        simp [hb, hb2, show ((b.toNat : Nat) : Int) = b from by omega]
      · have ha2 : ¬ a = (m : Int) := fun h => ha h.symm
        by_cases hb : (m : Int) = b
        · subst hb
          simp [ha, ha2, show ((a.toNat : Nat) : Int) = a from by omega]
        · have hb2 : ¬ b = (m : Int) := fun h => hb h.symm
          simp [ha, ha2, hb, hb2]
    rw [e2, sum_add, sum_add, sum_one hnd, sum_one hnd]
    congr 1
    by_cases h1 : e.1 ∈ xs <;> by_cases h2 : e.2 ∈ xs <;> simp [h1, h2]
/-- greatest numbers of lists, 0 if none is greater -/
def grL (xs : List Int) : Int := xs.foldl max 0
theorem grL_snoc (xs : List Int) (x : Int) : grL (xs ++ [x]) = max (grL xs) x := by unfold grL; rw [List.foldl_append]; rfl
theorem grL_nil : grL [] = 0 := rfl
theorem foldl_le : ∀ (xs : List Int) (a u : Int), xs.foldl max a ≤ u ↔ a ≤ u ∧ ∀ x ∈ xs, x ≤ u
  | [], a, u => by simp
  | x :: xs, a, u => by
    rw [List.foldl_cons, foldl_le xs]
    simp only [List.mem_cons, forall_eq_or_imp]
    constructor
    · rintro ⟨h1, h2⟩; exact ⟨by omega, by omega, h2⟩
    · rintro ⟨h1, h2, h3⟩; exact ⟨by omega, h3⟩
theorem grL_le {xs : List Int} {u : Int} (h : 0 ≤ u) : grL xs ≤ u ↔ ∀ x ∈ xs, x ≤ u := by
  unfold grL
  rw [foldl_le]
  exact ⟨fun h => h.2, fun h2 => ⟨h, h2⟩⟩
theorem grL_pos (xs : List Int) : 0 ≤ grL xs := ((foldl_le xs 0 (grL xs)).1 (Int.le_refl _)).1
/-- two lists with the same bounds have the same greatest number -/
theorem grL_ext {xs ys : List Int} (h : ∀ u, 0 ≤ u → ((∀ x ∈ xs, x ≤ u) ↔ ∀ y ∈ ys, y ≤ u)) : grL xs = grL ys := by
  have h1 := (grL_le (grL_pos ys)).2 ((h _ (grL_pos ys)).2 ((grL_le (grL_pos ys)).1 (Int.le_refl _)))
  have h2 := (grL_le (grL_pos xs)).2 ((h _ (grL_pos xs)).1 ((grL_le (grL_pos xs)).1 (Int.le_refl _)))
  omega
end Go.Proofs.Ytjcnngnahijceaa.lays
