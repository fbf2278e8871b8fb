/- Lists that have each node once: the contracts of the program's hasOrder and of the model's l2Each. -/
import Derived.Handy
import Derived.Test.YtjcnngnahijceaaBall
import Derived.Maps.OwnSet
namespace Go.Proofs.Ytjcnngnahijceaa.each
open Go.RowKit Go.Maps P2 words edges ints good near adjs fns sets rets covs balls
set_option linter.unusedVariables false

theorem cell_keep {w w' : World} {b o : Nat} {v : Value} (h : w.cell? ⟨b, o, none⟩ = some v) (hb : Below w.heap.size w w') : w'.cell? ⟨b, o, none⟩ = some v :=
  (hb.cell (p := ⟨b, o, none⟩) (World.block_lt_of_cell? w (a := ⟨b, o, none⟩) h)).trans h
/-- a list has each node once -/
def EachS (n : Nat) (tl : List Int) : Prop := tl.length = n ∧ ∀ k : Nat, k < n → (k : Int) ∈ tl
theorem allN_nodup (n : Nat) : (allN n).Nodup := by
  unfold allN
  rw [List.Nodup, List.pairwise_map]
  exact List.pairwise_lt_range.imp (fun {a b} h e => by omega)
theorem EachS.range {n : Nat} {tl : List Int} (h : EachS n tl) : ∀ x ∈ tl, 0 ≤ x ∧ x < (n : Int) := fun x hx => by
  apply Classical.byContradiction
  intro hn
  have hnd : (x :: allN n).Nodup := List.nodup_cons.2 ⟨fun hm => hn (mem_allN.1 hm), allN_nodup n⟩
  have hsub : (x :: allN n) ⊆ tl := fun y hy => by
    rcases List.mem_cons.1 hy with rfl | hy
    · exact hx
    · have := mem_allN.1 hy
      have h2 := h.2 y.toNat (by omega)
      rwa [show ((y.toNat : Nat) : Int) = y from by omega] at h2
  have := hnd.length_le_of_subset hsub
  have h1 := h.1
  rw [List.length_cons, allN_len] at this
  omega

/-- the distinct numbers of a list -/
def addD (L : List Int) (x : Int) : List Int := if x ∈ L then L else L ++ [x]
def dst (xs : List Int) : List Int := xs.foldl addD []
theorem mem_addD {L : List Int} {x y : Int} : y ∈ addD L x ↔ y ∈ L ∨ y = x := by
  unfold addD
  split
  · rename_i h; exact ⟨.inl, fun hh => by rcases hh with hh | rfl; exact hh; exact h⟩
  · simp
theorem addD_nodup {L : List Int} {x : Int} (h : L.Nodup) : (addD L x).Nodup := by
  unfold addD
  split
  · exact h
  · rename_i hx
    rw [List.nodup_append]
    exact ⟨h, by simp, fun a ha b hb e => hx (by rw [List.mem_singleton] at hb; subst hb; rw [← e]; exact ha)⟩
theorem mem_fold : ∀ (xs L : List Int) (y : Int), y ∈ xs.foldl addD L ↔ y ∈ L ∨ y ∈ xs
  | [], L, y => by simp
  | x :: xs, L, y => by
    rw [List.foldl_cons, mem_fold xs, mem_addD, List.mem_cons, or_assoc]
theorem fold_nodup : ∀ (xs L : List Int), L.Nodup → (xs.foldl addD L).Nodup
  | [], L, h => h
  | x :: xs, L, h => by rw [List.foldl_cons]; exact fold_nodup xs _ (addD_nodup h)
theorem mem_dst {xs : List Int} {y : Int} : y ∈ dst xs ↔ y ∈ xs := by unfold dst; rw [mem_fold]; simp
theorem dst_nodup (xs : List Int) : (dst xs).Nodup := fold_nodup xs [] (by simp)
theorem dst_succ {xs : List Int} {k : Nat} {x : Int} (h : xs[k]? = some x) : dst (xs.take (k + 1)) = addD (dst (xs.take k)) x := by
  unfold dst
  rw [List.take_add_one, h, List.foldl_append]; rfl
theorem dst_len (xs : List Int) : (dst xs).length ≤ xs.length := (dst_nodup xs).length_le_of_subset (fun y hy => mem_dst.1 hy)
theorem each_dst {n : Nat} {tl : List Int} (hl : tl.length = n) (hr : ∀ x ∈ tl, 0 ≤ x ∧ x < (n : Int)) : EachS n tl ↔ (dst tl).length = n := by
  constructor
  · intro h
    have h1 : (allN n).length ≤ (dst tl).length := (allN_nodup n).length_le_of_subset (fun y hy => mem_dst.2 (by
      have := mem_allN.1 hy
      have h2 := h.2 y.toNat (by omega)
      rwa [show ((y.toNat : Nat) : Int) = y from by omega] at h2))
    have h2 := dst_len tl
    rw [allN_len] at h1
    omega
  · intro h
    refine ⟨hl, fun k hk => Classical.byContradiction fun hn => ?_⟩
    have hnd : ((k : Int) :: dst tl).Nodup := List.nodup_cons.2 ⟨fun hm => hn (mem_dst.1 hm), dst_nodup tl⟩
    have hsub : ((k : Int) :: dst tl) ⊆ allN n := fun y hy => by
      rcases List.mem_cons.1 hy with rfl | hy
      · exact mem_allN.2 (by omega)
      · exact mem_allN.2 (hr y (mem_dst.1 hy))
    have := hnd.length_le_of_subset hsub
    rw [List.length_cons, allN_len] at this
    omega


end Go.Proofs.Ytjcnngnahijceaa.each
