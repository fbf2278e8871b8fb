/- Bags and widths of eliminations: plain mathematics. -/
import Derived.Test.YtjcnngnahijceaaLater
import Derived.Test.YtjcnngnahijceaaEach
namespace Go.Proofs.Ytjcnngnahijceaa.bags
open Go.RowKit P2 words edges ints fns sets covs reach each
set_option linter.unusedVariables false

theorem fold_len : ∀ (xs L : List Int), (xs.foldl addD L).length ≤ L.length + xs.length
  | [], L => by simp
  | x :: xs, L => by
    rw [List.foldl_cons]
    have h1 := fold_len xs (addD L x)
    have h2 : (addD L x).length ≤ L.length + 1 := by unfold addD; split <;> simp
    simp only [List.length_cons]
    omega
theorem EachS.fresh {n : Nat} {tl : List Int} (h : EachS n tl) {k : Nat} {x : Int} (hx : tl[k]? = some x) : x ∉ tl.take k := fun hm => by
  have h1 := (each_dst h.1 h.range).1 h
  have hk := (List.getElem?_eq_some_iff.1 hx).1
  have h2 : dst (tl.take (k + 1)) = dst (tl.take k) := by rw [dst_succ hx]; unfold addD; rw [if_pos (mem_dst.2 hm)]
  have h3 : dst tl = (tl.drop (k + 1)).foldl addD (dst (tl.take (k + 1))) := by
    unfold dst
    rw [← List.foldl_append, List.take_append_drop]
  have h4 := fold_len (tl.drop (k + 1)) (dst (tl.take (k + 1)))
  rw [← h3, h2, List.length_drop] at h4
  have h5 := dst_len (tl.take k)
  rw [List.length_take] at h5
  have := h.1
  omega
theorem goneB_fresh {n : Nat} {tl : List Int} (h : EachS n tl) {k m : Nat} (hx : tl[k]? = some (m : Int)) : goneB (tl.take k) m = false := decide_eq_false (EachS.fresh h hx)
theorem goneB_succ {tl : List Int} {k m : Nat} (hx : tl[k]? = some (m : Int)) : goneB (tl.take (k + 1)) = pput (goneB (tl.take k)) m := by
  funext z
  unfold goneB pput
  rw [List.take_add_one, hx, Bool.eq_iff_iff, decide_eq_true_iff, Bool.or_eq_true, decide_eq_true_iff, decide_eq_true_iff]
  simp only [Option.toList, List.mem_append, List.mem_singleton]
  constructor
  · rintro (h1 | h1)
    · exact .inl h1
    · exact .inr (by omega)
  · rintro (h1 | h1)
    · exact .inl h1
    · exact .inr (by omega)
/-- the bag of a place -/
noncomputable def bagT (n : Nat) (l : List Ed) (tl : List Int) (i : Nat) : List Int := nw (bagB n l (goneB (tl.take i)) (tl.getD i 0).toNat) n
noncomputable def laterT (n : Nat) (l : List Ed) (tl : List Int) (i : Nat) : List Int := nw (laterB n l (goneB (tl.take i)) (tl.getD i 0).toNat) n
theorem getD_at {tl : List Int} {i m : Nat} (h : tl[i]? = some (m : Int)) : (tl.getD i 0).toNat = m := by rw [List.getD_eq_getElem?_getD, h]; simp
noncomputable def bagsK (n : Nat) (l : List Ed) (tl : List Int) (k : Nat) : List (List Int) := (List.range k).map (bagT n l tl)
theorem bagsK_len (n : Nat) (l : List Ed) (tl : List Int) (k : Nat) : (bagsK n l tl k).length = k := by simp [bagsK]
theorem bagsK_at {n : Nat} {l : List Ed} {tl : List Int} {k i : Nat} (h : i < k) : (bagsK n l tl k)[i]? = some (bagT n l tl i) := by simp [bagsK, h]
noncomputable def bagsR (n : Nat) (l : List Ed) (tl : List Int) (k : Nat) : List (List Int) := bagsK n l tl k ++ List.replicate (n - k) []
theorem bagsR_zero (n : Nat) (l : List Ed) (tl : List Int) : bagsR n l tl 0 = List.replicate n [] := by simp [bagsR, bagsK]
theorem bagsR_len (n : Nat) (l : List Ed) (tl : List Int) {k : Nat} (h : k ≤ n) : (bagsR n l tl k).length = n := by simp [bagsR, bagsK_len]; omega
theorem bagsR_all (n : Nat) (l : List Ed) (tl : List Int) : bagsR n l tl n = bagsK n l tl n := by simp [bagsR]
theorem bagsR_succ (n : Nat) (l : List Ed) (tl : List Int) {k : Nat} (h : k < n) : (bagsR n l tl k).set k (bagT n l tl k) = bagsR n l tl (k + 1) := by
  unfold bagsR
  obtain ⟨m, hm⟩ : ∃ m, n - k = m + 1 := ⟨n - k - 1, by omega⟩
  rw [List.set_append, if_neg (by rw [bagsK_len]; omega), bagsK_len, Nat.sub_self, hm, List.replicate_succ, List.set_cons_zero, show n - (k + 1) = m from by omega]
  unfold bagsK
  rw [List.range_succ, List.map_append, List.append_assoc]
  rfl
theorem bagT_len {n : Nat} {l : List Ed} {tl : List Int} {i m : Nat} (h : tl[i]? = some (m : Int)) (hm : m < n) : (bagT n l tl i).length = (laterT n l tl i).length + 1 := by
  unfold bagT laterT
  rw [getD_at h]
  exact bag_len hm
/-- the width by the first k places -/
noncomputable def widK (n : Nat) (l : List Ed) (tl : List Int) : Nat → Int
  | 0 => -1
  | k + 1 => max (widK n l tl k) ((laterT n l tl k).length : Int)
theorem widK_le (n : Nat) (l : List Ed) (tl : List Int) : ∀ k, -1 ≤ widK n l tl k ∧ widK n l tl k ≤ n
  | 0 => by unfold widK; omega
  | k + 1 => by
    have ih := widK_le n l tl k
    have : (laterT n l tl k).length ≤ n := nw_len _ _
    unfold widK
    omega
def ElimOk (s : Int) (l : List Ed) (tl : List Int) : Prop := P2.Good s l ∧ EachS s.toNat tl
end Go.Proofs.Ytjcnngnahijceaa.bags
