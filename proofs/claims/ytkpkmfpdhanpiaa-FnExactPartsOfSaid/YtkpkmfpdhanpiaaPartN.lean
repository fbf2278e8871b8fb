/- Parts by distances: what the program takes as a part, and when. -/
import Derived.Test.YtkpkmfpdhanpiaaRadM
import Derived.Test.YtkpkmfpdhanpiaaDistO
namespace Go.Proofs.Ytkpkmfpdhanpiaa.parto
open Go.RowKit P2 words edges ints good fns rets sets covs grid reach rad dists disto
set_option linter.unusedVariables false

def allQ : Nat → Bool := fun _ => true
theorem all_at {n x : Nat} (hx : x < n) : (nw allQ n)[x]? = some (x : Int) := by
  unfold nw allQ
  rw [List.filter_eq_self.2 (fun _ _ => rfl)]
  simp [hx]
theorem all_len (n : Nat) : (nw allQ n).length = n := by
  unfold nw allQ
  rw [List.filter_eq_self.2 (fun _ _ => rfl)]
  simp
noncomputable def partB (n : Nat) (l : List Ed) (x y : Nat) : Bool := decide (0 ≤ fn (dist n (J1 l) x) y)
theorem part_is {n x : Nat} {l : List Ed} (hx : x < n) : nw (partB n l x) n = nw (reachB n (J1 l) allQ x) n := reach.nw_congr fun z hz => by
  cases h : reachB n (J1 l) allQ x z with
  | true => exact decide_eq_true ((rch_dist hx hz).1 (reachB_iff.1 h))
  | false =>
    refine decide_eq_false fun hh => ?_
    have h9 : reachB n (J1 l) allQ x z = true := reachB_iff.2 ((rch_dist hx hz).2 hh)
    rw [h9] at h
    cases h
theorem part_in {n x : Nat} {l : List Ed} (hx : x < n) : (x : Int) ∈ nw (partB n l x) n := by
  rw [part_is hx, mem_nw]
  exact ⟨x, hx, reachB_iff.2 .base, rfl⟩
theorem part_head {n x : Nat} {l : List Ed} {z : Int} (hx : x < n) (h : (nw (partB n l x) n)[0]? = some z) : (z == (x : Int)) = leastB n (J1 l) allQ x := by
  have hs : ∀ a b, J1 l a b = J1 l b a := fun a b => adj_comm l a b
  rw [part_is hx] at h
  obtain ⟨z, rfl, hzn, hr⟩ := nw_at h
  have hr := reachB_iff.1 hr
  have low : ∀ y, y < n → Rch n (J1 l) allQ x y → z ≤ y := fun y hy hry => by
    obtain ⟨j, hj, hjy⟩ := at_nw (reachB_iff.2 hry) hy
    by_cases e : j = 0
    · subst e; rw [h] at hjy
      have : (z : Int) = (y : Int) := by simpa using hjy
      omega
    · have := (nw_asc _ _).at_ (by omega : 0 < j) h hjy
      omega
  cases hl : leastB n (J1 l) allQ x with
  | true =>
    have h1 := low x hx .base
    have h2 : ¬ z < x := fun hlt => leastB_iff.1 hl z hlt rfl (Rch.symm hs hx hr)
    have : z = x := by omega
    simp [this]
  | false =>
    have : z ≠ x := fun e => by
      subst e
      have : leastB n (J1 l) allQ z = true := leastB_iff.2 fun y hy _ hry => by
        have := low y (by omega) (Rch.symm hs (by omega) hry)
        omega
      rw [this] at hl; cases hl
    simp; omega
/-- the parts so far -/
noncomputable def partsP (n : Nat) (l : List Ed) (k : Nat) : List (List Int) := partsT n (J1 l) allQ k
theorem partsP_yes {n x : Nat} {l : List Ed} (hx : x < n) (h : leastB n (J1 l) allQ x = true) : partsP n l x ++ [nw (partB n l x) n] = partsP n l (x + 1) := by
  rw [part_is hx]; exact (partsT_yes (all_at hx) h).symm
theorem partsP_no {n x : Nat} {l : List Ed} (hx : x < n) (h : leastB n (J1 l) allQ x = false) : partsP n l x = partsP n l (x + 1) := (partsT_no (all_at hx) h).symm
noncomputable def partsA (n : Nat) (l : List Ed) : List (List Int) := partsL n (J1 l) allQ
theorem partsP_all (n : Nat) (l : List Ed) : partsP n l n = partsA n l := by
  unfold partsP partsA partsL
  rw [all_len]
theorem sum_le (m : Nat) : ∀ (rows : List (List Int)), (∀ r, r ∈ rows → r.length ≤ m) → (rows.map List.length).sum ≤ rows.length * m
  | [], _ => by simp
  | r :: rs, h => by
    have := sum_le m rs (fun x hx => h x (List.mem_cons_of_mem _ hx))
    have h2 := h r List.mem_cons_self
    simp only [List.map_cons, List.sum_cons, List.length_cons, Nat.succ_mul]
    omega
theorem partO_len (s : Int) (l : List Ed) : gridl.tot (gdG (P2.Good s l) (partsA s.toNat l)) ≤ 1048576 ∧ (gdG (P2.Good s l) (partsA s.toNat l)).length ≤ 1048576 := by
  by_cases h : P2.Good s l
  · rw [gdG_yes h]
    have h8 := h.2.1
    have hs : s.toNat ≤ 8 := by omega
    have h1 : (partsA s.toNat l).length ≤ s.toNat := partsT_len _
    have h2 := sum_le s.toNat (partsA s.toNat l) (fun r hr => partsT_row hr)
    have h3 := Nat.mul_le_mul h1 (Nat.le_refl s.toNat)
    have h4 := Nat.mul_le_mul hs hs
    unfold gridl.tot
    omega
  · rw [gdG_no h]; simp [gridl.tot]
end Go.Proofs.Ytkpkmfpdhanpiaa.parto
