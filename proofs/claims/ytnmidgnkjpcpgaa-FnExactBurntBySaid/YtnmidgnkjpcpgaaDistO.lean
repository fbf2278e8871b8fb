/- The contracts of DistancesOf: of the program and of the model. -/
import Derived.Handy
import Derived.Test.YtnmidgnkjpcpgaaGridW
import Derived.Test.YtnmidgnkjpcpgaaGridL
import Derived.Test.YtnmidgnkjpcpgaaDistF
import Derived.Test.YtnmidgnkjpcpgaaDistS
import Derived.Test.YtnmidgnkjpcpgaaDistM
import Derived.Deep.DeepCutAuto
namespace Go.Proofs.Ytnmidgnkjpcpgaa.disto
open Go.RowKit P2 words edges ints owns good near adjs fns rets nearv sets grid reps dists distf
set_option linter.unusedVariables false

theorem distTo_at (n : Nat) (l : List Ed) {k x : Nat} (h : x < k) : (distTo n l k)[x]? = some (dist n (J1 l) x) := by simp [distTo, h]
/-- so many rows are done -/
noncomputable def rowsD (n : Nat) (l : List Ed) (k : Nat) : List (List Int) := distTo n l k ++ List.replicate (n - k) []
theorem rowsD_zero (n : Nat) (l : List Ed) : rowsD n l 0 = List.replicate n [] := by simp [rowsD, distTo]
theorem rowsD_len (n : Nat) (l : List Ed) {k : Nat} (h : k ≤ n) : (rowsD n l k).length = n := by simp [rowsD, distTo_len]; omega
theorem rowsD_all (n : Nat) (l : List Ed) : rowsD n l n = distG n l := by simp [rowsD, distG]
theorem rowsD_succ (n : Nat) (l : List Ed) {k : Nat} (h : k < n) : (rowsD n l k).set k (dist n (J1 l) k) = rowsD n l (k + 1) := by
  unfold rowsD
  obtain ⟨m, hm⟩ : ∃ m, n - k = m + 1 := ⟨n - k - 1, by omega⟩
  rw [List.set_append, if_neg (by rw [distTo_len]; omega), distTo_len, Nat.sub_self, hm, List.replicate_succ, List.set_cons_zero, distTo_succ, List.append_assoc, show n - (k + 1) = m from by omega]
  rfl
theorem sum_const (m : Nat) : ∀ (rows : List (List Int)), (∀ r, r ∈ rows → r.length = m) → (rows.map List.length).sum = rows.length * m
  | [], _ => by simp
  | r :: rs, h => by
    have := sum_const m rs (fun x hx => h x (List.mem_cons_of_mem _ hx))
    simp only [List.map_cons, List.sum_cons, List.length_cons, this, h r List.mem_cons_self, Nat.succ_mul]
    omega
theorem distG_len (n : Nat) (l : List Ed) : (distG n l).length = n := distTo_len n l n
theorem dist_mem {n : Nat} {l : List Ed} {r : List Int} (h : r ∈ distG n l) : ∃ x, x < n ∧ r = dist n (J1 l) x := by
  unfold distG distTo at h
  obtain ⟨x, hx, rfl⟩ := List.mem_map.1 h
  exact ⟨x, List.mem_range.1 hx, rfl⟩
theorem distO_len (s : Int) (l : List Ed) : gridl.tot (gdG (P2.Good s l) (distG s.toNat l)) ≤ 1048576 ∧ (gdG (P2.Good s l) (distG s.toNat l)).length ≤ 1048576 := by
  by_cases h : P2.Good s l
  · rw [gdG_yes h]
    have h8 := h.2.1
    unfold gridl.tot
    have hs : s.toNat ≤ 8 := by omega
    rw [sum_const s.toNat _ (fun r hr => by obtain ⟨x, hx, rfl⟩ := dist_mem hr; exact dist_len _ hx), distG_len]
    have := Nat.mul_le_mul hs hs
    omega
  · rw [gdG_no h]; simp [gridl.tot]

end Go.Proofs.Ytnmidgnkjpcpgaa.disto
