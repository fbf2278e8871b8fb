/- What is told of a program: plain mathematics. -/
import Derived.Test.YtbjcfjgoedpgdaaMomM
import Derived.Test.YtbjcfjgoedpgdaaElim
import Derived.Test.YtbjcfjgoedpgdaaLbM
import Derived.Test.YtbjcfjgoedpgdaaGridW
import Derived.Test.YtbjcfjgoedpgdaaGridL
namespace Go.Proofs.Ytbjcfjgoedpgdaa.moms
open Go.RowKit P2 words edges ints fns rets sets covs reach bags grid
set_option linter.unusedVariables false

/-- the most searchers at the first k moments -/
def usK (n : Nat) (pl : List Int) : Nat → Int
  | 0 => 0
  | k + 1 => max (usK n pl k) ((nw (momS pl k) n).length : Int)
theorem usK_le (n : Nat) (pl : List Int) : ∀ k, 0 ≤ usK n pl k ∧ usK n pl k ≤ n
  | 0 => by simp [usK]
  | k + 1 => by
    have h1 := usK_le n pl k
    have h2 := nw_len (momS pl k) n
    simp only [usK]; omega
/-- the unsafe nodes after each of the first k steps -/
noncomputable def runT (n : Nat) (l : List Ed) (pl : List Int) (i : Nat) : List Int := nw (momU n l pl (i + 1)) n
noncomputable def runK (n : Nat) (l : List Ed) (pl : List Int) (k : Nat) : List (List Int) := (List.range k).map (runT n l pl)
theorem runK_len (n : Nat) (l : List Ed) (pl : List Int) (k : Nat) : (runK n l pl k).length = k := by simp [runK]
theorem runK_succ (n : Nat) (l : List Ed) (pl : List Int) (k : Nat) : runK n l pl (k + 1) = runK n l pl k ++ [runT n l pl k] := by simp [runK, List.range_succ]
noncomputable def runR (m n : Nat) (l : List Ed) (pl : List Int) (k : Nat) : List (List Int) := runK n l pl k ++ List.replicate (m - k) []
theorem runR_zero (m n : Nat) (l : List Ed) (pl : List Int) : runR m n l pl 0 = List.replicate m [] := by simp [runR, runK]
theorem runR_len {m : Nat} (n : Nat) (l : List Ed) (pl : List Int) {k : Nat} (h : k ≤ m) : (runR m n l pl k).length = m := by simp [runR, runK_len]; omega
theorem runR_all (m n : Nat) (l : List Ed) (pl : List Int) : runR m n l pl m = runK n l pl m := by simp [runR]
theorem runR_succ {m : Nat} (n : Nat) (l : List Ed) (pl : List Int) {k : Nat} (h : k < m) : (runR m n l pl k).set k (runT n l pl k) = runR m n l pl (k + 1) := by
  unfold runR
  rw [show m - k = (m - (k + 1)) + 1 from by omega, List.replicate_succ, List.set_append_right _ _ (by rw [runK_len]; exact Nat.le_refl _), runK_len, Nat.sub_self, List.set_cons_zero, runK_succ, List.append_assoc]
  rfl
theorem run_len (s : Int) (l : List Ed) (pl : List Int) : gridl.tot (gdG (PrgOk s l pl) (runK s.toNat l pl pl.length)) ≤ 1048576 ∧ (gdG (PrgOk s l pl) (runK s.toNat l pl pl.length)).length ≤ 1048576 := by
  by_cases h : PrgOk s l pl
  · rw [gdG_yes h]
    have h8 := h.1.2.1
    have hs : s.toNat ≤ 8 := by omega
    have h40 := h.2.1
    have h1 := fronts.sum_le (rows := runK s.toNat l pl pl.length) (m := 8) (fun r hr => by
      unfold runK at hr
      obtain ⟨i, _, rfl⟩ := List.mem_map.1 hr
      exact Nat.le_trans (nw_len _ _) hs)
    rw [runK_len] at h1 ⊢
    unfold gridl.tot
    omega
  · rw [gdG_no h]; simp [gridl.tot]
/-- nothing is unsafe at the end -/
noncomputable def ClearP (n : Nat) (l : List Ed) (pl : List Int) : Prop := ∀ z, z < n → momU n l pl pl.length z = false
theorem clear_num {n : Nat} {l : List Ed} {pl : List Int} : decide (numOf (momU n l pl pl.length) n = 0) = okG (ClearP n l pl) := by
  rw [Bool.eq_iff_iff, decide_eq_true_iff, okG_iff, numOf_zero]; exact Iff.rfl
theorem nw_nil {p : Nat → Bool} {n : Nat} : (nw p n).length = 0 ↔ ∀ z, z < n → p z = false := by
  rw [List.length_eq_zero_iff]
  constructor
  · intro h z hz
    cases hp : p z with
    | false => rfl
    | true =>
      have : (z : Int) ∈ nw p n := mem_nw.2 ⟨z, hz, hp, rfl⟩
      rw [h] at this; cases this
  · intro h
    rw [List.eq_nil_iff_forall_not_mem]
    intro x hx
    obtain ⟨j, hj, hp, _⟩ := mem_nw.1 hx
    rw [h j hj] at hp; cases hp
theorem clear_len {n : Nat} {l : List Ed} {pl : List Int} : decide ((nw (momU n l pl pl.length) n).length = 0) = okG (ClearP n l pl) := by
  rw [Bool.eq_iff_iff, decide_eq_true_iff, okG_iff, nw_nil]; exact Iff.rfl
/-- no node becomes unsafe by the first k steps -/
def SteadyTo (n : Nat) (l : List Ed) (pl : List Int) (k : Nat) : Prop := ∀ i, i < k → ∀ z, z < n → momU n l pl (i + 1) z = true → momU n l pl i z = true
theorem SteadyTo.zero (n : Nat) (l : List Ed) (pl : List Int) : SteadyTo n l pl 0 := fun i hi => by omega
theorem SteadyTo.succ {n : Nat} {l : List Ed} {pl : List Int} {k : Nat} (h : SteadyTo n l pl k) (hk : ∀ z, z < n → momU n l pl (k + 1) z = true → momU n l pl k z = true) : SteadyTo n l pl (k + 1) := fun i hi => by
  by_cases e : i = k
  · subst e; exact hk
  · exact h i (by omega)
theorem not_steady {n : Nat} {l : List Ed} {pl : List Int} {k z : Nat} (hk : k < pl.length) (hz : z < n) (h1 : momU n l pl (k + 1) z = true) (h0 : momU n l pl k z = false) : ¬ SteadyTo n l pl pl.length := fun h => by
  have := h k hk z hz h1
  rw [h0] at this; cases this
theorem andNot_zero (p q : Nat → Bool) {n : Nat} (hn : n ≤ 8) : (bits .andNot .u64 ((numOf p n : Nat) : Int) ((numOf q n : Nat) : Int) == 0) = okG (∀ z, z < n → p z = true → q z = true) := by
  rw [bits_andNot0 _ _ (by have := numOf_lt p hn; omega) (by have := numOf_lt q hn; omega), Bool.eq_iff_iff, decide_eq_true_iff, okG_iff, sub_iff]
  constructor
  · intro h z hz hp
    have := h z (by rw [numOf_bit]; simp [hz, hp])
    rw [numOf_bit] at this
    simpa [hz] using this
  · intro h z hz
    rw [numOf_bit, Bool.and_eq_true, decide_eq_true_iff] at hz
    rw [numOf_bit]; simp [hz.1, h z hz.1 hz.2]
end Go.Proofs.Ytbjcfjgoedpgdaa.moms
