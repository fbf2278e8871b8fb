/- An element put into a row by three appends: what the walk wants. -/
import Derived.Test.YtfphpilabfpmjaaBall
namespace Go.Proofs.Ytfphpilabfpmjaa.trip
open Go.RowKit P2 words edges ints good adjs fns sets apps covs neigh
set_option linter.unusedVariables false

theorem one_readsV {w : World} {g : Nat} {t : TypeId} {a : Value} (h : Blk w g t #[a]) : Reads w 1 (.slice (some ⟨g, 0, none⟩) 1 1) 1 [a] := by
  refine ⟨_, _, rfl, fun _ => ⟨g, 0, rfl, by omega, fun j u hu => ?_⟩⟩
  rw [Nat.zero_add]
  refine (h.cell j).trans ?_
  rw [← hu]
  match j with
  | 0 => rfl
  | j + 1 => simp
theorem rd1_someV {W : World} {g o c k n : Nat} {xs : List Value} (h : Reads W 1 (.slice (if c = k then some ⟨g, o, none⟩ else (some (⟨g, o, none⟩ : Addr)).map (·.add k)) (n - k) (c - k)) (n - k) xs) :
    Reads W 1 (.slice (if c = k then some ⟨g, o, none⟩ else some ⟨g, o + k, none⟩) (n - k) (c - k)) (n - k) xs := by
  simpa [apps.addr_add] using h
theorem rd1_zeroV {W : World} {g c k n : Nat} {xs : List Value} (h : Reads W 1 (.slice (if c = k then some ⟨g, 0, none⟩ else (some (⟨g, 0, none⟩ : Addr)).map (·.add k)) (n - k) (c - k)) (n - k) xs) :
    Reads W 1 (.slice (if c = k then some ⟨g, 0, none⟩ else some ⟨g, k, none⟩) (n - k) (c - k)) (n - k) xs := by
  simpa [apps.addr_add] using h
theorem reads_cap {W : World} {A : Option Addr} {n c k : Nat} {xs : List Value} (h : Reads W 1 (.slice A n c) n xs) (hk : k ≤ n) : k ≤ c := by
  rcases Nat.eq_zero_or_pos n with h0 | h0
  · omega
  · obtain ⟨A', c', e, hx⟩ := h
    cases e
    have := (hx h0).choose_spec.choose_spec.2.1
    omega
theorem own_at {w : World} {B i n c : Nat} {A : Option Addr} {t : TypeId} {us : List Value} {u : Value} (h : w.ownsRow B t 1 (.slice A n c) n us) (hu : us[i]? = some u) :
    ∃ g, A = some ⟨g, 0, none⟩ ∧ w.cell? ⟨g, i, none⟩ = some u ∧ B ≤ g ∧ g < w.heap.size := by
  have hi := (List.getElem?_eq_some_iff.1 hu).1
  have hl := h.1
  rcases h.2 with ⟨hf, _⟩ | ⟨g, cap, cur, hf, _⟩
  · have := congrArg (fun v => match v with | .slice _ n _ => n | _ => 0) hf
    simp at this
    omega
  · obtain ⟨rfl, rfl⟩ : A = some ⟨g, 0, none⟩ ∧ c = cap := by simpa using hf
    have := h.cellAt i (by omega)
    rw [hu] at this
    exact ⟨g, rfl, this, (h.lt g rfl).1, (h.lt g rfl).2⟩
theorem own_cell {w : World} {B i n c g : Nat} {t : TypeId} {us : List Value} {u : Value} (h : w.ownsRow B t 1 (.slice (some ⟨g, 0, none⟩) n c) n us) (hu : us[i]? = some u) : w.cell? ⟨g, i, none⟩ = some u := by
  obtain ⟨g', e, hc, -⟩ := own_at h hu
  have : g = g' := by injection e with e; injection e
  subst this
  exact hc
end Go.Proofs.Ytfphpilabfpmjaa.trip
