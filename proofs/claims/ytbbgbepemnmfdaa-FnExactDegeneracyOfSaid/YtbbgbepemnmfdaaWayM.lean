/- Distances are the same from both ends. -/
import Derived.Test.YtbbgbepemnmfdaaDistM
import Derived.Test.YtbbgbepemnmfdaaFns
namespace Go.Proofs.Ytbbgbepemnmfdaa.P2

section
variable {n : Nat} {J : Nat → Nat → Bool}
/-- at most one more behind an edge -/
theorem dist_edge {x y z : Nat} (hx : x < n) (hy : y < n) (hz : z < n) (h0 : 0 ≤ fn (dist n J x) y) (hJ : J y z = true) : 0 ≤ fn (dist n J x) z ∧ fn (dist n J x) z ≤ fn (dist n J x) y + 1 :=
  (dist_spec J hx).2.step y z hy hz h0 hJ
/-- an edge ahead of a way -/
theorem dist_ahead {b a : Nat} (hb : b < n) (ha : a < n) (hJ : J b a = true) : ∀ (k : Nat) v, v < n → fn (dist n J a) v = (k : Int) → 0 ≤ fn (dist n J b) v ∧ fn (dist n J b) v ≤ (k : Int) + 1
  | 0, v, hv, e => by
    obtain rfl := (dist_spec J ha).2.only v hv e
    have h := dist_edge (J := J) hb hb hv (by rw [(dist_spec J hb).2.at0]; omega) hJ
    rw [(dist_spec J hb).2.at0] at h
    omega
  | k + 1, v, hv, e => by
    obtain ⟨u, hu, eu, hj⟩ := (dist_spec J ha).2.back v hv (by omega)
    have ih := dist_ahead hb ha hJ k u hu (by omega)
    have := dist_edge hb hu hv ih.1 hj
    omega
/-- the first step of a way -/
theorem dist_first {z : Nat} (hz : z < n) : ∀ (k : Nat) v, v < n → fn (dist n J z) v = ((k + 1 : Nat) : Int) → ∃ u, u < n ∧ J z u = true ∧ fn (dist n J u) v = (k : Int)
  | 0, v, hv, e => by
    obtain ⟨w, hw, ew, hj⟩ := (dist_spec J hz).2.back v hv (by omega)
    obtain rfl := (dist_spec J hz).2.only w hw (by omega)
    exact ⟨v, hv, hj, (dist_spec J hv).2.at0⟩
  | k + 1, v, hv, e => by
    obtain ⟨w, hw, ew, hj⟩ := (dist_spec J hz).2.back v hv (by omega)
    obtain ⟨u, hu, hzu, hd⟩ := dist_first hz k w hw (by omega)
    have h1 := dist_edge hu hw hv (by omega) hj
    have h2 := dist_ahead hz hu hzu (fn (dist n J u) v).toNat v hv (by omega)
    exact ⟨u, hu, hzu, by omega⟩
theorem dist_symm (hJ : ∀ a b, J a b = J b a) {y z : Nat} (hy : y < n) (hz : z < n) : fn (dist n J z) y = fn (dist n J y) z := by
  have hE : IsDist n J y (fun z => fn (dist n J z) y) :=
    { at0 := (dist_spec J hy).2.at0
      only := fun a ha e => ((dist_spec J ha).2.only y hy e).symm
      low := fun a ha => (dist_spec J ha).2.low y hy
      step := fun a b ha hb h0 hj => by
        have h0' : 0 ≤ fn (dist n J a) y := h0
        have h := dist_ahead (J := J) hb ha ((hJ b a).trans hj) (fn (dist n J a) y).toNat y hy (by omega)
        show 0 ≤ fn (dist n J b) y ∧ fn (dist n J b) y ≤ fn (dist n J a) y + 1
        omega
      back := fun a ha h0 => by
        have h0' : 0 < fn (dist n J a) y := h0
        obtain ⟨k, hk⟩ : ∃ k : Nat, fn (dist n J a) y = ((k + 1 : Nat) : Int) := ⟨(fn (dist n J a) y).toNat - 1, by omega⟩
        obtain ⟨u, hu, hau, hd⟩ := dist_first ha k y hy hk
        refine ⟨u, hu, ?_, (hJ u a).trans hau⟩
        show fn (dist n J u) y = fn (dist n J a) y - 1
        omega }
  exact hE.eq (dist_spec J hy).2 z hz
end

/-- the next node of a first way to y -/
noncomputable def nxP (n : Nat) (J : Nat → Nat → Bool) (y a z : Nat) : Bool := J a z && decide (fn (dist n J z) y = fn (dist n J a) y - 1)
noncomputable def nxt (n : Nat) (J : Nat → Nat → Bool) (y a : Nat) : Nat := ((List.range n).find? (nxP n J y a)).getD 0
noncomputable def wayA (n : Nat) (J : Nat → Nat → Bool) (y x : Nat) : Nat → Nat
  | 0 => x
  | k + 1 => nxt n J y (wayA n J y x k)
noncomputable def wayT (n : Nat) (J : Nat → Nat → Bool) (y x k : Nat) : List Int := (List.range (k + 1)).map fun j => (wayA n J y x j : Int)
theorem wayT_len (n : Nat) (J : Nat → Nat → Bool) (y x k : Nat) : (wayT n J y x k).length = k + 1 := by simp [wayT]
theorem wayT_zero (n : Nat) (J : Nat → Nat → Bool) (y x : Nat) : wayT n J y x 0 = [(x : Int)] := rfl
theorem wayT_succ (n : Nat) (J : Nat → Nat → Bool) (y x k : Nat) : wayT n J y x (k + 1) = wayT n J y x k ++ [(wayA n J y x (k + 1) : Int)] := by
  unfold wayT; rw [List.range_succ (n := k + 1), List.map_append]; rfl
theorem nxt_spec {n : Nat} {J : Nat → Nat → Bool} {y a k : Nat} (ha : a < n) (hy : y < n) (hd : fn (dist n J a) y = ((k + 1 : Nat) : Int)) :
    nxt n J y a < n ∧ J a (nxt n J y a) = true ∧ fn (dist n J (nxt n J y a)) y = (k : Int) ∧ ∀ z, z < nxt n J y a → nxP n J y a z = false := by
  obtain ⟨u, hu, hau, hdu⟩ := dist_first ha k y hy hd
  have hpu : nxP n J y a u = true := by
    unfold nxP
    rw [hau, decide_eq_true (by omega)]; rfl
  cases hf : (List.range n).find? (nxP n J y a) with
  | none =>
    have := List.find?_eq_none.1 hf u (List.mem_range.2 hu)
    rw [hpu] at this; exact absurd rfl this
  | some z =>
    obtain ⟨h1, h2, h3⟩ := List.find?_range_eq_some.1 hf
    have hz : z < n := List.mem_range.1 h2
    have e : nxt n J y a = z := by unfold nxt; rw [hf]; rfl
    rw [e]
    unfold nxP at h1
    rw [Bool.and_eq_true] at h1
    refine ⟨hz, h1.1, ?_, fun j hj => ?_⟩
    · have := of_decide_eq_true h1.2; omega
    · have := h3 j hj; simpa using this
theorem way_at {n : Nat} {J : Nat → Nat → Bool} {y x K : Nat} (hx : x < n) (hy : y < n) (hd : fn (dist n J x) y = (K : Int)) : ∀ k, k ≤ K → wayA n J y x k < n ∧ fn (dist n J (wayA n J y x k)) y = ((K - k : Nat) : Int)
  | 0, _ => ⟨hx, by rw [Nat.sub_zero]; exact hd⟩
  | k + 1, hk => by
    have ih := way_at hx hy hd k (by omega)
    have h := nxt_spec (k := K - (k + 1)) ih.1 hy (by rw [ih.2]; omega)
    exact ⟨h.1, h.2.2.1⟩
theorem way_end {n : Nat} {J : Nat → Nat → Bool} {y x K : Nat} (hx : x < n) (hy : y < n) (hd : fn (dist n J x) y = (K : Int)) {k : Nat} (hk : k ≤ K) : wayA n J y x k = y ↔ k = K := by
  have h := way_at hx hy hd k hk
  constructor
  · intro e
    rw [e, (dist_spec J hy).2.at0] at h
    omega
  · rintro rfl
    rw [Nat.sub_self] at h
    exact ((dist_spec J h.1).2.only y hy h.2).symm
/-- the first number for which a test holds -/
theorem nw_head {p : Nat → Bool} {n z : Nat} (hz : z < n) (hp : p z = true) (h0 : ∀ j, j < z → p j = false) : (fns.nw p n)[0]? = some (z : Int) := by
  have hf : (List.range n).find? p = some z := List.find?_range_eq_some.2 ⟨hp, List.mem_range.2 hz, fun j hj => by simp [h0 j hj]⟩
  unfold fns.nw
  rw [List.getElem?_map, ← List.head?_eq_getElem?, List.head?_filter, hf]
  rfl
/-- the program's test for a step -/
theorem step_is {n : Nat} {J : Nat → Nat → Bool} (hJ : ∀ a b, J a b = J b a) {y a z : Nat} (hy : y < n) (ha : a < n) (hz : z < n) (h0 : 0 ≤ fn (dist n J a) y) :
    (J a z && decide (fn (dist n J y) z < fn (dist n J y) a)) = nxP n J y a z := by
  unfold nxP
  cases hj : J a z with
  | false => rfl
  | true =>
    rw [← dist_symm hJ hy hz, ← dist_symm hJ hy ha]
    show decide _ = decide _
    rw [decide_eq_decide]
    have h1 := dist_ahead (J := J) ha hz hj
    have h2 := dist_ahead (J := J) hz ha ((hJ z a).trans hj) (fn (dist n J a) y).toNat y hy (by omega)
    have h3 := h1 (fn (dist n J z) y).toNat y hy (by omega)
    omega
end Go.Proofs.Ytbbgbepemnmfdaa.P2
