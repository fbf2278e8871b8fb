/- Plain mathematics of distances: what makes a list the distances from a node, why there is one such list alone, and the two ways to find it. It imports nothing of the program. -/
import Derived.Test.YtbbgbepemnmfdaaGraphs
namespace Go.Proofs.Ytbbgbepemnmfdaa.P2
open Go

/-- D tells the distances from x among n nodes by the test J, -1 where there is no way -/
structure IsDist (n : Nat) (J : Nat → Nat → Bool) (x : Nat) (D : Nat → Int) : Prop where
  at0 : D x = 0
  only : ∀ y, y < n → D y = 0 → y = x
  low : ∀ y, y < n → -1 ≤ D y
  step : ∀ y z, y < n → z < n → 0 ≤ D y → J y z = true → 0 ≤ D z ∧ D z ≤ D y + 1
  back : ∀ z, z < n → 0 < D z → ∃ y, y < n ∧ D y = D z - 1 ∧ J y z = true

theorem IsDist.le {n : Nat} {J : Nat → Nat → Bool} {x : Nat} {D E : Nat → Int} (h : IsDist n J x D) (k : IsDist n J x E) : ∀ (m : Nat) z, z < n → E z = m → 0 ≤ D z ∧ D z ≤ m
  | 0, z, hz, e => by
    obtain rfl := k.only z hz e
    rw [h.at0]; omega
  | m + 1, z, hz, e => by
    obtain ⟨y, hy, ey, hj⟩ := k.back z hz (by omega)
    have := IsDist.le h k m y hy (by omega)
    have := h.step y z hy hz this.1 hj
    omega
theorem IsDist.eq {n : Nat} {J : Nat → Nat → Bool} {x : Nat} {D E : Nat → Int} (h : IsDist n J x D) (k : IsDist n J x E) (z : Nat) (hz : z < n) : D z = E z := by
  have a := h.low z hz
  have b := k.low z hz
  by_cases h1 : 0 ≤ D z
  · have := k.le h (D z).toNat z hz (by omega)
    have := h.le k (E z).toNat z hz (by omega)
    omega
  · by_cases h2 : 0 ≤ E z
    · have := h.le k (E z).toNat z hz (by omega)
      omega
    · omega

theorem dist_chain {n : Nat} {J : Nat → Nat → Bool} {D : Nat → Int} (back : ∀ z, z < n → 0 < D z → ∃ y, y < n ∧ D y = D z - 1 ∧ J y z = true) :
    ∀ (k : Nat) z, z < n → D z = k → ∃ f : Nat → Nat, ∀ j, j ≤ k → f j < n ∧ D (f j) = j
  | 0, z, hz, e => ⟨fun _ => z, fun j hj => ⟨hz, by rw [e]; omega⟩⟩
  | k + 1, z, hz, e => by
    obtain ⟨y, hy, ey, _⟩ := back z hz (by omega)
    obtain ⟨f, hf⟩ := dist_chain back k y hy (by omega)
    refine ⟨fun j => if j = k + 1 then z else f j, fun j hj => ?_⟩
    by_cases hk : j = k + 1
    · simp only [hk, if_true]; exact ⟨hz, by rw [e]⟩
    · simp only [hk, if_false]; exact hf j (by omega)
theorem dist_small {n : Nat} {J : Nat → Nat → Bool} {D : Nat → Int} (back : ∀ z, z < n → 0 < D z → ∃ y, y < n ∧ D y = D z - 1 ∧ J y z = true) {z : Nat} (hz : z < n) : D z < n := by
  rcases (show D z < 0 ∨ 0 ≤ D z from by omega) with h0 | h0
  · omega
  · obtain ⟨f, hf⟩ := dist_chain back (D z).toNat z hz (by omega)
    have hnd : ((List.range ((D z).toNat + 1)).map f).Nodup := by
      rw [List.Nodup, List.pairwise_map]
      refine (List.pairwise_lt_range (n := (D z).toNat + 1)).imp_of_mem ?_
      intro a b ha hb hlt he
      have h1 := (hf a (by have := List.mem_range.1 ha; omega)).2
      have h2 := (hf b (by have := List.mem_range.1 hb; omega)).2
      rw [he] at h1
      omega
    have hsub : (List.range ((D z).toNat + 1)).map f ⊆ List.range n := by
      intro a ha
      obtain ⟨j, hj, rfl⟩ := List.mem_map.1 ha
      exact List.mem_range.2 (hf j (by have := List.mem_range.1 hj; omega)).1
    have := hnd.length_le_of_subset hsub
    simp only [List.length_map, List.length_range] at this
    omega

/-- a list of numbers as a function -/
def fn (D : List Int) (y : Nat) : Int := D.getD y 0
theorem fn_at {D : List Int} {y : Nat} {u : Int} (h : D[y]? = some u) : fn D y = u := by simp [fn, h]
theorem fn_get {D : List Int} {y : Nat} (h : y < D.length) : D[y]? = some (fn D y) := by simp [fn, h]
theorem fn_set {D : List Int} {z : Nat} (hz : z < D.length) (u : Int) (y : Nat) : fn (D.set z u) y = if y = z then u else fn D y := by
  unfold fn
  by_cases h : y = z
  · subst h; simp [hz]
  · rw [if_neg h, List.getD_eq_getElem?_getD, List.getElem?_set_ne (by omega), ← List.getD_eq_getElem?_getD]
theorem list_ext_fn {D E : List Int} {n : Nat} (hD : D.length = n) (hE : E.length = n) (h : ∀ y, y < n → fn D y = fn E y) : D = E := by
  apply List.ext_getElem?
  intro y
  by_cases hy : y < n
  · rw [fn_get (by omega), fn_get (by omega), h y hy]
  · rw [List.getElem?_eq_none (by omega), List.getElem?_eq_none (by omega)]

/-- the distances from x, a list -/
noncomputable def dist (n : Nat) (J : Nat → Nat → Bool) (x : Nat) : List Int := Classical.epsilon fun D => D.length = n ∧ IsDist n J x (fn D)
theorem dist_eq {n : Nat} {J : Nat → Nat → Bool} {x : Nat} {D : List Int} (hD : D.length = n) (h : IsDist n J x (fn D)) : dist n J x = D := by
  have := Classical.epsilon_spec (p := fun D : List Int => D.length = n ∧ IsDist n J x (fn D)) ⟨D, hD, h⟩
  exact list_ext_fn this.1 hD (fun y hy => this.2.eq h y hy)

/-- layer by layer: the layers below d are done -/
structure IsPart (n : Nat) (J : Nat → Nat → Bool) (x : Nat) (d : Nat) (D : Nat → Int) : Prop where
  at0 : D x = 0
  only : ∀ y, y < n → D y = 0 → y = x
  low : ∀ y, y < n → -1 ≤ D y ∧ D y ≤ d
  step : ∀ y z, y < n → z < n → 0 ≤ D y → D y < d → J y z = true → 0 ≤ D z ∧ D z ≤ D y + 1
  back : ∀ z, z < n → 0 < D z → ∃ y, y < n ∧ D y = D z - 1 ∧ J y z = true
theorem IsPart.zero {n : Nat} (J : Nat → Nat → Bool) {x : Nat} (D : Nat → Int) (h0 : D x = 0) (h1 : ∀ y, y < n → y ≠ x → D y = -1) : IsPart n J x 0 D where
  at0 := h0
  only := fun y hy e => by
    apply Classical.byContradiction
    intro hne
    have := h1 y hy hne
    omega
  low := fun y hy => by
    by_cases e : y = x
    · subst e; omega
    · have := h1 y hy e; omega
  step := fun y z _ _ h h' _ => by omega
  back := fun z hz h => by
    by_cases e : z = x
    · subst e; omega
    · have := h1 z hz e; omega
theorem IsPart.done {n : Nat} {J : Nat → Nat → Bool} {x : Nat} {D : Nat → Int} (h : IsPart n J x n D) : IsDist n J x D where
  at0 := h.at0
  only := h.only
  low := fun y hy => (h.low y hy).1
  step := fun y z hy hz h0 hj => h.step y z hy hz h0 (dist_small h.back hy) hj
  back := h.back
/-- in the midst of layer d: the pairs of nodes less than (a, b) are done -/
structure IsMid (n : Nat) (J : Nat → Nat → Bool) (x d a b : Nat) (D : Nat → Int) : Prop where
  at0 : D x = 0
  only : ∀ y, y < n → D y = 0 → y = x
  low : ∀ y, y < n → -1 ≤ D y ∧ D y ≤ d + 1
  step : ∀ y z, y < n → z < n → 0 ≤ D y → D y < d → J y z = true → 0 ≤ D z ∧ D z ≤ D y + 1
  pair : ∀ y z, y < n → z < n → (y < a ∨ (y = a ∧ z < b)) → D y = d → J y z = true → 0 ≤ D z
  back : ∀ z, z < n → 0 < D z → ∃ y, y < n ∧ D y = D z - 1 ∧ J y z = true
theorem IsPart.mid {n : Nat} {J : Nat → Nat → Bool} {x d : Nat} {D : Nat → Int} (h : IsPart n J x d D) : IsMid n J x d 0 0 D where
  at0 := h.at0
  only := h.only
  low := fun y hy => ⟨(h.low y hy).1, by have := (h.low y hy).2; omega⟩
  step := h.step
  pair := fun y z _ _ hl => by omega
  back := h.back
theorem IsMid.next {n : Nat} {J : Nat → Nat → Bool} {x d a : Nat} {D : Nat → Int} (h : IsMid n J x d a n D) : IsMid n J x d (a + 1) 0 D where
  at0 := h.at0
  only := h.only
  low := h.low
  step := h.step
  pair := fun y z hy hz hl => h.pair y z hy hz (by omega)
  back := h.back
theorem IsMid.done {n : Nat} {J : Nat → Nat → Bool} {x d : Nat} {D : Nat → Int} (h : IsMid n J x d n 0 D) : IsPart n J x (d + 1) D where
  at0 := h.at0
  only := h.only
  low := fun y hy => ⟨(h.low y hy).1, by have := (h.low y hy).2; omega⟩
  step := fun y z hy hz h0 hd hj => by
    by_cases e : D y = d
    · have h1 := h.pair y z hy hz (.inl (by omega)) e hj
      have h2 := h.low z hz
      omega
    · exact h.step y z hy hz h0 (by omega) hj
  back := h.back
theorem IsMid.skip {n : Nat} {J : Nat → Nat → Bool} {x d a b : Nat} {D : Nat → Int} (h : IsMid n J x d a b D) (hn : ¬ (D a = d ∧ D b < 0 ∧ J a b = true)) : IsMid n J x d a (b + 1) D where
  at0 := h.at0
  only := h.only
  low := h.low
  step := h.step
  pair := fun y z hy hz hl hd hj => by
    by_cases e : y = a ∧ z = b
    · obtain ⟨rfl, rfl⟩ := e
      apply Classical.byContradiction
      intro h0
      exact hn ⟨hd, by omega, hj⟩
    · exact h.pair y z hy hz (by omega) hd hj
  back := h.back
theorem IsMid.put {n : Nat} {J : Nat → Nat → Bool} {x d a b : Nat} {D : Nat → Int} (h : IsMid n J x d a b D) (ha : a < n) (hd : D a = d) (hb : D b < 0) (hj : J a b = true) :
    IsMid n J x d a (b + 1) (fun y => if y = b then (d : Int) + 1 else D y) where
  at0 := by
    have := h.at0
    rw [if_neg (by intro e; subst e; omega)]; exact this
  only := fun y hy e => by
    by_cases eb : y = b
    · rw [if_pos eb] at e; omega
    · rw [if_neg eb] at e; exact h.only y hy e
  low := fun y hy => by
    by_cases eb : y = b
    · rw [if_pos eb]; omega
    · rw [if_neg eb]; exact h.low y hy
  step := fun y z hy hz h0 hlt hyz => by
    by_cases ey : y = b
    · rw [if_pos ey] at hlt; omega
    · rw [if_neg ey] at h0 hlt ⊢
      have := h.step y z hy hz h0 hlt hyz
      by_cases ez : z = b
      · subst ez; omega
      · rw [if_neg ez]; exact this
  pair := fun y z hy hz hl hyd hyz => by
    by_cases ez : z = b
    · rw [if_pos ez]; omega
    · rw [if_neg ez]
      by_cases ey : y = b
      · rw [if_pos ey] at hyd; omega
      · rw [if_neg ey] at hyd
        exact h.pair y z hy hz (by omega) hyd hyz
  back := fun z hz h0 => by
    by_cases ez : z = b
    · subst ez
      rw [if_pos rfl]
      exact ⟨a, ha, by rw [if_neg (by intro e; subst e; omega)]; omega, hj⟩
    · rw [if_neg ez] at h0 ⊢
      obtain ⟨y, hy, ey, hyz⟩ := h.back z hz h0
      exact ⟨y, hy, by rw [if_neg (by intro e; subst e; omega)]; exact ey, hyz⟩

/-- a queue: the nodes of Q are found, and what they lead to is still to be looked at -/
structure IsBfs (n : Nat) (J : Nat → Nat → Bool) (x : Nat) (D : Nat → Int) (Q : List Nat) : Prop where
  at0 : D x = 0
  only : ∀ y, y < n → D y = 0 → y = x
  low : ∀ y, y < n → -1 ≤ D y
  back : ∀ z, z < n → 0 < D z → ∃ y, y < n ∧ D y = D z - 1 ∧ J y z = true
  inq : ∀ q, q ∈ Q → q < n ∧ 0 ≤ D q
  sorted : Q.Pairwise fun a b => D a ≤ D b
  top : ∀ q, q ∈ Q → ∀ y, y < n → D y ≤ D q + 1
  step : ∀ y z, y < n → z < n → 0 ≤ D y → y ∉ Q → J y z = true → 0 ≤ D z ∧ D z ≤ D y + 1
theorem IsBfs.start {n : Nat} (J : Nat → Nat → Bool) {x : Nat} (hx : x < n) (D : Nat → Int) (h0 : D x = 0) (h1 : ∀ y, y < n → y ≠ x → D y = -1) : IsBfs n J x D [x] where
  at0 := h0
  only := fun y hy e => by
    apply Classical.byContradiction
    intro hne
    have := h1 y hy hne
    omega
  low := fun y hy => by
    by_cases e : y = x
    · subst e; omega
    · have := h1 y hy e; omega
  back := fun z hz h => by
    by_cases e : z = x
    · subst e; omega
    · have := h1 z hz e; omega
  inq := fun q hq => by simp at hq; subst hq; exact ⟨hx, by omega⟩
  sorted := by simp
  top := fun q hq y hy => by
    simp at hq; subst hq
    by_cases e : y = q
    · subst e; omega
    · have := h1 y hy e; omega
  step := fun y z hy hz h hq _ => by
    by_cases e : y = x
    · subst e; simp at hq
    · have := h1 y hy e; omega
theorem IsBfs.done {n : Nat} {J : Nat → Nat → Bool} {x : Nat} {D : Nat → Int} (h : IsBfs n J x D []) : IsDist n J x D where
  at0 := h.at0
  only := h.only
  low := h.low
  back := h.back
  step := fun y z hy hz h0 hj => h.step y z hy hz h0 (by simp) hj
/-- node a is being looked at, the nodes less than b are done -/
structure IsLook (n : Nat) (J : Nat → Nat → Bool) (x a b : Nat) (D : Nat → Int) (Q : List Nat) : Prop where
  at0 : D x = 0
  only : ∀ y, y < n → D y = 0 → y = x
  low : ∀ y, y < n → -1 ≤ D y
  back : ∀ z, z < n → 0 < D z → ∃ y, y < n ∧ D y = D z - 1 ∧ J y z = true
  inq : ∀ q, q ∈ Q → q < n ∧ D a ≤ D q
  sorted : Q.Pairwise fun a b => D a ≤ D b
  top : ∀ y, y < n → D y ≤ D a + 1
  here : a < n ∧ 0 ≤ D a
  step : ∀ y z, y < n → z < n → 0 ≤ D y → y ∉ Q → y ≠ a → J y z = true → 0 ≤ D z ∧ D z ≤ D y + 1
  seen : ∀ z, z < n → z < b → J a z = true → 0 ≤ D z
theorem IsBfs.look {n : Nat} {J : Nat → Nat → Bool} {x a : Nat} {D : Nat → Int} {Q : List Nat} (h : IsBfs n J x D (a :: Q)) : IsLook n J x a 0 D Q where
  at0 := h.at0
  only := h.only
  low := h.low
  back := h.back
  inq := fun q hq => ⟨(h.inq q (by simp [hq])).1, (List.pairwise_cons.1 h.sorted).1 q hq⟩
  sorted := (List.pairwise_cons.1 h.sorted).2
  top := h.top a (by simp)
  here := h.inq a (by simp)
  step := fun y z hy hz h0 hq ha hj => h.step y z hy hz h0 (by simp [ha, hq]) hj
  seen := fun z _ hb => by omega
theorem IsLook.done {n : Nat} {J : Nat → Nat → Bool} {x a : Nat} {D : Nat → Int} {Q : List Nat} (h : IsLook n J x a n D Q) : IsBfs n J x D Q where
  at0 := h.at0
  only := h.only
  low := h.low
  back := h.back
  inq := fun q hq => ⟨(h.inq q hq).1, by have := (h.inq q hq).2; have := h.here.2; omega⟩
  sorted := h.sorted
  top := fun q hq y hy => by have := (h.inq q hq).2; have := h.top y hy; omega
  step := fun y z hy hz h0 hq hj => by
    by_cases e : y = a
    · subst e; exact ⟨h.seen z hz hz hj, h.top z hz⟩
    · exact h.step y z hy hz h0 hq e hj
theorem IsLook.skip {n : Nat} {J : Nat → Nat → Bool} {x a b : Nat} {D : Nat → Int} {Q : List Nat} (h : IsLook n J x a b D Q) (hn : ¬ (J a b = true ∧ D b < 0)) : IsLook n J x a (b + 1) D Q where
  at0 := h.at0
  only := h.only
  low := h.low
  back := h.back
  inq := h.inq
  sorted := h.sorted
  top := h.top
  here := h.here
  step := h.step
  seen := fun z hz hb hj => by
    by_cases e : z = b
    · subst e
      apply Classical.byContradiction
      intro h0
      exact hn ⟨hj, by omega⟩
    · exact h.seen z hz (by omega) hj
theorem IsLook.put {n : Nat} {J : Nat → Nat → Bool} {x a b : Nat} {D : Nat → Int} {Q : List Nat} (h : IsLook n J x a b D Q) (hb : b < n) (hj : J a b = true) (h0 : D b < 0) :
    IsLook n J x a (b + 1) (fun y => if y = b then D a + 1 else D y) (Q ++ [b]) := by
  have hab : a ≠ b := by intro e; subst e; have := h.here.2; omega
  have hxb : x ≠ b := by intro e; subst e; have := h.at0; omega
  have hQ : ∀ q, q ∈ Q → q ≠ b := fun q hq e => by subst e; have := (h.inq q hq).2; have := h.here.2; omega
  constructor
  · rw [if_neg hxb]; exact h.at0
  · intro y hy e
    by_cases eb : y = b
    · rw [if_pos eb] at e; have := h.here.2; omega
    · rw [if_neg eb] at e; exact h.only y hy e
  · intro y hy
    by_cases eb : y = b
    · rw [if_pos eb]; have := h.here.2; omega
    · rw [if_neg eb]; exact h.low y hy
  · intro z hz hp
    by_cases ez : z = b
    · subst ez
      refine ⟨a, h.here.1, ?_, hj⟩
      rw [if_neg hab, if_pos rfl]; omega
    · rw [if_neg ez] at hp ⊢
      obtain ⟨y, hy, ey, hyz⟩ := h.back z hz hp
      exact ⟨y, hy, by rw [if_neg (by intro e; subst e; omega)]; exact ey, hyz⟩
  · intro q hq
    rw [if_neg hab]
    rcases List.mem_append.1 hq with hq | hq
    · rw [if_neg (hQ q hq)]; exact h.inq q hq
    · simp at hq; subst hq; rw [if_pos rfl]; exact ⟨hb, by omega⟩
  · rw [List.pairwise_append]
    refine ⟨?_, by simp, ?_⟩
    · refine h.sorted.imp_of_mem ?_
      intro p q hp hq hpq
      rw [if_neg (hQ p hp), if_neg (hQ q hq)]; exact hpq
    · intro p hp q hq
      simp at hq; subst hq
      rw [if_neg (hQ p hp), if_pos rfl]
      exact h.top p (h.inq p hp).1
  · intro y hy
    rw [if_neg hab]
    by_cases eb : y = b
    · rw [if_pos eb]; omega
    · rw [if_neg eb]; exact h.top y hy
  · rw [if_neg hab]; exact h.here
  · intro y z hy hz hp hq hya hyz
    have hyb : y ≠ b := fun e => hq (by simp [e])
    rw [if_neg hyb] at hp ⊢
    have := h.step y z hy hz hp (fun hh => hq (by simp [hh])) hya hyz
    by_cases ez : z = b
    · subst ez; omega
    · rw [if_neg ez]; exact this
  · intro z hz hzb hyz
    by_cases ez : z = b
    · rw [if_pos ez]; have := h.here.2; omega
    · rw [if_neg ez]; exact h.seen z hz (by omega) hyz
end Go.Proofs.Ytbbgbepemnmfdaa.P2
