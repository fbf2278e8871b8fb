/- The bags of a layout: plain mathematics. -/
import Derived.Test.YtbjcfjgoedpgdaaFrontM
import Derived.Test.YtbjcfjgoedpgdaaElimM
namespace Go.Proofs.Ytbjcfjgoedpgdaa.fronts
open Go.RowKit P2 words edges ints fns sets covs reach bags each
set_option linter.unusedVariables false

/-- the bag of a place of a layout: its node, and the front of those ahead of it -/
noncomputable def lbB (n : Nat) (l : List Ed) (tl : List Int) (i : Nat) : Nat → Bool := pput (frontB l n (goneB (tl.take i))) (tl.getD i 0).toNat
noncomputable def lbT (n : Nat) (l : List Ed) (tl : List Int) (i : Nat) : List Int := nw (lbB n l tl i) n
noncomputable def lbK (n : Nat) (l : List Ed) (tl : List Int) (k : Nat) : List (List Int) := (List.range k).map (lbT n l tl)
theorem lbK_len (n : Nat) (l : List Ed) (tl : List Int) (k : Nat) : (lbK n l tl k).length = k := by simp [lbK]
theorem lbK_at {n : Nat} {l : List Ed} {tl : List Int} {k i : Nat} (h : i < k) : (lbK n l tl k)[i]? = some (lbT n l tl i) := by simp [lbK, h]
theorem lbK_succ (n : Nat) (l : List Ed) (tl : List Int) (k : Nat) : lbK n l tl (k + 1) = lbK n l tl k ++ [lbT n l tl k] := by simp [lbK, List.range_succ]
noncomputable def lbR (n : Nat) (l : List Ed) (tl : List Int) (k : Nat) : List (List Int) := lbK n l tl k ++ List.replicate (n - k) []
theorem lbR_zero (n : Nat) (l : List Ed) (tl : List Int) : lbR n l tl 0 = List.replicate n [] := by simp [lbR, lbK]
theorem lbR_len (n : Nat) (l : List Ed) (tl : List Int) {k : Nat} (h : k ≤ n) : (lbR n l tl k).length = n := by simp [lbR, lbK_len]; omega
theorem lbR_all (n : Nat) (l : List Ed) (tl : List Int) : lbR n l tl n = lbK n l tl n := by simp [lbR]
theorem lbR_succ (n : Nat) (l : List Ed) (tl : List Int) {k : Nat} (h : k < n) : (lbR n l tl k).set k (lbT n l tl k) = lbR n l tl (k + 1) := by
  unfold lbR
  rw [show n - k = (n - (k + 1)) + 1 from by omega, List.replicate_succ, List.set_append_right _ _ (by rw [lbK_len]; exact Nat.le_refl _), lbK_len, Nat.sub_self, List.set_cons_zero, lbK_succ, List.append_assoc]
  rfl
theorem sum_le {rows : List (List Int)} {m : Nat} (h : ∀ r ∈ rows, r.length ≤ m) : (rows.map List.length).sum ≤ rows.length * m := by
  induction rows with
  | nil => simp
  | cons r rs ih =>
    rw [List.map_cons, List.sum_cons, List.length_cons, Nat.succ_mul]
    have h1 := h r (by simp)
    have h2 := ih (fun x hx => h x (by simp [hx]))
    omega
theorem lbK_sum {n : Nat} (l : List Ed) (tl : List Int) (k : Nat) (hn : n ≤ 8) (hk : k ≤ 8) : ((lbK n l tl k).map List.length).sum ≤ 64 := by
  refine Nat.le_trans (sum_le (m := 8) fun r hr => ?_) ?_
  · unfold lbK at hr
    obtain ⟨i, _, rfl⟩ := List.mem_map.1 hr
    exact Nat.le_trans (nw_len _ _) hn
  · rw [lbK_len]; omega
/-- as numbers -/
noncomputable def lbN (n : Nat) (l : List Ed) (tl : List Int) (i : Nat) : Nat := numOf (lbB n l tl i) n
noncomputable def lbU (n : Nat) (l : List Ed) (tl : List Int) (k : Nat) : List Nat := (List.range k).map (lbN n l tl) ++ List.replicate (n - k) 0
theorem lbU_len (n : Nat) (l : List Ed) (tl : List Int) {k : Nat} (h : k ≤ n) : (lbU n l tl k).length = n := by simp [lbU]; omega
theorem lbU_zero (n : Nat) (l : List Ed) (tl : List Int) : lbU n l tl 0 = List.replicate n 0 := by simp [lbU]
theorem lbU_succ (n : Nat) (l : List Ed) (tl : List Int) {k : Nat} (h : k < n) : (lbU n l tl k).set k (lbN n l tl k) = lbU n l tl (k + 1) := by
  unfold lbU
  rw [show n - k = (n - (k + 1)) + 1 from by omega, List.replicate_succ, List.set_append_right _ _ (by simp), List.length_map, List.length_range, Nat.sub_self, List.set_cons_zero, List.range_succ, List.map_append, List.append_assoc]
  rfl
theorem lbU_at {n : Nat} {l : List Ed} {tl : List Int} {k i : Nat} (h : i < k) : (lbU n l tl k)[i]? = some (lbN n l tl i) := by
  unfold lbU
  rw [List.getElem?_append_left (by simp; exact h)]
  simp [h]
theorem lbN_lt (n : Nat) (l : List Ed) (tl : List Int) (i : Nat) (hn : n ≤ 8) : lbN n l tl i < 256 := numOf_lt _ hn

theorem each_at {n : Nat} {tl : List Int} (he : EachS n tl) {x : Nat} (hx : x < n) : ∃ p, p < n ∧ tl[p]? = some (x : Int) := by
  obtain ⟨p, hp⟩ := List.getElem?_of_mem (he.2 x hx)
  exact ⟨p, by have := (List.getElem?_eq_some_iff.1 hp).1; have := he.1; omega, hp⟩
theorem take_at {tl : List Int} {k : Nat} {x : Int} (h : x ∈ tl.take k) : ∃ j, j < k ∧ tl[j]? = some x := by
  obtain ⟨j, hj⟩ := List.getElem?_of_mem h
  rw [List.getElem?_take] at hj
  split at hj
  · rename_i hk; exact ⟨j, hk, hj⟩
  · cases hj
theorem at_take {tl : List Int} {j k : Nat} {x : Int} (h : tl[j]? = some x) (hj : j < k) : x ∈ tl.take k := List.mem_of_getElem? (i := j) (by rw [List.getElem?_take, if_pos hj]; exact h)
/-- places are told by their nodes -/
theorem place_inj {n : Nat} {tl : List Int} (he : EachS n tl) {a b : Nat} {x : Int} (ha : tl[a]? = some x) (hb : tl[b]? = some x) : a = b := by
  rcases Nat.lt_trichotomy a b with h | h | h
  · exact absurd (at_take ha h) (EachS.fresh he hb)
  · exact h
  · exact absurd (at_take hb h) (EachS.fresh he ha)
theorem gone_not {n : Nat} {tl : List Int} (he : EachS n tl) {i b : Nat} {y : Nat} (hb : tl[b]? = some (y : Int)) : goneB (tl.take i) y = false ↔ i ≤ b := by
  unfold goneB
  rw [decide_eq_false_iff_not]
  constructor
  · intro h
    rcases Nat.lt_or_ge b i with hlt | hge
    · exact absurd (at_take hb hlt) h
    · exact hge
  · intro h hm
    obtain ⟨j, hj, hjy⟩ := take_at hm
    have := place_inj he hjy hb
    omega
/-- the model's way: the nodes of the first k places, and the first j neighbors of the next one -/
def LbI (n : Nat) (l : List Ed) (tl : List Int) (i k j : Nat) (p : Nat → Bool) : Prop :=
  ∀ z, z < n → (p z = true ↔ tl[i]? = some (z : Int) ∨ (∃ a, a < k ∧ tl[a]? = some (z : Int) ∧ ∃ b y, i ≤ b ∧ tl[b]? = some y ∧ adj l z y = true) ∨ (tl[k]? = some (z : Int) ∧ ∃ b y, i ≤ b ∧ b < j ∧ tl[b]? = some y ∧ adj l z y = true))
section
variable {n : Nat} {l : List Ed} {tl : List Int} {i k j : Nat} {p : Nat → Bool}
theorem LbI.start {x : Nat} (hx : tl[i]? = some (x : Int)) : LbI n l tl i 0 i (fun z => decide (z = x)) := fun z hz => by
  rw [decide_eq_true_iff, hx]
  constructor
  · rintro rfl; exact .inl rfl
  · rintro (h | ⟨a, ha, _⟩ | ⟨_, b, y, h1, h2, _⟩)
    · have : (x : Int) = (z : Int) := by simpa using h
      omega
    · omega
    · omega
theorem LbI.next (h : LbI n l tl i k tl.length p) : LbI n l tl i (k + 1) i p := fun z hz => by
  rw [h z hz]
  constructor
  · rintro (h1 | ⟨a, ha, h1⟩ | ⟨h1, b, y, h2, h3, h4, h5⟩)
    · exact .inl h1
    · exact .inr (.inl ⟨a, by omega, h1⟩)
    · exact .inr (.inl ⟨k, by omega, h1, b, y, h2, h4, h5⟩)
  · rintro (h1 | ⟨a, ha, h1, b, y, h2, h3, h4⟩ | ⟨_, b, y, h2, h3, _⟩)
    · exact .inl h1
    · by_cases e : a = k
      · subst e; exact .inr (.inr ⟨h1, b, y, h2, (List.getElem?_eq_some_iff.1 h3).1, h3, h4⟩)
      · exact .inr (.inl ⟨a, by omega, h1, b, y, h2, h3, h4⟩)
    · omega
theorem LbI.put {x : Nat} {y : Int} (h : LbI n l tl i k j p) (hx : tl[k]? = some (x : Int)) (hy : tl[j]? = some y) (hij : i ≤ j) (ha : adj l x y = true) : LbI n l tl i k (j + 1) (pput p x) := fun z hz => by
  unfold pput
  rw [Bool.or_eq_true, decide_eq_true_iff, h z hz]
  constructor
  · rintro ((h1 | h1 | ⟨h1, b, y', h2, h3, h4⟩) | rfl)
    · exact .inl h1
    · exact .inr (.inl h1)
    · exact .inr (.inr ⟨h1, b, y', h2, by omega, h4⟩)
    · exact .inr (.inr ⟨hx, j, y, hij, by omega, hy, ha⟩)
  · rintro (h1 | h1 | ⟨h1, b, y', h2, h3, h4⟩)
    · exact .inl (.inl h1)
    · exact .inl (.inr (.inl h1))
    · rw [hx] at h1
      have : (x : Int) = (z : Int) := by simpa using h1
      exact .inr (by omega)
theorem LbI.skip {x : Nat} {y : Int} (h : LbI n l tl i k j p) (hx : tl[k]? = some (x : Int)) (hy : tl[j]? = some y) (ha : adj l x y = false) : LbI n l tl i k (j + 1) p := fun z hz => by
  rw [h z hz]
  constructor
  · rintro (h1 | h1 | ⟨h1, b, y', h2, h3, h4⟩)
    · exact .inl h1
    · exact .inr (.inl h1)
    · exact .inr (.inr ⟨h1, b, y', h2, by omega, h4⟩)
  · rintro (h1 | h1 | ⟨h1, b, y', h2, h3, h4, h5⟩)
    · exact .inl h1
    · exact .inr (.inl h1)
    · refine .inr (.inr ⟨h1, b, y', h2, ?_, h4, h5⟩)
      by_cases e : b = j
      · subst e
        rw [hx] at h1; rw [hy] at h4
        have e1 : (x : Int) = (z : Int) := by simpa using h1
        cases h4
        rw [e1, h5] at ha
        cases ha
      · omega
theorem LbI.all (he : EachS n tl) (hg : P2.Good (n : Int) l) (hi : i < n) (h : LbI n l tl i i i p) : nw p n = lbT n l tl i := reach.nw_congr fun z hz => by
  obtain ⟨pz, hpz, hz2⟩ := each_at he hz
  rw [Bool.eq_iff_iff, h z hz]
  unfold lbB pput
  rw [Bool.or_eq_true, decide_eq_true_iff, frontB_iff]
  have hi0 : tl[i]? = some (z : Int) → z = (tl.getD i 0).toNat := fun h1 => (getD_at h1).symm
  constructor
  · rintro (h1 | ⟨a, ha, h1, b, y, h2, h3, h4⟩ | ⟨h1, b, y, h2, h3, _⟩)
    · exact .inr (hi0 h1)
    · have hn := (adj_node hg h4).2
      refine .inl ⟨decide_eq_true (at_take h1 ha), y.toNat, by omega, ?_, ?_⟩
      · exact (gone_not he (by rw [show ((y.toNat : Nat) : Int) = y from by omega]; exact h3)).2 h2
      · rw [show ((y.toNat : Nat) : Int) = y from by omega]; exact h4
    · omega
  · rintro (⟨h1, y, hy, h2, h3⟩ | h1)
    · obtain ⟨a, ha, h4⟩ := take_at (of_decide_eq_true h1)
      obtain ⟨b, hb, hby⟩ := each_at he hy
      exact .inr (.inl ⟨a, ha, h4, b, (y : Int), (gone_not he hby).1 h2, hby, h3⟩)
    · obtain ⟨x, hx⟩ : ∃ x, tl[i]? = some x := ⟨_, List.getElem?_eq_getElem (by rw [he.1]; exact hi)⟩
      have hr := he.range x (List.mem_of_getElem? hx)
      have h5 : (tl.getD i 0).toNat = x.toNat := by rw [List.getD_eq_getElem?_getD, hx]; rfl
      refine .inl ?_
      rw [hx, h1, h5]
      congr 1
      omega
end
end Go.Proofs.Ytbjcfjgoedpgdaa.fronts
