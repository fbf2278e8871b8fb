/- What toggling an edge does to a list of edges in order; and the contracts of l1Least and l1Most. -/
import Derived.Test.YtcnfeijniidclaaTogg
import Derived.Test.YtcnfeijniidclaaPut
namespace Go.Proofs.Ytcnfeijniidclaa.togg
open Go.RowKit P2 words edges ints good near adjs fns rets mids nearv apps put

theorem l1Least_any (a b : Int) (w : World) : Calls Try.prog 62 #[.int .i64 a, .int .i64 b] w fun e w' => e = .returned (.int .i64 (min a b)) ∧ w = w' := by
  by_cases h : a < b
  · have hm : Hid (min a b = a) := Int.min_eq_left (by omega)
    go_enter Try.func62, Try.ntmps62
    go_wp2_with fail
    go_ret
    exact ⟨ret_int hm.out.symm, rfl⟩
  · have hm : Hid (min a b = b) := Int.min_eq_right (by omega)
    go_enter Try.func62, Try.ntmps62
    go_wp2_with fail
    go_ret
    exact ⟨ret_int hm.out.symm, rfl⟩
theorem l1Most_any (a b : Int) (w : World) : Calls Try.prog 63 #[.int .i64 a, .int .i64 b] w fun e w' => e = .returned (.int .i64 (max a b)) ∧ w = w' := by
  by_cases h : b < a
  · have hm : Hid (max a b = a) := Int.max_eq_left (by omega)
    go_enter Try.func63, Try.ntmps63
    go_wp2_with fail
    go_ret
    exact ⟨ret_int hm.out.symm, rfl⟩
  · have hm : Hid (max a b = b) := Int.max_eq_right (by omega)
    go_enter Try.func63, Try.ntmps63
    go_wp2_with fail
    go_ret
    exact ⟨ret_int hm.out.symm, rfl⟩

/-- the first k edges but e -/
def butE (l : List Ed) (e : Ed) (k : Nat) : List Ed := (l.take k).filter fun x => !(x.1 == e.1 && x.2 == e.2)
theorem butE_zero (l : List Ed) (e : Ed) : butE l e 0 = [] := rfl
theorem butE_succ {l : List Ed} {e x : Ed} {k : Nat} (h : l[k]? = some x) : butE l e (k + 1) = butE l e k ++ (if (x.1 == e.1 && x.2 == e.2) = true then [] else [x]) := by
  unfold butE
  rw [List.take_add_one, h, List.filter_append]
  congr 1
  cases hh : (x.1 == e.1 && x.2 == e.2)
  · rw [Option.toList_some, List.filter_cons_of_pos (by simp [hh])]; rfl
  · rw [Option.toList_some, List.filter_cons_of_neg (by simp [hh])]; rfl
theorem butE_len (l : List Ed) (e : Ed) (k : Nat) : (butE l e k).length ≤ k := by
  unfold butE
  refine Nat.le_trans (List.length_filter_le _ _) ?_
  rw [List.length_take]; omega
theorem butE_mem {l : List Ed} {e x : Ed} : x ∈ butE l e l.length ↔ x ∈ l ∧ x ≠ e := by
  unfold butE
  rw [List.take_length, List.mem_filter]
  have : (!(x.1 == e.1 && x.2 == e.2)) = true ↔ x ≠ e := by
    rw [Bool.not_eq_true', ← Bool.not_eq_true, Bool.and_eq_true, beq_iff_eq, beq_iff_eq, ne_eq, Prod.ext_iff]
  rw [this]
theorem butE_sorted {l : List Ed} {e : Ed} (h : l.Pairwise Lex) (k : Nat) : (butE l e k).Pairwise Lex := (h.sublist (List.take_sublist _ _)).sublist (List.filter_sublist)
theorem butE_all {l : List Ed} {e : Ed} (h : e ∉ l) : butE l e l.length = l := by
  unfold butE
  rw [List.take_length, List.filter_eq_self]
  intro x hx
  have : x ≠ e := fun hh => h (hh ▸ hx)
  rw [Bool.not_eq_true', ← Bool.not_eq_true, Bool.and_eq_true, beq_iff_eq, beq_iff_eq]
  exact fun hh => this (Prod.ext hh.1 hh.2)
theorem butE_less {l : List Ed} {e : Ed} (h : e ∈ l) : (butE l e l.length).length < l.length := by
  unfold butE
  rw [List.take_length]
  refine Nat.lt_of_le_of_ne (List.length_filter_le _ _) fun hh => ?_
  have := List.length_filter_eq_length_iff.1 hh e h
  simp at this
theorem niff {P Q : Prop} : ¬ (P ↔ Q) ↔ (P ∧ ¬ Q) ∨ (¬ P ∧ Q) := by by_cases hp : P <;> by_cases hq : Q <;> simp [hp, hq]
theorem mem_togg {n : Nat} {l : List Ed} {x y : Int} (h : TogOk n l x y) (e : Ed) : e ∈ toggL n l x y ↔ ((e ∈ l ∧ e ≠ (min x y, max x y)) ∨ (e ∉ l ∧ e = (min x y, max x y))) := by
  obtain ⟨hg, hx, hy, hne⟩ := h
  have h1 : 0 ≤ min x y ∧ min x y < max x y ∧ max x y < n := by omega
  unfold toggL
  simp only [Int.toNat_natCast]
  generalize min x y = lo at *
  generalize max x y = hi at *
  have key : ∀ a z : Nat, a < z → (toggJ l lo hi a z = true ↔ ((((a : Int), (z : Int)) ∈ l ∧ ((a : Int), (z : Int)) ≠ (lo, hi)) ∨ (((a : Int), (z : Int)) ∉ l ∧ ((a : Int), (z : Int)) = (lo, hi)))) := fun a z haz => by
    unfold toggJ
    rw [adj_lt hg (by omega), show (((a : Int) == lo) && ((z : Int) == hi)) = decide (((a : Int), (z : Int)) = (lo, hi)) from by rw [Bool.eq_iff_iff]; simp]
    simp only [bne_iff_ne, ne_eq, decide_eq_decide]
    exact niff
  rw [mem_gw]
  constructor
  · rintro ⟨a, z, haz, hz, hJ, rfl⟩
    exact (key a z haz).1 hJ
  · intro hh
    have hm : 0 ≤ e.1 ∧ e.1 < e.2 ∧ e.2 < (n : Int) := by
      rcases hh with ⟨h2, _⟩ | ⟨_, h2⟩
      · exact hg.mem h2
      · rw [h2]; exact h1
    obtain ⟨a, ha⟩ : ∃ a : Nat, e.1 = (a : Int) := ⟨e.1.toNat, by omega⟩
    obtain ⟨z, hz⟩ : ∃ z : Nat, e.2 = (z : Int) := ⟨e.2.toNat, by omega⟩
    have he : e = ((a : Int), (z : Int)) := Prod.ext ha hz
    subst he
    exact ⟨a, z, by simp only at hm; omega, by simp only at hm; omega, (key a z (by simp only at hm; omega)).2 hh, rfl⟩
theorem togg_in {n : Nat} {l : List Ed} {x y : Int} (h : TogOk n l x y) (he : (min x y, max x y) ∈ l) : toggL n l x y = butE l (min x y, max x y) l.length :=
  sorted_ext (gwTo_sorted _ _ _) (butE_sorted h.1.sorted _) fun e => by
    rw [mem_togg h, butE_mem]
    constructor
    · rintro (h1 | ⟨h1, h2⟩)
      · exact h1
      · exact absurd (h2 ▸ he) h1
    · exact Or.inl
theorem togg_out {n : Nat} {l L : List Ed} {x y : Int} (h : TogOk n l x y) (he : (min x y, max x y) ∉ l) (hL : PutIs l (min x y, max x y) L) : toggL n l x y = L :=
  sorted_ext (gwTo_sorted _ _ _) (hL.sorted h.1.sorted he) fun e => by
    rw [mem_togg h, hL.mem]
    constructor
    · rintro (h1 | ⟨h1, h2⟩)
      · exact .inr h1.1
      · exact .inl h2
    · rintro (h1 | h1)
      · exact .inr ⟨h1 ▸ he, h1⟩
      · exact .inl ⟨h1, fun hh => he (hh ▸ h1)⟩

end Go.Proofs.Ytcnfeijniidclaa.togg
