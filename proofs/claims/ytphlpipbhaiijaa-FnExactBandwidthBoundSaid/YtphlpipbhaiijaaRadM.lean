/- The radius, by distances; connected by parts. -/
import Derived.Test.YtphlpipbhaiijaaPartM
import Derived.Test.YtphlpipbhaiijaaDistM
import Derived.Test.YtphlpipbhaiijaaGood
namespace Go.Proofs.Ytphlpipbhaiijaa.rad
open Go.RowKit P2 words edges ints good fns sets covs reach
set_option linter.unusedVariables false

/-- reached just if a distance is told -/
theorem rch_dist {n : Nat} {J : Nat → Nat → Bool} {x z : Nat} (hx : x < n) (hz : z < n) : Rch n J (fun _ => true) x z ↔ 0 ≤ fn (dist n J x) z := by
  have hd := (dist_spec J hx).2
  constructor
  · intro h
    induction h with
    | base => rw [hd.at0]; exact Int.le_refl _
    | step ha hJ _ hb ih =>
      have hal := ha.lt hx
      exact (hd.step _ _ hal hb (ih hal) hJ).1
  · intro h
    have key : ∀ (k : Nat) z, z < n → fn (dist n J x) z = (k : Int) → Rch n J (fun _ => true) x z := by
      intro k
      induction k with
      | zero => intro z hz e; rw [hd.only z hz e]; exact .base
      | succ k ih =>
        intro z hz e
        obtain ⟨y, hy, ey, hJ⟩ := hd.back z hz (by omega)
        exact .step (ih y hy (by omega)) hJ rfl hz
    exact key (fn (dist n J x) z).toNat z hz (by omega)
theorem Rch.symm {n : Nat} {J : Nat → Nat → Bool} (hJ : ∀ a b, J a b = J b a) {x z : Nat} (hx : x < n) (h : Rch n J (fun _ => true) x z) : Rch n J (fun _ => true) z x := by
  induction h with
  | base => exact .base
  | step ha hj _ hb ih =>
    exact (Rch.step .base (by rw [hJ]; exact hj) rfl (ha.lt hx)).trans ih
theorem two_le {α : Type} {a b : α} {L : List α} (ha : a ∈ L) (hb : b ∈ L) (h : a ≠ b) : 2 ≤ L.length := by
  match L, ha, hb with
  | [c], ha, hb => simp at ha hb; exact absurd (ha.trans hb.symm) h
  | _ :: _ :: _, _, _ => simp
/-- at most one part -/
def Whole (n : Nat) (J : Nat → Nat → Bool) : Prop := (partsL n J (fun _ => true)).length ≤ 1
theorem whole_from {n : Nat} {J : Nat → Nat → Bool} (h : Whole n J) : ∀ y, y < n → Rch n J (fun _ => true) 0 y := by
  intro y
  induction y using Nat.strongRecOn with
  | ind y ih =>
    intro hy
    by_cases h0 : y = 0
    · subst h0; exact .base
    · cases hl : leastB n J (fun _ => true) y with
      | true =>
        exfalso
        unfold Whole partsL partsT at h
        rw [List.take_length, List.length_map] at h
        have hm : ∀ z, z < n → leastB n J (fun _ => true) z = true → (z : Int) ∈ (nw (fun _ => true) n).filter fun y => leastB n J (fun _ => true) y.toNat := fun z hz hl => by
          rw [List.mem_filter]
          exact ⟨mem_nw.2 ⟨z, hz, rfl, rfl⟩, by simpa using hl⟩
        have := two_le (hm 0 (by omega) (leastB_iff.2 fun z hz => by omega)) (hm y hy hl) (by omega)
        omega
      | false =>
        have hn : ¬ ∀ z, z < y → true = true → ¬ Rch n J (fun _ => true) z y := fun hh => by
          rw [leastB_iff.2 hh] at hl; cases hl
        have hn2 : ∃ z, z < y ∧ Rch n J (fun _ => true) z y := by
          apply Classical.byContradiction
          intro hh
          exact hn fun z hz _ hr => hh ⟨z, hz, hr⟩
        obtain ⟨z, hz, hr⟩ := hn2
        exact (ih z hz (by omega)).trans hr
theorem whole_of {n : Nat} {J : Nat → Nat → Bool} (h : ∀ y, y < n → Rch n J (fun _ => true) 0 y) : Whole n J := by
  unfold Whole partsL partsT
  rw [List.take_length, List.length_map]
  have ha : Asc ((nw (fun _ => true) n).filter fun y => leastB n J (fun _ => true) y.toNat) := (nw_asc _ _).sublist List.filter_sublist
  have h0 : ∀ y ∈ (nw (fun _ => true) n).filter fun y => leastB n J (fun _ => true) y.toNat, y = 0 := fun y hy => by
    obtain ⟨h1, h2⟩ := List.mem_filter.1 hy
    obtain ⟨z, hz, _, rfl⟩ := mem_nw.1 h1
    rw [Int.toNat_natCast] at h2
    apply Classical.byContradiction
    intro hne
    exact leastB_iff.1 h2 0 (by omega) rfl (h z hz)
  generalize ((nw (fun _ => true) n).filter fun y => leastB n J (fun _ => true) y.toNat) = L at *
  match L, ha, h0 with
  | [], _, _ => simp
  | [_], _, _ => simp
  | a :: b :: L, ha, h0 =>
    have h1 := h0 a (by simp)
    have h2 := h0 b (by simp)
    have h3 : a < b := (List.pairwise_cons.1 ha).1 b (by simp)
    omega
theorem whole_dist {n : Nat} {J : Nat → Nat → Bool} (hJ : ∀ a b, J a b = J b a) (hn : 0 < n) (h : Whole n J) {x y : Nat} (hx : x < n) (hy : y < n) : 0 ≤ fn (dist n J x) y :=
  (rch_dist hx hy).1 ((Rch.symm hJ hn (whole_from h x hx)).trans (whole_from h y hy))
theorem not_whole {n : Nat} {J : Nat → Nat → Bool} (hn : 0 < n) (h : ¬ Whole n J) : ∃ y, y < n ∧ fn (dist n J 0) y = -1 := by
  apply Classical.byContradiction
  intro hh
  refine h (whole_of fun y hy => (rch_dist hn hy).2 ?_)
  apply Classical.byContradiction
  intro h1
  have := (dist_lt J hn hy).1
  exact hh ⟨y, hy, by omega⟩

/-- all nodes are within r of one -/
def Near9 (n : Nat) (J : Nat → Nat → Bool) (x : Nat) (r : Int) : Prop := ∀ y, y < n → fn (dist n J x) y ≤ r
def Some9 (n : Nat) (J : Nat → Nat → Bool) (r : Int) : Prop := ∃ x, x < n ∧ Near9 n J x r
noncomputable def radV (n : Nat) (J : Nat → Nat → Bool) : Nat := ((List.range n).find? fun r : Nat => @decide (Some9 n J (r : Int)) (Classical.propDecidable _)).getD 0
theorem rad_eq {n R : Nat} {J : Nat → Nat → Bool} (hR : R < n) (h : Some9 n J (R : Int)) (h0 : ∀ r : Nat, r < R → ¬ Some9 n J (r : Int)) : radV n J = R := by
  have : (List.range n).find? (fun r : Nat => @decide (Some9 n J (r : Int)) (Classical.propDecidable _)) = some R := by
    rw [List.find?_range_eq_some]
    refine ⟨@decide_eq_true _ (Classical.propDecidable _) h, by simpa using hR, fun j hj => ?_⟩
    rw [@decide_eq_false _ (Classical.propDecidable _) (h0 j hj)]
    rfl
  unfold radV
  rw [this]; rfl
theorem some_last {n : Nat} {J : Nat → Nat → Bool} (hn : 0 < n) : Some9 n J ((n : Int) - 1) := ⟨0, hn, fun y hy => by have := (dist_lt J hn hy).2; omega⟩
/-- the program's way: the least of the greatest -/
def RadTo (n : Nat) (J : Nat → Nat → Bool) (k : Nat) (rad : Int) : Prop :=
  rad ≤ n ∧ (∀ x, x < k → ∃ y, y < n ∧ rad ≤ fn (dist n J x) y) ∧ (rad = n ∨ ∃ x, x < k ∧ Near9 n J x rad)
def MaxIs (xs : List Int) (M : Int) : Prop := (∀ y ∈ xs, y ≤ M) ∧ M ∈ xs
theorem RadTo.zero (n : Nat) (J : Nat → Nat → Bool) : RadTo n J 0 (n : Int) := ⟨Int.le_refl _, fun x hx => by omega, .inl rfl⟩
theorem dist_val {n : Nat} {J : Nat → Nat → Bool} {x : Nat} {M : Int} (hx : x < n) (h : M ∈ dist n J x) : ∃ y, y < n ∧ fn (dist n J x) y = M := by
  obtain ⟨y, hy⟩ := List.mem_iff_getElem?.1 h
  exact ⟨y, by have := (List.getElem?_eq_some_iff.1 hy).1; rw [dist_len J hx] at this; exact this, fn_at hy⟩
theorem dist_in {n : Nat} {J : Nat → Nat → Bool} {x y : Nat} (hx : x < n) (hy : y < n) : fn (dist n J x) y ∈ dist n J x :=
  List.mem_of_getElem? (fn_get (by rw [dist_len J hx]; exact hy))
theorem RadTo.succ {n : Nat} {J : Nat → Nat → Bool} {k : Nat} {rad M : Int} (h : RadTo n J k rad) (hk : k < n) (hM : MaxIs (dist n J k) M) : RadTo n J (k + 1) (min rad M) := by
  obtain ⟨h1, h2, h3⟩ := h
  obtain ⟨y0, hy0, ey0⟩ := dist_val hk hM.2
  have hnear : Near9 n J k M := fun y hy => hM.1 _ (dist_in hk hy)
  refine ⟨by omega, fun x hx => ?_, ?_⟩
  · by_cases e : x = k
    · subst e; exact ⟨y0, hy0, by omega⟩
    · obtain ⟨y, hy, hle⟩ := h2 x (by omega)
      exact ⟨y, hy, by omega⟩
  · by_cases e : rad ≤ M
    · rw [Int.min_eq_left e]
      rcases h3 with h3 | ⟨x, hx, h3⟩
      · exact .inl h3
      · exact .inr ⟨x, by omega, h3⟩
    · rw [Int.min_eq_right (by omega)]
      exact .inr ⟨k, by omega, hnear⟩
theorem RadTo.all {n : Nat} {J : Nat → Nat → Bool} {rad : Int} (h : RadTo n J n rad) (hn : 0 < n) : rad = (radV n J : Int) := by
  obtain ⟨h1, h2, h3⟩ := h
  obtain ⟨y0, hy0, hle⟩ := h2 0 hn
  have hlt := (dist_lt J hn hy0).2
  rcases h3 with h3 | ⟨x, hx, h3⟩
  · omega
  · have hx0 := h3 x hx
    rw [(dist_spec J hx).2.at0] at hx0
    obtain ⟨R, rfl⟩ : ∃ R : Nat, rad = (R : Int) := ⟨rad.toNat, by omega⟩
    rw [rad_eq (by omega) ⟨x, hx, h3⟩ fun r hr ⟨x', hx', hh⟩ => by
      obtain ⟨y, hy, hy2⟩ := h2 x' hx'
      have := hh y hy
      omega]
/-- the ball of a node has all nodes -/
theorem ball_all {n : Nat} {J : Nat → Nat → Bool} {x : Nat} {r : Int} (hx : x < n) (h0 : ∀ y, y < n → 0 ≤ fn (dist n J x) y) : ((nw (fun y => inB (fn (dist n J x) y) 0 r) n).length = n) ↔ Near9 n J x r := by
  constructor
  · intro h y hy
    apply Classical.byContradiction
    intro hh
    have hp : inB (fn (dist n J x) y) 0 r = false := by simp [inB]; omega
    have h1 := pput_len (p := fun y => inB (fn (dist n J x) y) 0 r) (y := y) hp n
    rw [if_pos hy, h] at h1
    have := nw_len (pput (fun y => inB (fn (dist n J x) y) 0 r) y) n
    omega
  · intro h
    have e : nw (fun y => inB (fn (dist n J x) y) 0 r) n = nw (fun _ => true) n := reach.nw_congr fun z hz => by
      have h1 := h z hz
      have h2 := h0 z hz
      simp [inB]; omega
    rw [e]
    unfold nw
    rw [List.filter_eq_self.2 (fun _ _ => rfl)]
    simp
end Go.Proofs.Ytphlpipbhaiijaa.rad
