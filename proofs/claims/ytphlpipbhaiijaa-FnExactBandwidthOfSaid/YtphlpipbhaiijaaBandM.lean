/- Bandwidths of layouts: plain mathematics. -/
import Derived.Handy
import Derived.Test.YtphlpipbhaiijaaLaysI
namespace Go.Proofs.Ytphlpipbhaiijaa.lays
open Go.RowKit P2 words edges ints good adjs fns sets rets covs reach bags each degs bitsI func
set_option linter.unusedVariables false

/-- the place of a number in a list -/
def plc (tl : List Int) (x : Int) : Nat := tl.findIdx (fun y => decide (y = x))
theorem plc_at {tl : List Int} {x : Int} (h : x ∈ tl) : tl[plc tl x]? = some x := by
  have h1 : tl.findIdx (fun y => decide (y = x)) < tl.length := List.findIdx_lt_length_of_exists ⟨x, h, by simp⟩
  have h2 := List.findIdx_getElem (xs := tl) (p := fun y => decide (y = x)) (w := h1)
  unfold plc
  rw [List.getElem?_eq_getElem h1, of_decide_eq_true h2]
theorem nodup_inj {tl : List Int} (h : tl.Nodup) {i j : Nat} {x : Int} (hi : tl[i]? = some x) (hj : tl[j]? = some x) : i = j := by
  obtain ⟨h1, e1⟩ := List.getElem?_eq_some_iff.1 hi
  obtain ⟨h2, e2⟩ := List.getElem?_eq_some_iff.1 hj
  rw [List.Nodup, List.pairwise_iff_getElem] at h
  rcases Nat.lt_trichotomy i j with hh | hh | hh
  · exact absurd (e1.trans e2.symm) (h i j h1 h2 hh)
  · exact hh
  · exact absurd (e2.trans e1.symm) (h j i h2 h1 hh)
theorem plc_is {tl : List Int} (h : tl.Nodup) {i : Nat} {x : Int} (hi : tl[i]? = some x) : plc tl x = i := nodup_inj h (plc_at (List.mem_of_getElem? hi)) hi
/-- how far the ends of an edge are apart -/
def dE (tl : List Int) (e : Ed) : Int := max ((plc tl e.1 : Int) - (plc tl e.2 : Int)) ((plc tl e.2 : Int) - (plc tl e.1 : Int))
def bandE (l : List Ed) (tl : List Int) (k : Nat) : Int := grL ((l.take k).map (dE tl))
theorem bandE_succ {l : List Ed} {tl : List Int} {k : Nat} {e : Ed} (h : l[k]? = some e) : bandE l tl (k + 1) = max (bandE l tl k) (dE tl e) := by
  unfold bandE
  rw [List.take_add_one, h, List.map_append]
  exact grL_snoc _ _
/-- how far ahead the first neighbor of a node is -/
def clB (l : List Ed) (x : Int) (y : Int) : Bool := (cloB l x.toNat).testBit y.toNat
def bandF (l : List Ed) (tl : List Int) (k : Nat) : Int := (k : Int) - idxF (clB l (tl.getD k 0)) (tl.take (k + 1))
def bandsL (l : List Ed) (tl : List Int) (n : Nat) : List Int := (List.range n).map (bandF l tl)
theorem bandsL_len (l : List Ed) (tl : List Int) (n : Nat) : (bandsL l tl n).length = n := by simp [bandsL]
theorem first_is {p : Int → Bool} {tl : List Int} {k : Nat} {x : Int} (hk : tl[k]? = some x) (hp : p x = true) :
    ∃ i z, i ≤ k ∧ tl[i]? = some z ∧ p z = true ∧ (∀ j y, j < i → tl[j]? = some y → p y = false) ∧ idxF p (tl.take (k + 1)) = (i : Int) := by
  obtain ⟨i, ⟨hi, z, hz, hpz⟩, hmin⟩ : ∃ i, (i ≤ k ∧ ∃ z, tl[i]? = some z ∧ p z = true) ∧ ∀ j, j < i → ¬ (j ≤ k ∧ ∃ z, tl[j]? = some z ∧ p z = true) := by
    have hex : ∃ i, i ≤ k ∧ ∃ z, tl[i]? = some z ∧ p z = true := ⟨k, Nat.le_refl _, x, hk, hp⟩
    obtain ⟨i, hi⟩ := hex
    induction i using Nat.strongRecOn with
    | _ i ih =>
      by_cases hy : ∃ j, j < i ∧ j ≤ k ∧ ∃ z, tl[j]? = some z ∧ p z = true
      · obtain ⟨j, h1, h2⟩ := hy
        exact ih j h1 h2
      · exact ⟨i, hi, fun j h1 h2 => hy ⟨j, h1, h2⟩⟩
  have hno : ∀ j y, j < i → tl[j]? = some y → p y = false := fun j y hj hy => by
    cases hb : p y with
    | false => rfl
    | true => exact absurd ⟨by omega, y, hy, hb⟩ (hmin j hj)
  refine ⟨i, z, hi, hz, hpz, hno, idxF_at (fun j y hj hy => hno j y hj ?_) (by rw [List.getElem?_take_of_lt (by omega)]; exact hz) hpz⟩
  rwa [List.getElem?_take_of_lt (by omega)] at hy
theorem clB_self {n : Nat} {l : List Ed} (hg : P2.Good (n : Int) l) {x : Int} : clB l x x = true := by unfold clB; rw [cloB_bit hg]; simp
theorem bandF_is {n : Nat} {l : List Ed} (hg : P2.Good (n : Int) l) {tl : List Int} {k : Nat} {x : Int} (hk : tl[k]? = some x) :
    ∃ i z, i ≤ k ∧ tl[i]? = some z ∧ clB l x z = true ∧ (∀ j y, j < i → tl[j]? = some y → clB l x y = false) ∧ bandF l tl k = (k : Int) - (i : Int) := by
  obtain ⟨i, z, h1, h2, h3, h4, h5⟩ := first_is (p := clB l x) hk (clB_self hg)
  refine ⟨i, z, h1, h2, h3, h4, ?_⟩
  unfold bandF
  rw [show tl.getD k 0 = x from by simp [List.getD, hk], h5]
/-- the bandwidth, by places and by edges -/
theorem band_eq {n : Nat} {l : List Ed} (hg : P2.Good (n : Int) l) {tl : List Int} (he : EachS n tl) : grL (bandsL l tl n) = grL (l.map (dE tl)) := by
  have hnd := EachS.nodup he
  refine grL_ext fun u hu => ⟨fun h => ?_, fun h => ?_⟩
  · have key : ∀ (a b : Int) (i j : Nat), tl[i]? = some a → tl[j]? = some b → adj l b a = true → i < j → (j : Int) - (i : Int) ≤ u := fun a b i j hi hj ha hij => by
      obtain ⟨f, z, h1, h2, h3, h4, h5⟩ := bandF_is hg hj
      have hjn : j < n := by have := (List.getElem?_eq_some_iff.1 hj).1; rw [he.1] at this; exact this
      have h6 := h _ (List.mem_map.2 ⟨j, List.mem_range.2 hjn, rfl⟩)
      rw [h5] at h6
      have hfi : f ≤ i := by
        rcases Nat.lt_or_ge i f with h7 | h7
        · have h8 := h4 i a h7 hi
          have hb := adj_node hg ha
          unfold clB at h8
          rw [cloB_bit hg, show ((b.toNat : Nat) : Int) = b from by omega, show ((a.toNat : Nat) : Int) = a from by omega, ha] at h8
          simp at h8
        · exact h7
      omega
    rintro y hy
    obtain ⟨⟨a, b⟩, hab, rfl⟩ := List.mem_map.1 hy
    have hr := hg.mem hab
    simp only at hr
    have ha := he.2 a.toNat (by omega)
    have hb := he.2 b.toNat (by omega)
    rw [show ((a.toNat : Nat) : Int) = a from by omega] at ha
    rw [show ((b.toNat : Nat) : Int) = b from by omega] at hb
    have pa := plc_at ha
    have pb := plc_at hb
    have h1 : adj l a b = true := decide_eq_true (.inl hab)
    have h2 : adj l b a = true := decide_eq_true (.inr hab)
    unfold dE
    simp only
    rcases Nat.lt_trichotomy (plc tl a) (plc tl b) with hh | hh | hh
    · have := key a b _ _ pa pb h2 hh; omega
    · omega
    · have := key b a _ _ pb pa h1 hh; omega
  · rintro y hy
    obtain ⟨k, hk, rfl⟩ := List.mem_map.1 hy
    have hkn := List.mem_range.1 hk
    obtain ⟨x, hx⟩ : ∃ x, tl[k]? = some x := ⟨_, List.getElem?_eq_getElem (by rw [he.1]; exact hkn)⟩
    obtain ⟨i, z, h1, h2, h3, h4, h5⟩ := bandF_is hg hx
    rw [h5]
    have hxr := he.range x (List.mem_of_getElem? hx)
    have hzr := he.range z (List.mem_of_getElem? h2)
    unfold clB at h3
    rw [cloB_bit hg, show ((x.toNat : Nat) : Int) = x from by omega, show ((z.toNat : Nat) : Int) = z from by omega, Bool.or_eq_true] at h3
    rcases h3 with h3 | h3
    · have e : x = z := by have := beq_iff_eq.1 h3; omega
      subst e
      have := nodup_inj hnd hx h2
      omega
    · have px := plc_is hnd hx
      have pz := plc_is hnd h2
      unfold adj at h3
      rcases of_decide_eq_true h3 with h6 | h6
      · have := h _ (List.mem_map.2 ⟨_, h6, rfl⟩)
        unfold dE at this
        simp only [px, pz] at this
        omega
      · have := h _ (List.mem_map.2 ⟨_, h6, rfl⟩)
        unfold dE at this
        simp only [px, pz] at this
        omega
theorem bandF_lim {n : Nat} {l : List Ed} (hg : P2.Good (n : Int) l) {tl : List Int} {k : Nat} {x : Int} (hk : tl[k]? = some x) : 0 ≤ idxF (clB l x) (tl.take (k + 1)) ∧ idxF (clB l x) (tl.take (k + 1)) ≤ (k : Int) := by
  obtain ⟨i, z, h1, _, _, _, h5⟩ := first_is (p := clB l x) hk (clB_self hg)
  omega
theorem plc_le (tl : List Int) (x : Int) : plc tl x ≤ tl.length := List.findIdx_le_length
end Go.Proofs.Ytphlpipbhaiijaa.lays
