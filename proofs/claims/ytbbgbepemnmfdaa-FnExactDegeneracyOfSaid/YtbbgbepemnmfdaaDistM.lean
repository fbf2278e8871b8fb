/- Distances are there; balls told by them. -/
import Derived.Test.YtbbgbepemnmfdaaDist
import Derived.Test.YtbbgbepemnmfdaaFns
namespace Go.Proofs.Ytbbgbepemnmfdaa.P2

theorem IsMid.some {n : Nat} (J : Nat → Nat → Bool) {x d a : Nat} (ha : a < n) (h : ∃ D, IsMid n J x d a 0 D) : ∀ b, b ≤ n → ∃ D, IsMid n J x d a b D
  | 0, _ => h
  | b + 1, hb => by
    obtain ⟨D, hD⟩ := IsMid.some J ha h b (by omega)
    by_cases hc : D a = d ∧ D b < 0 ∧ J a b = true
    · exact ⟨_, hD.put ha hc.1 hc.2.1 hc.2.2⟩
    · exact ⟨_, hD.skip hc⟩
theorem IsPart.some_mid {n : Nat} (J : Nat → Nat → Bool) {x d : Nat} (h : ∃ D, IsPart n J x d D) : ∀ a, a ≤ n → ∃ D, IsMid n J x d a 0 D
  | 0, _ => by obtain ⟨D, hD⟩ := h; exact ⟨D, hD.mid⟩
  | a + 1, ha => by
    obtain ⟨D, hD⟩ := IsMid.some J (by omega) (IsPart.some_mid J h a (by omega)) n (Nat.le_refl _)
    exact ⟨D, hD.next⟩
theorem IsPart.some {n : Nat} (J : Nat → Nat → Bool) (x : Nat) : ∀ d, ∃ D, IsPart n J x d D
  | 0 => ⟨fun y => if y = x then 0 else -1, IsPart.zero J _ (by simp) (fun y _ hy => by simp [hy])⟩
  | d + 1 => by
    obtain ⟨D, hD⟩ := IsPart.some_mid J (IsPart.some J x d) n (Nat.le_refl _)
    exact ⟨D, hD.done⟩
theorem fn_map {n : Nat} (D : Nat → Int) {y : Nat} (hy : y < n) : fn ((List.range n).map D) y = D y := by simp [fn, List.getD_eq_getElem?_getD, hy]
theorem IsDist.congr {n : Nat} {J : Nat → Nat → Bool} {x : Nat} {D E : Nat → Int} (h : IsDist n J x D) (hx : x < n) (he : ∀ y, y < n → E y = D y) : IsDist n J x E where
  at0 := by rw [he x hx]; exact h.at0
  only := fun y hy e => h.only y hy (by rw [← he y hy]; exact e)
  low := fun y hy => by rw [he y hy]; exact h.low y hy
  step := fun y z hy hz h0 hj => by rw [he y hy] at h0 ⊢; rw [he z hz]; exact h.step y z hy hz h0 hj
  back := fun z hz h0 => by
    rw [he z hz] at h0
    obtain ⟨y, hy, e, hj⟩ := h.back z hz h0
    exact ⟨y, hy, by rw [he y hy, he z hz]; exact e, hj⟩
theorem dist_spec {n : Nat} (J : Nat → Nat → Bool) {x : Nat} (hx : x < n) : (dist n J x).length = n ∧ IsDist n J x (fn (dist n J x)) := by
  obtain ⟨D, hD⟩ := IsPart.some (n := n) J x n
  exact Classical.epsilon_spec (p := fun D : List Int => D.length = n ∧ IsDist n J x (fn D)) ⟨(List.range n).map D, by simp, hD.done.congr hx (fun y hy => fn_map D hy)⟩
theorem dist_len {n : Nat} (J : Nat → Nat → Bool) {x : Nat} (hx : x < n) : (dist n J x).length = n := (dist_spec J hx).1
theorem dist_lt {n : Nat} (J : Nat → Nat → Bool) {x y : Nat} (hx : x < n) (hy : y < n) : -1 ≤ fn (dist n J x) y ∧ fn (dist n J x) y < n :=
  ⟨(dist_spec J hx).2.low y hy, dist_small (dist_spec J hx).2.back hy⟩
end Go.Proofs.Ytbbgbepemnmfdaa.P2
