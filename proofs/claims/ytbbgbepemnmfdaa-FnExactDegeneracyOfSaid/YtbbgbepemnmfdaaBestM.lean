/- The first order of the least greatest cost: plain mathematics. -/
import Derived.Handy
import Derived.Test.YtbbgbepemnmfdaaOrdC
import Derived.Test.YtbbgbepemnmfdaaWayM
import Derived.Test.YtbbgbepemnmfdaaLater
namespace Go.Proofs.Ytbbgbepemnmfdaa.costs
open Go.RowKit P2 words edges ints good adjs fns sets rets covs reach bags bitsI fronts
set_option linter.unusedVariables false

/-- a node that may come next: all others can be put behind it at no more than u -/
noncomputable def fitV (n : Nat) (cost : Nat → Nat → Int) (u : Int) (g x : Nat) : Bool := @decide (cost g x ≤ u ∧ Ch n cost u (g ||| 2 ^ x) (2 ^ n - 1)) (Classical.propDecidable _)
theorem fitV_iff {n : Nat} {cost : Nat → Nat → Int} {u : Int} {g x : Nat} : fitV n cost u g x = true ↔ cost g x ≤ u ∧ Ch n cost u (g ||| 2 ^ x) (2 ^ n - 1) := by exact @decide_eq_true_iff _ (Classical.propDecidable _)
theorem fitB_congr {n : Nat} {f h : Nat → Nat → Bool} {g : Nat} (e : ∀ x, x < n → g.testBit x = false → f g x = h g x) : ∀ z, z < n → fitB f g z = fitB h g z := fun z hz => by
  unfold fitB
  cases hb : g.testBit z with
  | true => rfl
  | false => rw [e z hz hb]
theorem ordN_congr {n : Nat} {f h : Nat → Nat → Bool} (e : ∀ g x, g < 2 ^ n → x < n → g.testBit x = false → f g x = h g x) : ∀ k, ordN n f k = ordN n h k
  | 0 => rfl
  | k + 1 => by
    rw [ordN, ordN, ordN_congr e k]
    cases hk : ordN n h k with
    | none => rfl
    | some s =>
      obtain ⟨g, L⟩ := s
      have hg := (ordN_ok hk).1
      simp only [Option.bind_some]
      rw [show nw (fitB f g) n = nw (fitB h g) n from reach.nw_congr (fitB_congr fun x hx hb => e g x hg hx hb)]
theorem ordL_congr {n : Nat} {f h : Nat → Nat → Bool} (e : ∀ g x, g < 2 ^ n → x < n → g.testBit x = false → f g x = h g x) : ordL n f = ordL n h := by unfold ordL; rw [ordN_congr e]
/-- the rests tell who fits -/
theorem fit_at {n : Nat} {cost : Nat → Nat → Int} {C : Nat → Int} {nil u : Int} (hn : n ≤ 8) (hfull : C (2 ^ n - 1) = nil) (h : ∀ c, c < 2 ^ n - 1 → LcAt n cost C c) (hu : nil ≤ u) {g x : Nat} (hg : g < 2 ^ n) (hx : x < n) :
    fitV n cost u g x = true ↔ cost g x ≤ u ∧ C (g ||| 2 ^ x) ≤ u := by
  rw [fitV_iff, lc_ch hn hfull h hu _ (g ||| 2 ^ x) (or_lt hg hx) (Nat.le_refl _)]
theorem fit_lc {n : Nat} {cost : Nat → Nat → Int} {C : Nat → Int} {nil : Int} (hn : n ≤ 8) (h : LcUp n cost nil 0 C) (h0 : nil ≤ C 0) {g x : Nat} (hg : g < 2 ^ n) (hx : x < n) : fitC cost C g x = fitV n cost (C 0) g x := by
  rw [Bool.eq_iff_iff, fit_at hn h.1 (fun c hc => h.2.1 c (by omega) hc) h0 hg hx]
  unfold fitC
  rw [decide_eq_true_iff]
  omega
/-- the nodes of the order so far are those of the set -/
theorem ordN_mem {n : Nat} {fit : Nat → Nat → Bool} : ∀ {k g : Nat} {L : List Int}, ordN n fit k = some (g, L) → goneB L = bitB g
  | 0, g, L, h => by
    cases h
    funext z
    unfold goneB
    simp [bitB]
  | k + 1, g, L, h => by
    rw [ordN] at h
    cases hk : ordN n fit k with
    | none => rw [hk] at h; cases h
    | some s =>
      obtain ⟨g0, L0⟩ := s
      rw [hk] at h
      simp only [Option.bind_some] at h
      cases hx : (nw (fitB fit g0) n)[0]? with
      | none => rw [hx] at h; cases h
      | some x =>
        rw [hx] at h
        cases h
        obtain ⟨z, hz, h2, rfl⟩ := mem_nw.1 (List.mem_of_getElem? hx)
        have h3 := ordN_mem hk
        funext y
        have h4 : goneB L0 y = bitB g0 y := by rw [h3]
        unfold goneB at h4 ⊢
        unfold bitB at h4 ⊢
        rw [Int.toNat_natCast, Bool.eq_iff_iff, decide_eq_true_iff, Nat.testBit_or, Bool.or_eq_true, ← h4, decide_eq_true_iff, List.mem_append, List.mem_singleton, Nat.testBit_two_pow]
        by_cases e : z = y
        · subst e; simp
        · have : ¬ (y : Int) = (z : Int) := by omega
          simp [e, this]
theorem ord_full {n k g : Nat} {fit : Nat → Nat → Bool} {L : List Int} (h : ordN n fit k = some (g, L)) (hk : k < n) : g ≠ 2 ^ n - 1 := fun e => by
  have h1 := ordN_mem h
  have h2 := (ordN_ok h).2
  have h3 : allN n ⊆ L := fun y hy => by
    obtain ⟨h4, h5⟩ := mem_allN.1 hy
    have h6 : goneB L y.toNat = true := by rw [h1, e]; unfold bitB; rw [Nat.testBit_two_pow_sub_one]; exact decide_eq_true (by omega)
    have h7 := of_decide_eq_true h6
    rwa [Int.toNat_of_nonneg h4] at h7
  have h8 := (each.allN_nodup n).length_le_of_subset h3
  rw [allN_len] at h8
  omega
/-- there is always a node that fits -/
theorem ord_go {n : Nat} {cost : Nat → Nat → Int} {u : Int} (h0 : Ch n cost u 0 (2 ^ n - 1)) : ∀ {k}, k ≤ n → ∃ g L, ordN n (fitV n cost u) k = some (g, L) ∧ Ch n cost u g (2 ^ n - 1)
  | 0, _ => ⟨0, [], rfl, h0⟩
  | k + 1, hk => by
    obtain ⟨g, L, h1, h2⟩ := ord_go (k := k) h0 (by omega)
    have hf := ord_full h1 (by omega)
    rcases h2.head with e | ⟨x, hx, hb, hc, hch⟩
    · exact absurd e hf
    · have hx0 : (nw (fitB (fitV n cost u) g) n)[0]? ≠ none := fun e => by
        have hl : (nw (fitB (fitV n cost u) g) n) = [] := by
          cases hl : nw (fitB (fitV n cost u) g) n with
          | nil => rfl
          | cons y ys => rw [hl] at e; cases e
        have : (x : Int) ∈ nw (fitB (fitV n cost u) g) n := mem_nw.2 ⟨x, hx, by unfold fitB; rw [hb, fitV_iff.2 ⟨hc, hch⟩]; rfl, rfl⟩
        rw [hl] at this; cases this
      cases hx1 : (nw (fitB (fitV n cost u) g) n)[0]? with
      | none => exact absurd hx1 hx0
      | some y =>
        obtain ⟨z, hz, h3, rfl⟩ := mem_nw.1 (List.mem_of_getElem? hx1)
        refine ⟨g ||| 2 ^ z, L ++ [(z : Int)], by rw [ordN, h1]; simp [hx1], ?_⟩
        unfold fitB at h3
        rw [Bool.and_eq_true, fitV_iff] at h3
        exact h3.2.2
/-- the first node that fits -/
theorem ord_next {n : Nat} {cost : Nat → Nat → Int} {u : Int} {k g : Nat} {L : List Int} (h : ordN n (fitV n cost u) k = some (g, L)) (hch : Ch n cost u g (2 ^ n - 1)) (hk : k < n) :
    ∃ z, z < n ∧ g.testBit z = false ∧ fitV n cost u g z = true ∧ (∀ y, y < z → fitB (fitV n cost u) g y = false) ∧ ordN n (fitV n cost u) (k + 1) = some (g ||| 2 ^ z, L ++ [(z : Int)]) ∧ Ch n cost u (g ||| 2 ^ z) (2 ^ n - 1) := by
  have hex : ∃ x, x < n ∧ fitB (fitV n cost u) g x = true := by
    rcases hch.head with e | ⟨x, hx, hb, hc, hc2⟩
    · exact absurd e (ord_full h hk)
    · exact ⟨x, hx, by unfold fitB; rw [hb, fitV_iff.2 ⟨hc, hc2⟩]; rfl⟩
  obtain ⟨z, ⟨hz, hf⟩, hmin⟩ : ∃ z, (z < n ∧ fitB (fitV n cost u) g z = true) ∧ ∀ y, y < z → ¬ (y < n ∧ fitB (fitV n cost u) g y = true) := by
    obtain ⟨x, hx⟩ := hex
    induction x using Nat.strongRecOn with
    | _ x ih =>
      by_cases hy : ∃ y, y < x ∧ y < n ∧ fitB (fitV n cost u) g y = true
      · obtain ⟨y, h1, h2⟩ := hy
        exact ih y h1 h2
      · exact ⟨x, hx, fun y hy1 hy2 => hy ⟨y, hy1, hy2⟩⟩
  have hm : ∀ y, y < z → fitB (fitV n cost u) g y = false := fun y hy => by
    cases hb : fitB (fitV n cost u) g y with
    | false => rfl
    | true => exact absurd ⟨by omega, hb⟩ (hmin y hy)
  have h1 := nw_head hz hf hm
  have h2 := hf
  unfold fitB at h2
  rw [Bool.and_eq_true] at h2
  exact ⟨z, hz, by simpa using h2.1, h2.2, hm, by rw [ordN, h]; simp [h1], (fitV_iff.1 h2.2).2⟩
end Go.Proofs.Ytbbgbepemnmfdaa.costs
