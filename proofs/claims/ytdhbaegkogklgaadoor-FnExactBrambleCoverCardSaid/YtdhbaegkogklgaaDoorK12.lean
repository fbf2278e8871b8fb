/- The contract of the program's cheapestOrder. -/
import Derived.Handy
import Derived.Test.YtdhbaegkogklgaaDoorK11
import Derived.Deep.DeepCutAuto
import Derived.Test.YtdhbaegkogklgaaDoorK07
import Derived.Test.YtdhbaegkogklgaaDoorK02
import Derived.Test.YtdhbaegkogklgaaDoorK09
import Derived.Test.YtdhbaegkogklgaaDoorK04
import Derived.Test.YtdhbaegkogklgaaDoorK06
import Derived.Maps.AppendAt
import Derived.Deep.RegionHeld3
namespace Go.Proofs.YtdhbaegkogklgaaDoor.costs
open Go.RowKit P2 words edges ints good adjs fns sets rets covs reach bags bitsI fronts
set_option linter.unusedVariables false

def fitC (cost : Nat → Nat → Int) (C : Nat → Int) (g x : Nat) : Bool := decide (max (cost g x) (C (g ||| 2 ^ x)) ≤ C 0)
end Go.Proofs.YtdhbaegkogklgaaDoor.costs

/- Distances are the same from both ends. -/
namespace Go.Proofs.YtdhbaegkogklgaaDoor.P2

section
variable {n : Nat} {J : Nat → Nat → Bool}
/-- at most one more behind an edge -/
theorem dist_edge {x y z : Nat} (hx : x < n) (hy : y < n) (hz : z < n) (h0 : 0 ≤ fn (dist n J x) y) (hJ : J y z = true) : 0 ≤ fn (dist n J x) z ∧ fn (dist n J x) z ≤ fn (dist n J x) y + 1 :=
  (dist_spec J hx).2.step y z hy hz h0 hJ
/-- an edge ahead of a way -/
theorem dist_ahead {b a : Nat} (hb : b < n) (ha : a < n) (hJ : J b a = true) : ∀ (k : Nat) v, v < n → fn (dist n J a) v = (k : Int) → 0 ≤ fn (dist n J b) v ∧ fn (dist n J b) v ≤ (k : Int) + 1
  | 0, v, hv, e => by
    obtain rfl := (dist_spec J ha).2.only v hv e
    have h := dist_edge (J := J) hb hb hv (by rw [(dist_spec J hb).2.at0]; omega) hJ
    rw [(dist_spec J hb).2.at0] at h
    omega
  | k + 1, v, hv, e => by
    obtain ⟨u, hu, eu, hj⟩ := (dist_spec J ha).2.back v hv (by omega)
    have ih := dist_ahead hb ha hJ k u hu (by omega)
    have := dist_edge hb hu hv ih.1 hj
    omega
/-- the first step of a way -/
theorem dist_first {z : Nat} (hz : z < n) : ∀ (k : Nat) v, v < n → fn (dist n J z) v = ((k + 1 : Nat) : Int) → ∃ u, u < n ∧ J z u = true ∧ fn (dist n J u) v = (k : Int)
  | 0, v, hv, e => by
    obtain ⟨w, hw, ew, hj⟩ := (dist_spec J hz).2.back v hv (by omega)
    obtain rfl := (dist_spec J hz).2.only w hw (by omega)
    exact ⟨v, hv, hj, (dist_spec J hv).2.at0⟩
  | k + 1, v, hv, e => by
    obtain ⟨w, hw, ew, hj⟩ := (dist_spec J hz).2.back v hv (by omega)
    obtain ⟨u, hu, hzu, hd⟩ := dist_first hz k w hw (by omega)
    have h1 := dist_edge hu hw hv (by omega) hj
    have h2 := dist_ahead hz hu hzu (fn (dist n J u) v).toNat v hv (by omega)
    exact ⟨u, hu, hzu, by omega⟩
theorem dist_symm (hJ : ∀ a b, J a b = J b a) {y z : Nat} (hy : y < n) (hz : z < n) : fn (dist n J z) y = fn (dist n J y) z := by
  have hE : IsDist n J y (fun z => fn (dist n J z) y) :=
    { at0 := (dist_spec J hy).2.at0
      only := fun a ha e => ((dist_spec J ha).2.only y hy e).symm
      low := fun a ha => (dist_spec J ha).2.low y hy
      step := fun a b ha hb h0 hj => by
        have h0' : 0 ≤ fn (dist n J a) y := h0
        have h := dist_ahead (J := J) hb ha ((hJ b a).trans hj) (fn (dist n J a) y).toNat y hy (by omega)
        show 0 ≤ fn (dist n J b) y ∧ fn (dist n J b) y ≤ fn (dist n J a) y + 1
        omega
      back := fun a ha h0 => by
        have h0' : 0 < fn (dist n J a) y := h0
        obtain ⟨k, hk⟩ : ∃ k : Nat, fn (dist n J a) y = ((k + 1 : Nat) : Int) := ⟨(fn (dist n J a) y).toNat - 1, by omega⟩
        obtain ⟨u, hu, hau, hd⟩ := dist_first ha k y hy hk
        refine ⟨u, hu, ?_, (hJ u a).trans hau⟩
        show fn (dist n J u) y = fn (dist n J a) y - 1
        omega }
  exact hE.eq (dist_spec J hy).2 z hz
end

/-- the next node of a first way to y -/
noncomputable def nxP (n : Nat) (J : Nat → Nat → Bool) (y a z : Nat) : Bool := J a z && decide (fn (dist n J z) y = fn (dist n J a) y - 1)
noncomputable def nxt (n : Nat) (J : Nat → Nat → Bool) (y a : Nat) : Nat := ((List.range n).find? (nxP n J y a)).getD 0
noncomputable def wayA (n : Nat) (J : Nat → Nat → Bool) (y x : Nat) : Nat → Nat
  | 0 => x
  | k + 1 => nxt n J y (wayA n J y x k)
noncomputable def wayT (n : Nat) (J : Nat → Nat → Bool) (y x k : Nat) : List Int := (List.range (k + 1)).map fun j => (wayA n J y x j : Int)
theorem wayT_len (n : Nat) (J : Nat → Nat → Bool) (y x k : Nat) : (wayT n J y x k).length = k + 1 := by simp [wayT]
theorem wayT_zero (n : Nat) (J : Nat → Nat → Bool) (y x : Nat) : wayT n J y x 0 = [(x : Int)] := rfl
theorem wayT_succ (n : Nat) (J : Nat → Nat → Bool) (y x k : Nat) : wayT n J y x (k + 1) = wayT n J y x k ++ [(wayA n J y x (k + 1) : Int)] := by
  unfold wayT; rw [List.range_succ (n := k + 1), List.map_append]; rfl
theorem nxt_spec {n : Nat} {J : Nat → Nat → Bool} {y a k : Nat} (ha : a < n) (hy : y < n) (hd : fn (dist n J a) y = ((k + 1 : Nat) : Int)) :
    nxt n J y a < n ∧ J a (nxt n J y a) = true ∧ fn (dist n J (nxt n J y a)) y = (k : Int) ∧ ∀ z, z < nxt n J y a → nxP n J y a z = false := by
  obtain ⟨u, hu, hau, hdu⟩ := dist_first ha k y hy hd
  have hpu : nxP n J y a u = true := by
    unfold nxP
    rw [hau, decide_eq_true (by omega)]; rfl
  cases hf : (List.range n).find? (nxP n J y a) with
  | none =>
    have := List.find?_eq_none.1 hf u (List.mem_range.2 hu)
    rw [hpu] at this; exact absurd rfl this
  | some z =>
    obtain ⟨h1, h2, h3⟩ := List.find?_range_eq_some.1 hf
    have hz : z < n := List.mem_range.1 h2
    have e : nxt n J y a = z := by unfold nxt; rw [hf]; rfl
    rw [e]
    unfold nxP at h1
    rw [Bool.and_eq_true] at h1
    refine ⟨hz, h1.1, ?_, fun j hj => ?_⟩
    · have := of_decide_eq_true h1.2; omega
    · have := h3 j hj; simpa using this
theorem way_at {n : Nat} {J : Nat → Nat → Bool} {y x K : Nat} (hx : x < n) (hy : y < n) (hd : fn (dist n J x) y = (K : Int)) : ∀ k, k ≤ K → wayA n J y x k < n ∧ fn (dist n J (wayA n J y x k)) y = ((K - k : Nat) : Int)
  | 0, _ => ⟨hx, by rw [Nat.sub_zero]; exact hd⟩
  | k + 1, hk => by
    have ih := way_at hx hy hd k (by omega)
    have h := nxt_spec (k := K - (k + 1)) ih.1 hy (by rw [ih.2]; omega)
    exact ⟨h.1, h.2.2.1⟩
theorem way_end {n : Nat} {J : Nat → Nat → Bool} {y x K : Nat} (hx : x < n) (hy : y < n) (hd : fn (dist n J x) y = (K : Int)) {k : Nat} (hk : k ≤ K) : wayA n J y x k = y ↔ k = K := by
  have h := way_at hx hy hd k hk
  constructor
  · intro e
    rw [e, (dist_spec J hy).2.at0] at h
    omega
  · rintro rfl
    rw [Nat.sub_self] at h
    exact ((dist_spec J h.1).2.only y hy h.2).symm
/-- the first number for which a test holds -/
theorem nw_head {p : Nat → Bool} {n z : Nat} (hz : z < n) (hp : p z = true) (h0 : ∀ j, j < z → p j = false) : (fns.nw p n)[0]? = some (z : Int) := by
  have hf : (List.range n).find? p = some z := List.find?_range_eq_some.2 ⟨hp, List.mem_range.2 hz, fun j hj => by simp [h0 j hj]⟩
  unfold fns.nw
  rw [List.getElem?_map, ← List.head?_eq_getElem?, List.head?_filter, hf]
  rfl
/-- the program's test for a step -/
theorem step_is {n : Nat} {J : Nat → Nat → Bool} (hJ : ∀ a b, J a b = J b a) {y a z : Nat} (hy : y < n) (ha : a < n) (hz : z < n) (h0 : 0 ≤ fn (dist n J a) y) :
    (J a z && decide (fn (dist n J y) z < fn (dist n J y) a)) = nxP n J y a z := by
  unfold nxP
  cases hj : J a z with
  | false => rfl
  | true =>
    rw [← dist_symm hJ hy hz, ← dist_symm hJ hy ha]
    show decide _ = decide _
    rw [decide_eq_decide]
    have h1 := dist_ahead (J := J) ha hz hj
    have h2 := dist_ahead (J := J) hz ha ((hJ z a).trans hj) (fn (dist n J a) y).toNat y hy (by omega)
    have h3 := h1 (fn (dist n J z) y).toNat y hy (by omega)
    omega
end Go.Proofs.YtdhbaegkogklgaaDoor.P2

/- The first order of the least greatest cost: plain mathematics. -/
namespace Go.Proofs.YtdhbaegkogklgaaDoor.costs
open Go.RowKit P2 words edges ints good adjs fns sets rets covs reach bags bitsI fronts
set_option linter.unusedVariables false

/-- a node that may come next: all others can be put behind it at no more than u -/
noncomputable def fitV (n : Nat) (cost : Nat → Nat → Int) (u : Int) (g x : Nat) : Bool := @decide (cost g x ≤ u ∧ Ch n cost u (g ||| 2 ^ x) (2 ^ n - 1)) (Classical.propDecidable _)
theorem fitV_iff {n : Nat} {cost : Nat → Nat → Int} {u : Int} {g x : Nat} : fitV n cost u g x = true ↔ cost g x ≤ u ∧ Ch n cost u (g ||| 2 ^ x) (2 ^ n - 1) := by exact @decide_eq_true_iff _ (Classical.propDecidable _)
theorem fitB_congr {n : Nat} {f h : Nat → Nat → Bool} {g : Nat} (e : ∀ x, x < n → g.testBit x = false → f g x = h g x) : ∀ z, z < n → fitB f g z = fitB h g z := fun z hz => by
  unfold fitB
  cases hb : g.testBit z with
  | true => rfl
  | false => rw [e z hz hb]
theorem ordN_congr {n : Nat} {f h : Nat → Nat → Bool} (e : ∀ g x, g < 2 ^ n → x < n → g.testBit x = false → f g x = h g x) : ∀ k, ordN n f k = ordN n h k
  | 0 => rfl
  | k + 1 => by
    rw [ordN, ordN, ordN_congr e k]
    cases hk : ordN n h k with
    | none => rfl
    | some s =>
      obtain ⟨g, L⟩ := s
      have hg := (ordN_ok hk).1
      simp only [Option.bind_some]
      rw [show nw (fitB f g) n = nw (fitB h g) n from reach.nw_congr (fitB_congr fun x hx hb => e g x hg hx hb)]
theorem ordL_congr {n : Nat} {f h : Nat → Nat → Bool} (e : ∀ g x, g < 2 ^ n → x < n → g.testBit x = false → f g x = h g x) : ordL n f = ordL n h := by unfold ordL; rw [ordN_congr e]
/-- the rests tell who fits -/
theorem fit_at {n : Nat} {cost : Nat → Nat → Int} {C : Nat → Int} {nil u : Int} (hn : n ≤ 8) (hfull : C (2 ^ n - 1) = nil) (h : ∀ c, c < 2 ^ n - 1 → LcAt n cost C c) (hu : nil ≤ u) {g x : Nat} (hg : g < 2 ^ n) (hx : x < n) :
    fitV n cost u g x = true ↔ cost g x ≤ u ∧ C (g ||| 2 ^ x) ≤ u := by
  rw [fitV_iff, lc_ch hn hfull h hu _ (g ||| 2 ^ x) (or_lt hg hx) (Nat.le_refl _)]
theorem fit_lc {n : Nat} {cost : Nat → Nat → Int} {C : Nat → Int} {nil : Int} (hn : n ≤ 8) (h : LcUp n cost nil 0 C) (h0 : nil ≤ C 0) {g x : Nat} (hg : g < 2 ^ n) (hx : x < n) : fitC cost C g x = fitV n cost (C 0) g x := by
  rw [Bool.eq_iff_iff, fit_at hn h.1 (fun c hc => h.2.1 c (by omega) hc) h0 hg hx]
  unfold fitC
  rw [decide_eq_true_iff]
  omega
/-- the nodes of the order so far are those of the set -/
theorem ordN_mem {n : Nat} {fit : Nat → Nat → Bool} : ∀ {k g : Nat} {L : List Int}, ordN n fit k = some (g, L) → goneB L = bitB g
  | 0, g, L, h => by
    cases h
    funext z
    unfold goneB
    simp [bitB]
  | k + 1, g, L, h => by
    rw [ordN] at h
    cases hk : ordN n fit k with
    | none => rw [hk] at h; cases h
    | some s =>
      obtain ⟨g0, L0⟩ := s
      rw [hk] at h
      simp only [Option.bind_some] at h
      cases hx : (nw (fitB fit g0) n)[0]? with
      | none => rw [hx] at h; cases h
      | some x =>
        rw [hx] at h
        cases h
        obtain ⟨z, hz, h2, rfl⟩ := mem_nw.1 (List.mem_of_getElem? hx)
        have h3 := ordN_mem hk
        funext y
        have h4 : goneB L0 y = bitB g0 y := by rw [h3]
        unfold goneB at h4 ⊢
        unfold bitB at h4 ⊢
        rw [Int.toNat_natCast, Bool.eq_iff_iff, decide_eq_true_iff, Nat.testBit_or, Bool.or_eq_true, ← h4, decide_eq_true_iff, List.mem_append, List.mem_singleton, Nat.testBit_two_pow]
        by_cases e : z = y
        · subst e; simp
        · have : ¬ (y : Int) = (z : Int) := by omega
          simp [e, this]
theorem ord_full {n k g : Nat} {fit : Nat → Nat → Bool} {L : List Int} (h : ordN n fit k = some (g, L)) (hk : k < n) : g ≠ 2 ^ n - 1 := fun e => by
  have h1 := ordN_mem h
  have h2 := (ordN_ok h).2
  have h3 : allN n ⊆ L := fun y hy => by
    obtain ⟨h4, h5⟩ := mem_allN.1 hy
    have h6 : goneB L y.toNat = true := by rw [h1, e]; unfold bitB; rw [Nat.testBit_two_pow_sub_one]; exact decide_eq_true (by omega)
    have h7 := of_decide_eq_true h6
    rwa [Int.toNat_of_nonneg h4] at h7
  have h8 := (each.allN_nodup n).length_le_of_subset h3
  rw [allN_len] at h8
  omega
/-- there is always a node that fits -/
theorem ord_go {n : Nat} {cost : Nat → Nat → Int} {u : Int} (h0 : Ch n cost u 0 (2 ^ n - 1)) : ∀ {k}, k ≤ n → ∃ g L, ordN n (fitV n cost u) k = some (g, L) ∧ Ch n cost u g (2 ^ n - 1)
  | 0, _ => ⟨0, [], rfl, h0⟩
  | k + 1, hk => by
    obtain ⟨g, L, h1, h2⟩ := ord_go (k := k) h0 (by omega)
    have hf := ord_full h1 (by omega)
    rcases h2.head with e | ⟨x, hx, hb, hc, hch⟩
    · exact absurd e hf
    · have hx0 : (nw (fitB (fitV n cost u) g) n)[0]? ≠ none := fun e => by
        have hl : (nw (fitB (fitV n cost u) g) n) = [] := by
          cases hl : nw (fitB (fitV n cost u) g) n with
          | nil => rfl
          | cons y ys => rw [hl] at e; cases e
        have : (x : Int) ∈ nw (fitB (fitV n cost u) g) n := mem_nw.2 ⟨x, hx, by unfold fitB; rw [hb, fitV_iff.2 ⟨hc, hch⟩]; rfl, rfl⟩
        rw [hl] at this; cases this
      cases hx1 : (nw (fitB (fitV n cost u) g) n)[0]? with
      | none => exact absurd hx1 hx0
      | some y =>
        obtain ⟨z, hz, h3, rfl⟩ := mem_nw.1 (List.mem_of_getElem? hx1)
        refine ⟨g ||| 2 ^ z, L ++ [(z : Int)], by rw [ordN, h1]; simp [hx1], ?_⟩
        unfold fitB at h3
        rw [Bool.and_eq_true, fitV_iff] at h3
        exact h3.2.2
/-- the first node that fits -/
theorem ord_next {n : Nat} {cost : Nat → Nat → Int} {u : Int} {k g : Nat} {L : List Int} (h : ordN n (fitV n cost u) k = some (g, L)) (hch : Ch n cost u g (2 ^ n - 1)) (hk : k < n) :
    ∃ z, z < n ∧ g.testBit z = false ∧ fitV n cost u g z = true ∧ (∀ y, y < z → fitB (fitV n cost u) g y = false) ∧ ordN n (fitV n cost u) (k + 1) = some (g ||| 2 ^ z, L ++ [(z : Int)]) ∧ Ch n cost u (g ||| 2 ^ z) (2 ^ n - 1) := by
  have hex : ∃ x, x < n ∧ fitB (fitV n cost u) g x = true := by
    rcases hch.head with e | ⟨x, hx, hb, hc, hc2⟩
    · exact absurd e (ord_full h hk)
    · exact ⟨x, hx, by unfold fitB; rw [hb, fitV_iff.2 ⟨hc, hc2⟩]; rfl⟩
  obtain ⟨z, ⟨hz, hf⟩, hmin⟩ : ∃ z, (z < n ∧ fitB (fitV n cost u) g z = true) ∧ ∀ y, y < z → ¬ (y < n ∧ fitB (fitV n cost u) g y = true) := by
    obtain ⟨x, hx⟩ := hex
    induction x using Nat.strongRecOn with
    | _ x ih =>
      by_cases hy : ∃ y, y < x ∧ y < n ∧ fitB (fitV n cost u) g y = true
      · obtain ⟨y, h1, h2⟩ := hy
        exact ih y h1 h2
      · exact ⟨x, hx, fun y hy1 hy2 => hy ⟨y, hy1, hy2⟩⟩
  have hm : ∀ y, y < z → fitB (fitV n cost u) g y = false := fun y hy => by
    cases hb : fitB (fitV n cost u) g y with
    | false => rfl
    | true => exact absurd ⟨by omega, hb⟩ (hmin y hy)
  have h1 := nw_head hz hf hm
  have h2 := hf
  unfold fitB at h2
  rw [Bool.and_eq_true] at h2
  exact ⟨z, hz, by simpa using h2.1, h2.2, hm, by rw [ordN, h]; simp [h1], (fitV_iff.1 h2.2).2⟩
end Go.Proofs.YtdhbaegkogklgaaDoor.costs

/- Perfect eliminations: plain mathematics. -/
namespace Go.Proofs.YtdhbaegkogklgaaDoor.costs
open Go.RowKit P2 words edges ints good adjs fns sets rets covs reach bags bitsI fronts
set_option linter.unusedVariables false

/-- any two nodes of a set are neighbors -/
noncomputable def cliqueB (n : Nat) (l : List Ed) (S : Nat → Bool) : Bool := okG (∀ a b : Nat, a < n → b < n → S a = true → S b = true → a ≠ b → adj l (a : Int) (b : Int) = true)
theorem cliqueB_iff {n : Nat} {l : List Ed} {S : Nat → Bool} : cliqueB n l S = true ↔ ∀ a b : Nat, a < n → b < n → S a = true → S b = true → a ≠ b → adj l (a : Int) (b : Int) = true := okG_iff
/-- nothing is filled in behind the nodes that are gone -/
def NoFill (n : Nat) (l : List Ed) (G : Nat → Bool) : Prop := ∀ x y, x < n → y < n → G x = false → laterB n l G x y = true → adj l (x : Int) (y : Int) = true
theorem rch_two {n : Nat} {l : List Ed} {G : Nat → Bool} {z x : Nat} (hi : NoFill n l G) (hz : z < n) (hgz : G z = false) (hx : x < n) (hgx : G x = false) (hne : z ≠ x) :
    ∀ {w}, Rch n (J2 l) (pput (pput G z) x) x w → Rch n (J2 l) (pput G x) x w ∨ (adj l (x : Int) (z : Int) = true ∧ Rch n (J2 l) (pput G z) z w) := by
  intro w h
  induction h with
  | base => exact .inl .base
  | @step a b hr hj hq hb ih =>
    have hq2 : G b = true ∨ b = z ∨ b = x := by
      unfold pput at hq
      simp only [Bool.or_eq_true, decide_eq_true_iff] at hq
      rcases hq with (h1 | h1) | h1
      · exact .inl h1
      · exact .inr (.inl h1)
      · exact .inr (.inr h1)
    rcases hq2 with h1 | rfl | rfl
    · rcases ih with h2 | ⟨h2, h3⟩
      · exact .inl (.step h2 hj (by unfold pput; rw [h1]; rfl) hb)
      · exact .inr ⟨h2, .step h3 hj (by unfold pput; rw [h1]; rfl) hb⟩
    · rcases ih with h2 | ⟨h2, h3⟩
      · have ha := Rch.lt h2 hx
        exact .inr ⟨hi x b hx hb hgx (laterB_iff.2 ⟨hgz, hne, a, ha, h2, hj⟩), .base⟩
      · exact .inr ⟨h2, .base⟩
    · exact .inl .base
theorem NoFill.step {n : Nat} {l : List Ed} {G : Nat → Bool} {z : Nat} (hi : NoFill n l G) (hz : z < n) (hgz : G z = false) (hc : ∀ a b : Nat, a < n → b < n → G a = false → G b = false → adj l (z : Int) (a : Int) = true → adj l (z : Int) (b : Int) = true → a ≠ b → adj l (a : Int) (b : Int) = true) : NoFill n l (pput G z) := by
  intro x y hx hy hgx hl
  have hx2 : G x = false ∧ x ≠ z := by
    unfold pput at hgx
    simpa using hgx
  obtain ⟨hgy, hyx, w, hw, hr, ha⟩ := laterB_iff.1 hl
  have hy2 : G y = false ∧ y ≠ z := by
    unfold pput at hgy
    simpa using hgy
  rcases rch_two hi hz hgz hx hx2.1 (fun e => hx2.2 e.symm) hr with h1 | ⟨h1, h2⟩
  · exact hi x y hx hy hx2.1 (laterB_iff.2 ⟨hy2.1, hyx, w, hw, h1, ha⟩)
  · have h3 := hi z y hz hy hgz (laterB_iff.2 ⟨hy2.1, hy2.2, w, hw, h2, ha⟩)
    exact hc x y hx hy hx2.1 hy2.1 (by rw [adj_comm]; exact h1) h3 (fun e => hyx e.symm)
theorem NoFill.none (n : Nat) (l : List Ed) : NoFill n l (fun _ => false) := by
  intro x y hx hy _ hl
  obtain ⟨_, _, w, hw, hr, ha⟩ := laterB_iff.1 hl
  have : w = x := by
    have h1 := hr.inq (by unfold pput; simp)
    unfold pput at h1
    simpa using h1
  rw [← this]; exact ha
theorem NoFill.later {n : Nat} {l : List Ed} {G : Nat → Bool} (hg : P2.Good (n : Int) l) (hi : NoFill n l G) {x y : Nat} (hx : x < n) (hy : y < n) (hgx : G x = false) : laterB n l G x y = (!G y && adj l (x : Int) (y : Int)) := by
  rw [Bool.eq_iff_iff, Bool.and_eq_true, Bool.not_eq_true']
  constructor
  · intro h
    exact ⟨(laterB_iff.1 h).1, hi x y hx hy hgx h⟩
  · rintro ⟨h1, h2⟩
    refine laterB_iff.2 ⟨h1, ?_, x, hx, .base, h2⟩
    rintro rfl
    rw [adj_self hg] at h2; cases h2
/-- does a node bring up no edge -/
noncomputable def fitP (n : Nat) (l : List Ed) (g x : Nat) : Bool := cliqueB n l (bagB n l (bitB g) x)
/-- the same, by its neighbors -/
noncomputable def fitQ (n : Nat) (l : List Ed) (g x : Nat) : Bool := cliqueB n l (fun y => !bitB g y && adj l (x : Int) (y : Int))
theorem fitP_eq {n : Nat} {l : List Ed} {g x : Nat} (hg : P2.Good (n : Int) l) (hi : NoFill n l (bitB g)) (hx : x < n) (hb : g.testBit x = false) : fitP n l g x = fitQ n l g x := by
  have hbx : bitB g x = false := hb
  unfold fitP fitQ
  rw [Bool.eq_iff_iff, cliqueB_iff, cliqueB_iff]
  have hla : ∀ y, y < n → laterB n l (bitB g) x y = (!bitB g y && adj l (x : Int) (y : Int)) := fun y hy => NoFill.later hg hi hx hy hbx
  constructor
  · intro h a b ha hb2 h1 h2 hne
    refine h a b ha hb2 ?_ ?_ hne
    · unfold bagB pput; rw [hla a ha, h1]; rfl
    · unfold bagB pput; rw [hla b hb2, h2]; rfl
  · intro h a b ha hb2 h1 h2 hne
    unfold bagB pput at h1 h2
    rw [hla a ha, Bool.or_eq_true, decide_eq_true_iff] at h1
    rw [hla b hb2, Bool.or_eq_true, decide_eq_true_iff] at h2
    rcases h1 with h1 | rfl
    · rcases h2 with h2 | rfl
      · exact h a b ha hb2 h1 h2 hne
      · rw [Bool.and_eq_true] at h1
        rw [adj_comm]; exact h1.2
    · rcases h2 with h2 | rfl
      · rw [Bool.and_eq_true] at h2
        exact h2.2
      · exact absurd rfl hne
theorem bit_or (g z : Nat) : bitB (g ||| 2 ^ z) = pput (bitB g) z := by
  funext y
  unfold bitB pput
  rw [Nat.testBit_or, Nat.testBit_two_pow]
  congr 1
  exact decide_eq_decide.2 ⟨fun h => h.symm, fun h => h.symm⟩
theorem ord_nofill {n : Nat} {l : List Ed} (hg : P2.Good (n : Int) l) : ∀ {k g : Nat} {L : List Int}, ordN n (fitP n l) k = some (g, L) → NoFill n l (bitB g)
  | 0, g, L, h => by
    cases h
    have : bitB 0 = fun _ => false := by funext z; simp [bitB]
    rw [this]; exact NoFill.none n l
  | k + 1, g, L, h => by
    rw [ordN] at h
    cases hk : ordN n (fitP n l) k with
    | none => rw [hk] at h; cases h
    | some s =>
      obtain ⟨g0, L0⟩ := s
      rw [hk] at h
      simp only [Option.bind_some] at h
      cases hx : (nw (fitB (fitP n l) g0) n)[0]? with
      | none => rw [hx] at h; cases h
      | some x =>
        rw [hx] at h
        cases h
        obtain ⟨z, hz, h2, rfl⟩ := mem_nw.1 (List.mem_of_getElem? hx)
        have hi := ord_nofill hg hk
        unfold fitB at h2
        rw [Bool.and_eq_true] at h2
        have hb : g0.testBit z = false := by simpa using h2.1
        have hq := h2.2
        rw [fitP_eq hg hi hz hb] at hq
        rw [Int.toNat_natCast, bit_or]
        refine hi.step hz hb fun a b ha hb2 h3 h4 h5 h6 hne => ?_
        exact cliqueB_iff.1 hq a b ha hb2 (by rw [h3, h5]; rfl) (by rw [h4, h6]; rfl) hne
/-- the perfect elimination, where there is one -/
def PerfOk (s : Int) (l : List Ed) : Prop := P2.Good s l ∧ (ordN s.toNat (fitP s.toNat l) s.toNat).isSome = true
noncomputable def peL (s : Int) (l : List Ed) : List Int := ordL s.toNat (fitP s.toNat l)
theorem fitQ_none {n k g : Nat} {l : List Ed} {L : List Int} (hg : P2.Good (n : Int) l) (h : ordN n (fitP n l) k = some (g, L)) : nw (fitB (fitP n l) g) n = nw (fitB (fitQ n l) g) n :=
  reach.nw_congr (fitB_congr fun x hx hb => fitP_eq hg (ord_nofill hg h) hx hb)
theorem ordL_le' {n : Nat} {fit : Nat → Nat → Bool} : (ordL n fit).length ≤ n := by
  unfold ordL
  cases h : ordN n fit n with
  | none => simp
  | some s =>
    obtain ⟨g, L⟩ := s
    have := (ordN_ok h).2
    simp; omega
theorem pe_len (s : Int) (l : List Ed) : (inG (PerfOk s l) (peL s l)).length ≤ 1048576 := inG_len fun hp => by
  have := ordL_le' (n := s.toNat) (fit := fitP s.toNat l)
  unfold peL
  have := hp.1.1; have := hp.1.2.1; omega
end Go.Proofs.YtdhbaegkogklgaaDoor.costs

/- The neighbors of a node that are not gone: the contract of the model's l5Among. -/
namespace Go.Proofs.YtdhbaegkogklgaaDoor.costs
open Go.RowKit P2 words edges ints good adjs fns sets rets covs reach bags balls
set_option linter.unusedVariables false

theorem nwf (p : Nat → Bool) (q : Int → Bool) (n : Nat) : (nw p n).filter q = nw (fun z => p z && q (z : Int)) n := by
  unfold nw
  rw [List.filter_map, List.filter_filter]
  congr 1
  exact List.filter_congr fun z _ => by simp [Bool.and_comm]
/-- the neighbors of a node that are not gone -/
def amgL (n : Nat) (l : List Ed) (gl : List Int) (x : Int) : List Int := nw (fun y => !goneB gl y && adj l x (y : Int)) n
def amgK (n : Nat) (l : List Ed) (gl : List Int) (x : Int) (k : Nat) : List Int := ((nw (fun y => adj l x (y : Int)) n).take k).filter fun y => !decide (y ∈ gl)
theorem amgK_len (n : Nat) (l : List Ed) (gl : List Int) (x : Int) (k : Nat) : (amgK n l gl x k).length ≤ n := by
  unfold amgK
  have h1 := List.length_filter_le (fun y => !decide (y ∈ gl)) ((nw (fun y => adj l x (y : Int)) n).take k)
  have h2 : ((nw (fun y => adj l x (y : Int)) n).take k).length ≤ (nw (fun y => adj l x (y : Int)) n).length := by rw [List.length_take]; omega
  have h3 := nw_len (fun y => adj l x (y : Int)) n
  omega
theorem amgK_yes {n : Nat} {l : List Ed} {gl : List Int} {x y : Int} {k : Nat} (hy : (nw (fun y => adj l x (y : Int)) n)[k]? = some y) (hg : decide (y ∈ gl) = false) : amgK n l gl x (k + 1) = amgK n l gl x k ++ [y] := by
  unfold amgK
  rw [List.take_add_one, hy, List.filter_append]
  simp only [Option.toList, List.filter_cons, List.filter_nil, hg]
  rfl
theorem amgK_no {n : Nat} {l : List Ed} {gl : List Int} {x y : Int} {k : Nat} (hy : (nw (fun y => adj l x (y : Int)) n)[k]? = some y) (hg : decide (y ∈ gl) = true) : amgK n l gl x (k + 1) = amgK n l gl x k := by
  unfold amgK
  rw [List.take_add_one, hy, List.filter_append]
  simp only [Option.toList, List.filter_cons, List.filter_nil, hg]
  simp
theorem amgK_all {n : Nat} {l : List Ed} {gl : List Int} {x : Int} : amgK n l gl x (nw (fun y => adj l x (y : Int)) n).length = amgL n l gl x := by
  unfold amgK amgL
  rw [List.take_length, nwf]
  exact reach.nw_congr fun z _ => Bool.and_comm _ _
set_option maxHeartbeats 4000000 in
set_option maxRecDepth 100000 in
theorem l5Among_any (n : Nat) (x : Int) (v u : Value) (l : List Ed) (gl : List Int) (w : World) (h : Edges w v l) (hl : l.length ≤ 1048576) (hu : Ints w u gl) (hgl : gl.length ≤ 1048576) (hn : n ≤ 8) :
    Calls Tryd.prog 141 #[.agg #[.int .i64 (n : Int), v], u, .int .i64 x] w (RowI w (amgL n l gl x)) := by
  obtain ⟨i0, hi, hz0, hz1, hz2⟩ := info_parts infoInt
  obtain ⟨A, c, rfl, -⟩ := h.form
  have HU := Lib.hid hu
  have b0 : Below w.heap.size w ((w.alloc (.cells #[.int .i64 (n : Int), .slice A l.length c] 29)).alloc (.cells #[] 3)) := ((Below.refl _ _).alloc (Nat.le_refl _) _).alloc (by simp) _
  have HB0 := Lib.hid b0
  have g0 := (Blk.new w 29 #[.int .i64 (n : Int), .slice A l.length c]).alloc (.cells #[] 3)
  obtain ⟨p0, p1, -, -⟩ := g0.two
  have o0 := own_new0 (w.alloc (.cells #[.int .i64 (n : Int), .slice A l.length c] 29)) 3 1
  rw [World.size_alloc] at o0
  have HO0 := Lib.hid o0
  have HNB := Lib.hid (neigh.l2Neighbors_any n x (.slice A l.length c) l _ (h.below b0) hl hn)
  have HAL := Lib.hid (amgK_all (n := n) (l := l) (gl := gl) (x := x))
  clear h hu b0 g0 o0
  go_enter Tryd.func141, Tryd.ntmps141
  go_wp2_with fail
  refine HNB.out.mono ?_
  rintro e w3 ⟨A5, c5, rfl, o5, b5⟩
  have HB3 := Lib.hid (btrans HB0.out b5)
  have HO3 : Hid (w3.ownsRow w.heap.size 3 1 (.slice (some ⟨w.heap.size + 1, 0, none⟩) 0 0) (amgK n l gl x 0).length (cellsI (amgK n l gl x 0))) := own_base (own_below HO0.out b5) (by omega)
  have HR3 := Lib.hid (own_base (B' := w.heap.size) o5 HB0.out.size)
  have HAP : Hid (∀ k, (Value.slice (some ⟨w.heap.size + 1, 0, none⟩) 0 0).ownBlock = some k → (Value.slice A5 (nw (fun y => adj l x (y : Int)) n).length c5).ownBlock ≠ some k) := fun q hq hq' => by
    have h1 := (HO0.out.lt q hq).2
    have h2 := (o5.lt q hq').1
    omega
  have HAT := Lib.hid (fun (k : Nat) (y : Int) (hk : (nw (fun y => adj l x (y : Int)) n)[k]? = some y) => amgK_yes (gl := gl) hk)
  have HAN := Lib.hid (fun (k : Nat) (y : Int) (hk : (nw (fun y => adj l x (y : Int)) n)[k]? = some y) => amgK_no (gl := gl) hk)
  have HNL := nw_len (fun y => adj l x (y : Int)) n
  clear o5 b5 p0 p1 HB0 HO0 HNB
  generalize nw (fun y => adj l x (y : Int)) n = N1 at *
  go_wp2_with fail
  go_loopg [7, 9] N1.length (fun g ov iv wr => ∃ (k : Nat) (ow : Value), ow = ov ∧ k + g = N1.length ∧ iv = .int .i64 (k : Int) ∧ wr.ownsRow w.heap.size 3 1 ow (amgK n l gl x k).length (cellsI (amgK n l gl x k)) ∧ wr.ownsRow w.heap.size 3 1 (.slice A5 N1.length c5) N1.length (cellsI N1) ∧ Hid (∀ k, ow.ownBlock = some k → (Value.slice A5 N1.length c5).ownBlock ≠ some k) ∧ Below w.heap.size w wr)
  case atStart => exact ⟨0, _, rfl, by omega, rfl, HO3.out, HR3.out, HAP, HB3.out⟩
  case round =>
    clear HO3 HR3 HAP HB3
    obtain ⟨k, ow, rfl, hkg, rfl, hrow, hr5, hap, hB⟩ := hrel
    obtain ⟨A4, c4, rfl⟩ := own_form hrow
    have hml := amgK_len n l gl x k
    have hsz := hB.size
    cases gk with
    | zero =>
      obtain rfl : k = N1.length := by omega
      rw [HAL.out] at hrow
      have HR := Lib.hid hrow
      have HB := Lib.hid hB
      have HEQ := Lib.hid HAL.out
      clear hrow hB hr5 hap
      go_wp2_with fail
      go_ret
      rw [HEQ.out]
      exact ⟨A4, c4, rfl, HR.out, HB.out⟩
    | succ g2 =>
      have hlt : k < N1.length := by omega
      have hlt' : (k : Int) < (N1.length : Int) := by omega
      obtain ⟨y, hy⟩ : ∃ y, N1[k]? = some y := ⟨_, List.getElem?_eq_getElem hlt⟩
      obtain ⟨_, _, hf, hcc⟩ := (show Ints wr (.slice A5 N1.length c5) N1 from Reads.of_own hr5).form
      cases hf
      obtain ⟨g9, o9, rfl, q9⟩ := hcc k _ hy
      have HH := Lib.hid (l1Has_any u gl y wr (HU.out.below hB) hgl)
      have HB := Lib.hid hB
      have HR5 := Lib.hid hr5
      cases hd : decide (y ∈ gl) with
      | true =>
        have HN := Lib.hid (HAN.out k y hy hd)
        rw [hd] at HH
        have HR := Lib.hid hrow
        clear hd hy hcc hB hrow hr5
        go_wp2_with fail
        refine HH.out.mono ?_
        rintro e w' ⟨rfl, rfl⟩
        go_wp2_with fail
        go_roundg g2
        case measure => omega
        case rel => exact ⟨k + 1, _, rfl, by omega, by go_num, by rw [HN.out]; exact HR.out, HR5.out, hap, HB.out⟩
      | false =>
        have HN := Lib.hid (HAT.out k y hy hd)
        rw [hd] at HH
        clear hd hy hcc hB hr5
        generalize amgK n l gl x k = m at *
        go_wp2_with fail
        refine HH.out.mono ?_
        rintro e w' ⟨rfl, rfl⟩
        go_wp2_with (at_builtin; refine wpList_append_own_at _ rfl _ _ 25 rfl (w.heap.size) 3 i0 (.int .i64 0) 1 8 Tryd.underlying25 hi hz0 hz1 hz2 rfl (by decide) _ _ _ rfl (hrow.alloc _) ⟨wr.heap.size, 0, none⟩ 1 1 [.int .i64 (y)] rfl rfl (cell_one_new _ _ _) (fun x hx => by simp at hx; subst hx; rfl) (by unfold maxLen; omega) (by omega) (by simp; omega) ?_; intro v2 w2 hown2 hgrow2 _ hl2)
        have hr6 := Lib.hid ((HR5.out.alloc (.cells #[.int .i64 y] 3)).kept hgrow2 (bags.apart_or hap.out))
        have hap6 : Hid (∀ k, v2.ownBlock = some k → (Value.slice (some ⟨g9, o9, none⟩) N1.length c5).ownBlock ≠ some k) := bags.apart_grow hap.out hl2 (fun q hq => by have := (HR5.out.lt q hq).2; simp; omega)
        obtain ⟨hown3, hB2⟩ := push1 hrow hown2 hgrow2 hsz
        have HO9 := Lib.hid hown3
        have HB9 := Lib.hid (HB.out.trans hB2)
        clear hgrow2 hrow hown2 hown3 hB2 q9 hl2
        go_roundg g2
        case measure => omega
        case rel => exact ⟨k + 1, _, rfl, by omega, by go_num, by rw [HN.out]; exact HO9.out, hr6.out, hap6, HB9.out⟩
end Go.Proofs.YtdhbaegkogklgaaDoor.costs

/- Cliques: the contract of the model's l5Clique. -/
namespace Go.Proofs.YtdhbaegkogklgaaDoor.costs
open Go.RowKit P2 words edges ints good adjs fns sets rets covs reach bags balls bitsI fronts
set_option linter.unusedVariables false

/-- any two numbers of a list are neighbors -/
def ClqL (l : List Ed) (xs : List Int) : Prop := ∀ (a b : Nat) (x y : Int), a < b → xs[a]? = some x → xs[b]? = some y → adj l x y = true
def ClqA (l : List Ed) (xs : List Int) (i : Nat) : Prop := ∀ (a b : Nat) (x y : Int), a < i → a < b → xs[a]? = some x → xs[b]? = some y → adj l x y = true
def ClqB (l : List Ed) (xs : List Int) (i k : Nat) : Prop := ClqA l xs i ∧ ∀ (b : Nat) (x y : Int), i < b → b < k → xs[i]? = some x → xs[b]? = some y → adj l x y = true
theorem ClqA.inner {l : List Ed} {xs : List Int} {i : Nat} (h : ClqA l xs i) : ClqB l xs i (i + 1) := ⟨h, fun b x y h1 h2 => by omega⟩
theorem ClqB.next {l : List Ed} {xs : List Int} {i k : Nat} {x y : Int} (h : ClqB l xs i k) (hx : xs[i]? = some x) (hy : xs[k]? = some y) (ha : adj l x y = true) : ClqB l xs i (k + 1) :=
  ⟨h.1, fun b x' y' h1 h2 h3 h4 => by
    by_cases e : b = k
    · subst e; rw [hx] at h3; rw [hy] at h4; cases h3; cases h4; exact ha
    · exact h.2 b x' y' h1 (by omega) h3 h4⟩
theorem ClqB.all {l : List Ed} {xs : List Int} {i k : Nat} (h : ClqB l xs i k) (hk : xs.length ≤ k) : ClqA l xs (i + 1) := fun a b x y h1 h2 h3 h4 => by
  have hb := (List.getElem?_eq_some_iff.1 h4).1
  by_cases e : a = i
  · subst e; exact h.2 b x y h2 (by omega) h3 h4
  · exact h.1 a b x y (by omega) h2 h3 h4
theorem ClqA.done {l : List Ed} {xs : List Int} {i : Nat} (h : ClqA l xs i) (hi : xs.length ≤ i) : ClqL l xs := fun a b x y h1 h2 h3 => by
  have ha := (List.getElem?_eq_some_iff.1 h2).1
  exact h a b x y (by omega) h1 h2 h3
theorem clq_nw {n : Nat} {l : List Ed} {P : Nat → Bool} : okG (ClqL l (nw P n)) = cliqueB n l P := by
  rw [Bool.eq_iff_iff, okG_iff, cliqueB_iff]
  constructor
  · intro h a b ha hb hpa hpb hne
    obtain ⟨i, hi⟩ := List.getElem?_of_mem (mem_nw.2 ⟨a, ha, hpa, rfl⟩)
    obtain ⟨j, hj⟩ := List.getElem?_of_mem (mem_nw.2 ⟨b, hb, hpb, rfl⟩)
    rcases Nat.lt_trichotomy i j with hh | hh | hh
    · exact h i j _ _ hh hi hj
    · subst hh
      rw [hi] at hj
      cases hj
      exact absurd rfl hne
    · rw [adj_comm]; exact h j i _ _ hh hj hi
  · intro h a b x y hab hx hy
    obtain ⟨i, rfl, hi, hpi⟩ := nw_at hx
    obtain ⟨j, rfl, hj, hpj⟩ := nw_at hy
    refine h i j hi hj hpi hpj fun e => ?_
    subst e
    have hasc := List.pairwise_iff_getElem.1 (nw_asc P n)
    obtain ⟨h1, e1⟩ := List.getElem?_eq_some_iff.1 hx
    obtain ⟨h2, e2⟩ := List.getElem?_eq_some_iff.1 hy
    have := hasc a b h1 h2 hab
    omega
end Go.Proofs.YtdhbaegkogklgaaDoor.costs
