/- Distances are there; balls told by them. -/
import Derived.Test.YtphlpipbhaiijaaB09
import Derived.Test.YtphlpipbhaiijaaB02
import Derived.Handy
import Derived.Test.YtphlpipbhaiijaaB05
import Derived.Test.YtphlpipbhaiijaaB08
import Derived.Test.YtphlpipbhaiijaaB06
import Derived.Deep.DeepCutAuto
import Derived.StillTailTactics
import Derived.Deep.QuietTactic
import Derived.Deep.RegionHeld3
namespace Go.Proofs.Ytphlpipbhaiijaa.P2

theorem IsMid.some {n : Nat} (J : Nat → Nat → Bool) {x d a : Nat} (ha : a < n) (h : ∃ D, IsMid n J x d a 0 D) : ∀ b, b ≤ n → ∃ D, IsMid n J x d a b D
  | 0, _ => h
  | b + 1, hb => by
    obtain ⟨D, hD⟩ := IsMid.some J ha h b (by omega)
    by_cases hc : D a = d ∧ D b < 0 ∧ J a b = true
    · exact ⟨_, hD.put ha hc.1 hc.2.1 hc.2.2⟩
    · exact ⟨_, hD.skip hc⟩
theorem IsPart.some_mid {n : Nat} (J : Nat → Nat → Bool) {x d : Nat} (h : ∃ D, IsPart n J x d D) : ∀ a, a ≤ n → ∃ D, IsMid n J x d a 0 D
  | 0, _ => by obtain ⟨D, hD⟩ := h; exact ⟨D, hD.mid⟩
  | a + 1, ha => by
    obtain ⟨D, hD⟩ := IsMid.some J (by omega) (IsPart.some_mid J h a (by omega)) n (Nat.le_refl _)
    exact ⟨D, hD.next⟩
theorem IsPart.some {n : Nat} (J : Nat → Nat → Bool) (x : Nat) : ∀ d, ∃ D, IsPart n J x d D
  | 0 => ⟨fun y => if y = x then 0 else -1, IsPart.zero J _ (by simp) (fun y _ hy => by simp [hy])⟩
  | d + 1 => by
    obtain ⟨D, hD⟩ := IsPart.some_mid J (IsPart.some J x d) n (Nat.le_refl _)
    exact ⟨D, hD.done⟩
theorem fn_map {n : Nat} (D : Nat → Int) {y : Nat} (hy : y < n) : fn ((List.range n).map D) y = D y := by simp [fn, List.getD_eq_getElem?_getD, hy]
theorem IsDist.congr {n : Nat} {J : Nat → Nat → Bool} {x : Nat} {D E : Nat → Int} (h : IsDist n J x D) (hx : x < n) (he : ∀ y, y < n → E y = D y) : IsDist n J x E where
  at0 := by rw [he x hx]; exact h.at0
  only := fun y hy e => h.only y hy (by rw [← he y hy]; exact e)
  low := fun y hy => by rw [he y hy]; exact h.low y hy
  step := fun y z hy hz h0 hj => by rw [he y hy] at h0 ⊢; rw [he z hz]; exact h.step y z hy hz h0 hj
  back := fun z hz h0 => by
    rw [he z hz] at h0
    obtain ⟨y, hy, e, hj⟩ := h.back z hz h0
    exact ⟨y, hy, by rw [he y hy, he z hz]; exact e, hj⟩
theorem dist_spec {n : Nat} (J : Nat → Nat → Bool) {x : Nat} (hx : x < n) : (dist n J x).length = n ∧ IsDist n J x (fn (dist n J x)) := by
  obtain ⟨D, hD⟩ := IsPart.some (n := n) J x n
  exact Classical.epsilon_spec (p := fun D : List Int => D.length = n ∧ IsDist n J x (fn D)) ⟨(List.range n).map D, by simp, hD.done.congr hx (fun y hy => fn_map D hy)⟩
theorem dist_len {n : Nat} (J : Nat → Nat → Bool) {x : Nat} (hx : x < n) : (dist n J x).length = n := (dist_spec J hx).1
theorem dist_lt {n : Nat} (J : Nat → Nat → Bool) {x y : Nat} (hx : x < n) (hy : y < n) : -1 ≤ fn (dist n J x) y ∧ fn (dist n J x) y < n :=
  ⟨(dist_spec J hx).2.low y hy, dist_small (dist_spec J hx).2.back hy⟩
end Go.Proofs.Ytphlpipbhaiijaa.P2

/- Distances are the same from both ends. -/
namespace Go.Proofs.Ytphlpipbhaiijaa.P2

section
variable {n : Nat} {J : Nat → Nat → Bool}
/-- at most one more behind an edge -/
theorem dist_edge {x y z : Nat} (hx : x < n) (hy : y < n) (hz : z < n) (h0 : 0 ≤ fn (dist n J x) y) (hJ : J y z = true) : 0 ≤ fn (dist n J x) z ∧ fn (dist n J x) z ≤ fn (dist n J x) y + 1 :=
  (dist_spec J hx).2.step y z hy hz h0 hJ
/-- an edge ahead of a way -/
theorem dist_ahead {b a : Nat} (hb : b < n) (ha : a < n) (hJ : J b a = true) : ∀ (k : Nat) v, v < n → fn (dist n J a) v = (k : Int) → 0 ≤ fn (dist n J b) v ∧ fn (dist n J b) v ≤ (k : Int) + 1
  | 0, v, hv, e => by
    obtain rfl := (dist_spec J ha).2.only v hv e
    have h := dist_edge (J := J) hb hb hv (by rw [(dist_spec J hb).2.at0]; omega) hJ
    rw [(dist_spec J hb).2.at0] at h
    omega
  | k + 1, v, hv, e => by
    obtain ⟨u, hu, eu, hj⟩ := (dist_spec J ha).2.back v hv (by omega)
    have ih := dist_ahead hb ha hJ k u hu (by omega)
    have := dist_edge hb hu hv ih.1 hj
    omega
/-- the first step of a way -/
theorem dist_first {z : Nat} (hz : z < n) : ∀ (k : Nat) v, v < n → fn (dist n J z) v = ((k + 1 : Nat) : Int) → ∃ u, u < n ∧ J z u = true ∧ fn (dist n J u) v = (k : Int)
  | 0, v, hv, e => by
    obtain ⟨w, hw, ew, hj⟩ := (dist_spec J hz).2.back v hv (by omega)
    obtain rfl := (dist_spec J hz).2.only w hw (by omega)
    exact ⟨v, hv, hj, (dist_spec J hv).2.at0⟩
  | k + 1, v, hv, e => by
    obtain ⟨w, hw, ew, hj⟩ := (dist_spec J hz).2.back v hv (by omega)
    obtain ⟨u, hu, hzu, hd⟩ := dist_first hz k w hw (by omega)
    have h1 := dist_edge hu hw hv (by omega) hj
    have h2 := dist_ahead hz hu hzu (fn (dist n J u) v).toNat v hv (by omega)
    exact ⟨u, hu, hzu, by omega⟩
theorem dist_symm (hJ : ∀ a b, J a b = J b a) {y z : Nat} (hy : y < n) (hz : z < n) : fn (dist n J z) y = fn (dist n J y) z := by
  have hE : IsDist n J y (fun z => fn (dist n J z) y) :=
    { at0 := (dist_spec J hy).2.at0
      only := fun a ha e => ((dist_spec J ha).2.only y hy e).symm
      low := fun a ha => (dist_spec J ha).2.low y hy
      step := fun a b ha hb h0 hj => by
        have h0' : 0 ≤ fn (dist n J a) y := h0
        have h := dist_ahead (J := J) hb ha ((hJ b a).trans hj) (fn (dist n J a) y).toNat y hy (by omega)
        show 0 ≤ fn (dist n J b) y ∧ fn (dist n J b) y ≤ fn (dist n J a) y + 1
        omega
      back := fun a ha h0 => by
        have h0' : 0 < fn (dist n J a) y := h0
        obtain ⟨k, hk⟩ : ∃ k : Nat, fn (dist n J a) y = ((k + 1 : Nat) : Int) := ⟨(fn (dist n J a) y).toNat - 1, by omega⟩
        obtain ⟨u, hu, hau, hd⟩ := dist_first ha k y hy hk
        refine ⟨u, hu, ?_, (hJ u a).trans hau⟩
        show fn (dist n J u) y = fn (dist n J a) y - 1
        omega }
  exact hE.eq (dist_spec J hy).2 z hz
end

/-- the next node of a first way to y -/
noncomputable def nxP (n : Nat) (J : Nat → Nat → Bool) (y a z : Nat) : Bool := J a z && decide (fn (dist n J z) y = fn (dist n J a) y - 1)
noncomputable def nxt (n : Nat) (J : Nat → Nat → Bool) (y a : Nat) : Nat := ((List.range n).find? (nxP n J y a)).getD 0
noncomputable def wayA (n : Nat) (J : Nat → Nat → Bool) (y x : Nat) : Nat → Nat
  | 0 => x
  | k + 1 => nxt n J y (wayA n J y x k)
noncomputable def wayT (n : Nat) (J : Nat → Nat → Bool) (y x k : Nat) : List Int := (List.range (k + 1)).map fun j => (wayA n J y x j : Int)
theorem wayT_len (n : Nat) (J : Nat → Nat → Bool) (y x k : Nat) : (wayT n J y x k).length = k + 1 := by simp [wayT]
theorem wayT_zero (n : Nat) (J : Nat → Nat → Bool) (y x : Nat) : wayT n J y x 0 = [(x : Int)] := rfl
theorem wayT_succ (n : Nat) (J : Nat → Nat → Bool) (y x k : Nat) : wayT n J y x (k + 1) = wayT n J y x k ++ [(wayA n J y x (k + 1) : Int)] := by
  unfold wayT; rw [List.range_succ (n := k + 1), List.map_append]; rfl
theorem nxt_spec {n : Nat} {J : Nat → Nat → Bool} {y a k : Nat} (ha : a < n) (hy : y < n) (hd : fn (dist n J a) y = ((k + 1 : Nat) : Int)) :
    nxt n J y a < n ∧ J a (nxt n J y a) = true ∧ fn (dist n J (nxt n J y a)) y = (k : Int) ∧ ∀ z, z < nxt n J y a → nxP n J y a z = false := by
  obtain ⟨u, hu, hau, hdu⟩ := dist_first ha k y hy hd
  have hpu : nxP n J y a u = true := by
    unfold nxP
    rw [hau, decide_eq_true (by omega)]; rfl
  cases hf : (List.range n).find? (nxP n J y a) with
  | none =>
    have := List.find?_eq_none.1 hf u (List.mem_range.2 hu)
    rw [hpu] at this; exact absurd rfl this
  | some z =>
    obtain ⟨h1, h2, h3⟩ := List.find?_range_eq_some.1 hf
    have hz : z < n := List.mem_range.1 h2
    have e : nxt n J y a = z := by unfold nxt; rw [hf]; rfl
    rw [e]
    unfold nxP at h1
    rw [Bool.and_eq_true] at h1
    refine ⟨hz, h1.1, ?_, fun j hj => ?_⟩
    · have := of_decide_eq_true h1.2; omega
    · have := h3 j hj; simpa using this
theorem way_at {n : Nat} {J : Nat → Nat → Bool} {y x K : Nat} (hx : x < n) (hy : y < n) (hd : fn (dist n J x) y = (K : Int)) : ∀ k, k ≤ K → wayA n J y x k < n ∧ fn (dist n J (wayA n J y x k)) y = ((K - k : Nat) : Int)
  | 0, _ => ⟨hx, by rw [Nat.sub_zero]; exact hd⟩
  | k + 1, hk => by
    have ih := way_at hx hy hd k (by omega)
    have h := nxt_spec (k := K - (k + 1)) ih.1 hy (by rw [ih.2]; omega)
    exact ⟨h.1, h.2.2.1⟩
theorem way_end {n : Nat} {J : Nat → Nat → Bool} {y x K : Nat} (hx : x < n) (hy : y < n) (hd : fn (dist n J x) y = (K : Int)) {k : Nat} (hk : k ≤ K) : wayA n J y x k = y ↔ k = K := by
  have h := way_at hx hy hd k hk
  constructor
  · intro e
    rw [e, (dist_spec J hy).2.at0] at h
    omega
  · rintro rfl
    rw [Nat.sub_self] at h
    exact ((dist_spec J h.1).2.only y hy h.2).symm
/-- the first number for which a test holds -/
theorem nw_head {p : Nat → Bool} {n z : Nat} (hz : z < n) (hp : p z = true) (h0 : ∀ j, j < z → p j = false) : (fns.nw p n)[0]? = some (z : Int) := by
  have hf : (List.range n).find? p = some z := List.find?_range_eq_some.2 ⟨hp, List.mem_range.2 hz, fun j hj => by simp [h0 j hj]⟩
  unfold fns.nw
  rw [List.getElem?_map, ← List.head?_eq_getElem?, List.head?_filter, hf]
  rfl
/-- the program's test for a step -/
theorem step_is {n : Nat} {J : Nat → Nat → Bool} (hJ : ∀ a b, J a b = J b a) {y a z : Nat} (hy : y < n) (ha : a < n) (hz : z < n) (h0 : 0 ≤ fn (dist n J a) y) :
    (J a z && decide (fn (dist n J y) z < fn (dist n J y) a)) = nxP n J y a z := by
  unfold nxP
  cases hj : J a z with
  | false => rfl
  | true =>
    rw [← dist_symm hJ hy hz, ← dist_symm hJ hy ha]
    show decide _ = decide _
    rw [decide_eq_decide]
    have h1 := dist_ahead (J := J) ha hz hj
    have h2 := dist_ahead (J := J) hz ha ((hJ z a).trans hj) (fn (dist n J a) y).toNat y hy (by omega)
    have h3 := h1 (fn (dist n J z) y).toNat y hy (by omega)
    omega
end Go.Proofs.Ytphlpipbhaiijaa.P2

/- The first order of the least greatest cost: plain mathematics. -/
namespace Go.Proofs.Ytphlpipbhaiijaa.costs
open Go.RowKit P2 words edges ints good adjs fns sets rets covs reach bags bitsI fronts
set_option linter.unusedVariables false

/-- a node that may come next: all others can be put behind it at no more than u -/
noncomputable def fitV (n : Nat) (cost : Nat → Nat → Int) (u : Int) (g x : Nat) : Bool := @decide (cost g x ≤ u ∧ Ch n cost u (g ||| 2 ^ x) (2 ^ n - 1)) (Classical.propDecidable _)
theorem fitV_iff {n : Nat} {cost : Nat → Nat → Int} {u : Int} {g x : Nat} : fitV n cost u g x = true ↔ cost g x ≤ u ∧ Ch n cost u (g ||| 2 ^ x) (2 ^ n - 1) := by exact @decide_eq_true_iff _ (Classical.propDecidable _)
theorem fitB_congr {n : Nat} {f h : Nat → Nat → Bool} {g : Nat} (e : ∀ x, x < n → g.testBit x = false → f g x = h g x) : ∀ z, z < n → fitB f g z = fitB h g z := fun z hz => by
  unfold fitB
  cases hb : g.testBit z with
  | true => rfl
  | false => rw [e z hz hb]
theorem ordN_congr {n : Nat} {f h : Nat → Nat → Bool} (e : ∀ g x, g < 2 ^ n → x < n → g.testBit x = false → f g x = h g x) : ∀ k, ordN n f k = ordN n h k
  | 0 => rfl
  | k + 1 => by
    rw [ordN, ordN, ordN_congr e k]
    cases hk : ordN n h k with
    | none => rfl
    | some s =>
      obtain ⟨g, L⟩ := s
      have hg := (ordN_ok hk).1
      simp only [Option.bind_some]
      rw [show nw (fitB f g) n = nw (fitB h g) n from reach.nw_congr (fitB_congr fun x hx hb => e g x hg hx hb)]
theorem ordL_congr {n : Nat} {f h : Nat → Nat → Bool} (e : ∀ g x, g < 2 ^ n → x < n → g.testBit x = false → f g x = h g x) : ordL n f = ordL n h := by unfold ordL; rw [ordN_congr e]
/-- the rests tell who fits -/
theorem fit_at {n : Nat} {cost : Nat → Nat → Int} {C : Nat → Int} {nil u : Int} (hn : n ≤ 8) (hfull : C (2 ^ n - 1) = nil) (h : ∀ c, c < 2 ^ n - 1 → LcAt n cost C c) (hu : nil ≤ u) {g x : Nat} (hg : g < 2 ^ n) (hx : x < n) :
    fitV n cost u g x = true ↔ cost g x ≤ u ∧ C (g ||| 2 ^ x) ≤ u := by
  rw [fitV_iff, lc_ch hn hfull h hu _ (g ||| 2 ^ x) (or_lt hg hx) (Nat.le_refl _)]
theorem fit_lc {n : Nat} {cost : Nat → Nat → Int} {C : Nat → Int} {nil : Int} (hn : n ≤ 8) (h : LcUp n cost nil 0 C) (h0 : nil ≤ C 0) {g x : Nat} (hg : g < 2 ^ n) (hx : x < n) : fitC cost C g x = fitV n cost (C 0) g x := by
  rw [Bool.eq_iff_iff, fit_at hn h.1 (fun c hc => h.2.1 c (by omega) hc) h0 hg hx]
  unfold fitC
  rw [decide_eq_true_iff]
  omega
/-- the nodes of the order so far are those of the set -/
theorem ordN_mem {n : Nat} {fit : Nat → Nat → Bool} : ∀ {k g : Nat} {L : List Int}, ordN n fit k = some (g, L) → goneB L = bitB g
  | 0, g, L, h => by
    cases h
    funext z
    unfold goneB
    simp [bitB]
  | k + 1, g, L, h => by
    rw [ordN] at h
    cases hk : ordN n fit k with
    | none => rw [hk] at h; cases h
    | some s =>
      obtain ⟨g0, L0⟩ := s
      rw [hk] at h
      simp only [Option.bind_some] at h
      cases hx : (nw (fitB fit g0) n)[0]? with
      | none => rw [hx] at h; cases h
      | some x =>
        rw [hx] at h
        cases h
        obtain ⟨z, hz, h2, rfl⟩ := mem_nw.1 (List.mem_of_getElem? hx)
        have h3 := ordN_mem hk
        funext y
        have h4 : goneB L0 y = bitB g0 y := by rw [h3]
        unfold goneB at h4 ⊢
        unfold bitB at h4 ⊢
        rw [Int.toNat_natCast, Bool.eq_iff_iff, decide_eq_true_iff, Nat.testBit_or, Bool.or_eq_true, ← h4, decide_eq_true_iff, List.mem_append, List.mem_singleton, Nat.testBit_two_pow]
        by_cases e : z = y
        · subst e; simp
        · have : ¬ (y : Int) = (z : Int) := by omega
          simp [e, this]
theorem ord_full {n k g : Nat} {fit : Nat → Nat → Bool} {L : List Int} (h : ordN n fit k = some (g, L)) (hk : k < n) : g ≠ 2 ^ n - 1 := fun e => by
  have h1 := ordN_mem h
  have h2 := (ordN_ok h).2
  have h3 : allN n ⊆ L := fun y hy => by
    obtain ⟨h4, h5⟩ := mem_allN.1 hy
    have h6 : goneB L y.toNat = true := by rw [h1, e]; unfold bitB; rw [Nat.testBit_two_pow_sub_one]; exact decide_eq_true (by omega)
    have h7 := of_decide_eq_true h6
    rwa [Int.toNat_of_nonneg h4] at h7
  have h8 := (each.allN_nodup n).length_le_of_subset h3
  rw [allN_len] at h8
  omega
/-- there is always a node that fits -/
theorem ord_go {n : Nat} {cost : Nat → Nat → Int} {u : Int} (h0 : Ch n cost u 0 (2 ^ n - 1)) : ∀ {k}, k ≤ n → ∃ g L, ordN n (fitV n cost u) k = some (g, L) ∧ Ch n cost u g (2 ^ n - 1)
  | 0, _ => ⟨0, [], rfl, h0⟩
  | k + 1, hk => by
    obtain ⟨g, L, h1, h2⟩ := ord_go (k := k) h0 (by omega)
    have hf := ord_full h1 (by omega)
    rcases h2.head with e | ⟨x, hx, hb, hc, hch⟩
    · exact absurd e hf
    · have hx0 : (nw (fitB (fitV n cost u) g) n)[0]? ≠ none := fun e => by
        have hl : (nw (fitB (fitV n cost u) g) n) = [] := by
          cases hl : nw (fitB (fitV n cost u) g) n with
          | nil => rfl
          | cons y ys => rw [hl] at e; cases e
        have : (x : Int) ∈ nw (fitB (fitV n cost u) g) n := mem_nw.2 ⟨x, hx, by unfold fitB; rw [hb, fitV_iff.2 ⟨hc, hch⟩]; rfl, rfl⟩
        rw [hl] at this; cases this
      cases hx1 : (nw (fitB (fitV n cost u) g) n)[0]? with
      | none => exact absurd hx1 hx0
      | some y =>
        obtain ⟨z, hz, h3, rfl⟩ := mem_nw.1 (List.mem_of_getElem? hx1)
        refine ⟨g ||| 2 ^ z, L ++ [(z : Int)], by rw [ordN, h1]; simp [hx1], ?_⟩
        unfold fitB at h3
        rw [Bool.and_eq_true, fitV_iff] at h3
        exact h3.2.2
/-- the first node that fits -/
theorem ord_next {n : Nat} {cost : Nat → Nat → Int} {u : Int} {k g : Nat} {L : List Int} (h : ordN n (fitV n cost u) k = some (g, L)) (hch : Ch n cost u g (2 ^ n - 1)) (hk : k < n) :
    ∃ z, z < n ∧ g.testBit z = false ∧ fitV n cost u g z = true ∧ (∀ y, y < z → fitB (fitV n cost u) g y = false) ∧ ordN n (fitV n cost u) (k + 1) = some (g ||| 2 ^ z, L ++ [(z : Int)]) ∧ Ch n cost u (g ||| 2 ^ z) (2 ^ n - 1) := by
  have hex : ∃ x, x < n ∧ fitB (fitV n cost u) g x = true := by
    rcases hch.head with e | ⟨x, hx, hb, hc, hc2⟩
    · exact absurd e (ord_full h hk)
    · exact ⟨x, hx, by unfold fitB; rw [hb, fitV_iff.2 ⟨hc, hc2⟩]; rfl⟩
  obtain ⟨z, ⟨hz, hf⟩, hmin⟩ : ∃ z, (z < n ∧ fitB (fitV n cost u) g z = true) ∧ ∀ y, y < z → ¬ (y < n ∧ fitB (fitV n cost u) g y = true) := by
    obtain ⟨x, hx⟩ := hex
    induction x using Nat.strongRecOn with
    | _ x ih =>
      by_cases hy : ∃ y, y < x ∧ y < n ∧ fitB (fitV n cost u) g y = true
      · obtain ⟨y, h1, h2⟩ := hy
        exact ih y h1 h2
      · exact ⟨x, hx, fun y hy1 hy2 => hy ⟨y, hy1, hy2⟩⟩
  have hm : ∀ y, y < z → fitB (fitV n cost u) g y = false := fun y hy => by
    cases hb : fitB (fitV n cost u) g y with
    | false => rfl
    | true => exact absurd ⟨by omega, hb⟩ (hmin y hy)
  have h1 := nw_head hz hf hm
  have h2 := hf
  unfold fitB at h2
  rw [Bool.and_eq_true] at h2
  exact ⟨z, hz, by simpa using h2.1, h2.2, hm, by rw [ordN, h]; simp [h1], (fitV_iff.1 h2.2).2⟩
end Go.Proofs.Ytphlpipbhaiijaa.costs

/- Fronts: the contracts of the model's l6Front and FrontOf. -/
namespace Go.Proofs.Ytphlpipbhaiijaa.fronts
open Go.RowKit P2 words edges ints good adjs fns sets rets covs reach bags balls
set_option linter.unusedVariables false

set_option maxHeartbeats 4000000 in
set_option maxRecDepth 100000 in
theorem l6Front_any (n : Nat) (v u : Value) (l : List Ed) (xs : List Int) (w : World) (h : Edges w v l) (hl : l.length ≤ 1048576) (hu : Ints w u xs) (hxl : xs.length ≤ 1048576) (hn8 : n ≤ 8) (hx : ∀ x ∈ xs, 0 ≤ x ∧ x < (n : Int)) :
    Calls Try.prog 135 #[.agg #[.int .i64 (n : Int), v], u] w (RowI w (froL n l xs)) := by
  obtain ⟨A, c, rfl, -⟩ := h.form
  obtain ⟨A2, c2, rfl, hc2⟩ := hu.form
  have H := Lib.hid h
  have HU := Lib.hid hu
  have HC2 := Lib.hid hc2
  have HX := Lib.hid hx
  have HB0 : Hid (Below w.heap.size w ((w.alloc (.cells #[.int .i64 (n : Int), .slice A l.length c] 29)).alloc (.cells #[] 3))) := ((Below.refl _ _).alloc (Nat.le_refl _) _).alloc (by simp) _
  have HG0 := Lib.hid ((Blk.new w 29 #[.int .i64 (n : Int), .slice A l.length c]).alloc (.cells #[] 3))
  have HP0 := Lib.hid (FrK.start n l xs)
  have HO0 : Hid (((w.alloc (.cells #[.int .i64 (n : Int), .slice A l.length c] 29)).alloc (.cells #[] 3)).ownsRow w.heap.size 3 1 (.slice (some ⟨w.heap.size + 1, 0, none⟩) 0 0) (nw (fun _ => false) n).length (cellsI (nw (fun _ => false) n))) := by
    show World.ownsRow _ _ _ _ _ _ _
    rw [nw_none]
    have h_ := own_new0 (w.alloc (.cells #[.int .i64 (n : Int), .slice A l.length c] 29)) 3 1
    rw [World.size_alloc] at h_
    exact own_base h_ (by omega)
  clear h hu hc2 hx
  go_enter Try.func135, Try.ntmps135
  go_wp2_with fail
  go_loopg [5, 6] xs.length (fun g ov iv wr => ∃ (i : Nat) (p : Nat → Bool) (ow : Value), ow = ov ∧ i + g = xs.length ∧ iv = .int .i64 (i : Int) ∧ Hid (FrK n l xs i 0 p) ∧ wr.ownsRow w.heap.size 3 1 ow (nw p n).length (cellsI (nw p n)) ∧ Blk wr w.heap.size 29 #[.int .i64 (n : Int), .slice A l.length c] ∧ Below w.heap.size w wr)
  case atStart => exact ⟨0, _, _, rfl, by omega, rfl, HP0, HO0.out, HG0.out, HB0.out⟩
  case round =>
    clear HB0 HG0 HP0 HO0
    obtain ⟨i, p, ow, rfl, hig, rfl, hfr, hrow, hgb, hB⟩ := hrel
    cases gk with
    | zero =>
      obtain rfl : i = xs.length := by omega
      have HALL : Hid (nw p n = froL n l xs) := hfr.out.all
      obtain ⟨A4, c4, rfl⟩ := own_form hrow
      have HR := Lib.hid hrow
      have HB := Lib.hid hB
      clear hrow hgb hB hfr
      go_wp2_with fail
      go_ret
      rw [← HALL.out]
      exact ⟨A4, c4, rfl, HR.out, HB.out⟩
    | succ g2 =>
      have hilt : (i : Int) < (xs.length : Int) := by omega
      obtain ⟨xv, hxv⟩ : ∃ xv, xs[i]? = some xv := ⟨_, List.getElem?_eq_getElem (by omega)⟩
      have hxr := HX.out xv (List.mem_of_getElem? hxv)
      obtain ⟨x, rfl⟩ : ∃ x : Nat, xv = (x : Int) := ⟨xv.toNat, by omega⟩
      have hxn : x < n := by omega
      obtain ⟨g5, o5, rfl, c5⟩ := HC2.out i _ hxv
      have HXV := Lib.hid hxv
      have HC5 := Lib.hid c5
      have HR0 := Lib.hid hrow
      have HG0 := Lib.hid hgb
      have HB0 := Lib.hid hB
      clear hxv c5 hrow hgb hB
      go_wp2_with fail
      go_loopg [5, 7] n (fun g ov kv wr => ∃ (k : Nat) (p : Nat → Bool) (ow : Value), ow = ov ∧ k + g = n ∧ kv = .int .i64 (k : Int) ∧ Hid (FrK n l xs i k p) ∧ wr.ownsRow w.heap.size 3 1 ow (nw p n).length (cellsI (nw p n)) ∧ Blk wr w.heap.size 29 #[.int .i64 (n : Int), .slice A l.length c] ∧ Below w.heap.size w wr)
      case atStart => exact ⟨0, p, _, rfl, by omega, rfl, hfr, HR0.out, HG0.out, HB0.out⟩
      case round =>
        clear hfr HR0 HG0 HB0
        obtain ⟨k, p, ow, rfl, hkg, rfl, hfr, hrow, hgb, hB⟩ := hrel
        obtain ⟨A6, c6, rfl⟩ := own_form hrow
        have hpl := nw_len p n
        have q5 := nearv.cell_keep HC5.out hB
        obtain ⟨p0, p1, -, -⟩ := hgb.two
        cases gk with
        | zero =>
          obtain rfl : k = n := by omega
          have HN := Lib.hid hfr.out.next
          have HR := Lib.hid hrow
          have HG := Lib.hid hgb
          have HB := Lib.hid hB
          clear hrow hgb hB hfr
          go_wp2_with fail
          go_roundg g2
          case measure => omega
          case rel => exact ⟨i + 1, p, _, rfl, by omega, by go_num, HN, HR.out, HG.out, HB.out⟩
        | succ g4 =>
          have hk' : (k : Int) < (n : Int) := by omega
          have hkn : k < n := by omega
          have HNR := Lib.hid (l2Near_any (n : Int) (x : Int) (k : Int) (.slice A l.length c) l wr.drew (H.out.below hB.drew) hl)
          have HHAS := Lib.hid (fun (W : World) (hb : Below w.heap.size w W) => l1Has_any (.slice (some ⟨g5, o5, none⟩) xs.length c2) xs (k : Int) W (HU.out.below hb) hxl)
          have HPUT := Lib.hid (fun (W : World) (hb : Below wr.heap.size wr W) => l1Put_own _ (nw p n) (x : Int) W w.heap.size (own_below hrow hb) (Nat.le_trans hB.size hb.size) (by omega) (nw_asc _ _))
          have HR := Lib.hid hrow
          have HG := Lib.hid hgb
          have HB := Lib.hid hB
          have HFR := Lib.hid hfr.out
          clear hrow hgb hB hpl hfr
          cases hj : adj l (x : Int) (k : Int) with
          | false =>
            have HN := Lib.hid (HFR.out.skip HXV.out (.inr hj))
            rw [hj] at HNR
            clear hj HPUT HHAS
            go_wp2_with fail
            refine wp_region_held_drew (S := (fun w' : World => w'.cell? ⟨w.heap.size, 0, none⟩ = some (.int .i64 (n : Int)) ∧ w'.cell? ⟨w.heap.size, 1, none⟩ = some (.slice A l.length c) ∧ w'.cell? ⟨g5, o5 + i, none⟩ = some (.int .i64 (x : Int)))) (by kernel_rfl) (by (try dsimp only); simp [*]) (fun hHeld => ?_)
            change wpAnyH _ _ _ _ _ _ #[false, false, false, false, false, false, false, false, false, false, false, false, false] _ _
            refine wpAnyH_take (i := 0) (oi := ⟨some 21, _, _, _, _, _⟩) (v := ?_) rfl (by kernel_rfl) (by kernel_rfl) (by kernel_rfl) (fun _ _ _ h => h) (Or.inl ⟨by rfl, ?_⟩) (by assumption) ?_
            rotate_left
            · (intro w hSw; (try dsimp only at hSw); go_simp; (try (with_reducible rfl)))
            try simp only [Act.put, List.setIfInBounds_toArray, List.set_cons_zero, List.set_cons_succ]
            refine wpAnyH_take (i := 1) (oi := ⟨some 22, _, _, _, _, _⟩) (v := ?_) rfl (by kernel_rfl) (by kernel_rfl) (by kernel_rfl) (fun _ _ _ h => h) (Or.inl ⟨by rfl, ?_⟩) (by assumption) ?_
            rotate_left
            · (intro w hSw; (try dsimp only at hSw); go_simp; (try (with_reducible rfl)))
            try simp only [Act.put, List.setIfInBounds_toArray, List.set_cons_zero, List.set_cons_succ]
            refine wpAnyH_take (i := 2) (oi := ⟨some 23, _, _, _, _, _⟩) (v := ?_) rfl (by kernel_rfl) (by kernel_rfl) (by kernel_rfl) (fun _ _ _ h => h) (Or.inl ⟨by rfl, ?_⟩) (by assumption) ?_
            rotate_left
            · (intro w hSw; (try dsimp only at hSw); go_simp; (try (with_reducible rfl)))
            try simp only [Act.put, List.setIfInBounds_toArray, List.set_cons_zero, List.set_cons_succ]
            refine wpAnyH_take (i := 3) (oi := ⟨some 24, _, _, _, _, _⟩) (v := ?_) rfl (by kernel_rfl) (by kernel_rfl) (by kernel_rfl) (fun _ _ _ h => h) (Or.inl ⟨by rfl, ?_⟩) (by assumption) ?_
            rotate_left
            · (intro w hSw; (try dsimp only at hSw); go_simp; (try (with_reducible rfl)))
            try simp only [Act.put, List.setIfInBounds_toArray, List.set_cons_zero, List.set_cons_succ]
            refine wpAnyH_take (i := 4) (oi := ⟨some 25, _, _, _, _, _⟩) (v := ?_) rfl (by kernel_rfl) (by kernel_rfl) (by kernel_rfl) (fun _ _ _ h => h) (Or.inl ⟨by rfl, ?_⟩) (by assumption) ?_
            rotate_left
            · (intro w hSw; (try dsimp only at hSw); go_simp; (try (with_reducible rfl)))
            try simp only [Act.put, List.setIfInBounds_toArray, List.set_cons_zero, List.set_cons_succ]
            refine wpAnyH_take (i := 5) (oi := ⟨some 26, _, _, _, _, _⟩) (v := ?_) rfl (by kernel_rfl) (by kernel_rfl) (by kernel_rfl) (fun _ _ _ h => h) (Or.inl ⟨by rfl, ?_⟩) (by assumption) ?_
            rotate_left
            · (intro w hSw; (try dsimp only at hSw); go_simp; (try (with_reducible rfl)))
            try simp only [Act.put, List.setIfInBounds_toArray, List.set_cons_zero, List.set_cons_succ]
            refine wpAnyH_ready (rs := [6]) (by kernel_rfl) (by simp) ?_
            refine AllReadyH.cons (o := ⟨some 27, _, _, _, _, _⟩) rfl (fun K hK => ?_) AllReadyH.nil
            go_simp
            refine (keep4 HNR.out (p := ⟨w.heap.size, 0, none⟩) (q := ⟨w.heap.size, 1, none⟩) (r := ⟨g5, o5 + i, none⟩) (s := ⟨g5, o5 + i, none⟩) (a := .int .i64 (n : Int)) (b := .slice A l.length c) (c := .int .i64 (x : Int)) (d := .int .i64 (x : Int)) ?_ ?_ ?_ ?_).mono ?_; (simp [*]); (simp [*]); (simp [*]); (simp [*]); rintro e w1 ⟨rfl, k0, k1, k2, k3, b1⟩; have d1 : Below wr.heap.size wr w1 := (Below.refl _ _).drew.trans b1; have HB1 := Lib.hid (btrans HB.out d1)
            go_wp2_with fail
            refine hK.out _ _ (by (try dsimp only); simp [*]) (fun hHeld => ?_)
            clear hK K
            try simp only [List.setIfInBounds_toArray, List.set_cons_zero, List.set_cons_succ]
            refine wpAnyH_take (i := 7) (oi := ⟨some 28, _, _, _, _, _⟩) (v := ?_) rfl (by kernel_rfl) (by kernel_rfl) (by kernel_rfl) (fun _ _ _ h => h) (Or.inl ⟨by rfl, ?_⟩) (by assumption) ?_
            rotate_left
            · (intro w hSw; (try dsimp only at hSw); go_simp; (try (with_reducible rfl)))
            try simp only [Act.put, List.setIfInBounds_toArray, List.set_cons_zero, List.set_cons_succ]
            refine wpAnyH_take (i := 8) (oi := ⟨some 29, _, _, _, _, _⟩) (v := undef) rfl (by kernel_rfl) (by kernel_rfl) (by kernel_rfl) (fun _ _ _ h => h) (Or.inr ⟨by rfl, rfl⟩) (by assumption) ?_
            try simp only [Act.put, List.setIfInBounds_toArray, List.set_cons_zero, List.set_cons_succ]
            refine wpAnyH_take (i := 9) (oi := ⟨some 30, _, _, _, _, _⟩) (v := undef) rfl (by kernel_rfl) (by kernel_rfl) (by kernel_rfl) (fun _ _ _ h => h) (Or.inr ⟨by rfl, rfl⟩) (by assumption) ?_
            try simp only [Act.put, List.setIfInBounds_toArray, List.set_cons_zero, List.set_cons_succ]
            refine wpAnyH_take (i := 10) (oi := ⟨some 31, _, _, _, _, _⟩) (v := undef) rfl (by kernel_rfl) (by kernel_rfl) (by kernel_rfl) (fun _ _ _ h => h) (Or.inr ⟨by rfl, rfl⟩) (by assumption) ?_
            try simp only [Act.put, List.setIfInBounds_toArray, List.set_cons_zero, List.set_cons_succ]
            refine wpAnyH_take (i := 11) (oi := ⟨some 32, _, _, _, _, _⟩) (v := undef) rfl (by kernel_rfl) (by kernel_rfl) (by kernel_rfl) (fun _ _ _ h => h) (Or.inr ⟨by rfl, rfl⟩) (by assumption) ?_
            try simp only [Act.put, List.setIfInBounds_toArray, List.set_cons_zero, List.set_cons_succ]
            refine wpAnyH_take (i := 12) (oi := ⟨some 33, _, _, _, _, _⟩) (v := ?_) rfl (by kernel_rfl) (by kernel_rfl) (by kernel_rfl) (fun _ _ _ h => h) (Or.inl ⟨by rfl, ?_⟩) (by assumption) ?_
            rotate_left
            · (intro w hSw; (try dsimp only at hSw); go_simp; (try (with_reducible rfl)))
            try simp only [Act.put, List.setIfInBounds_toArray, List.set_cons_zero, List.set_cons_succ]
            refine wpAnyH_done (by kernel_rfl) ?_ _
            have HR1 := Lib.hid (own_below HR.out d1)
            have HG1 := Lib.hid (HG.out.below d1 HG.out.lt)
            clear b1 d1 k0 k1 k2 k3
            go_wp2_with fail
            go_roundg g4
            case measure => omega
            case rel => exact ⟨k + 1, p, _, rfl, by omega, by go_num, HN, HR1.out, HG1.out, HB1.out⟩
          | true =>
            rw [hj] at HNR
            cases hgo : goneB xs k with
            | true =>
              have HN := Lib.hid (HFR.out.skip HXV.out (.inl hgo))
              have HD : Hid (decide ((k : Int) ∈ xs) = true) := hgo
              rw [HD.out] at HHAS
              clear hj HPUT hgo
              go_wp2_with fail
              refine wp_region_held_drew (S := (fun w' : World => w'.cell? ⟨w.heap.size, 0, none⟩ = some (.int .i64 (n : Int)) ∧ w'.cell? ⟨w.heap.size, 1, none⟩ = some (.slice A l.length c) ∧ w'.cell? ⟨g5, o5 + i, none⟩ = some (.int .i64 (x : Int)))) (by kernel_rfl) (by (try dsimp only); simp [*]) (fun hHeld => ?_)
              change wpAnyH _ _ _ _ _ _ #[false, false, false, false, false, false, false, false, false, false, false, false, false] _ _
              refine wpAnyH_take (i := 0) (oi := ⟨some 21, _, _, _, _, _⟩) (v := ?_) rfl (by kernel_rfl) (by kernel_rfl) (by kernel_rfl) (fun _ _ _ h => h) (Or.inl ⟨by rfl, ?_⟩) (by assumption) ?_
              rotate_left
              · (intro w hSw; (try dsimp only at hSw); go_simp; (try (with_reducible rfl)))
              try simp only [Act.put, List.setIfInBounds_toArray, List.set_cons_zero, List.set_cons_succ]
              refine wpAnyH_take (i := 1) (oi := ⟨some 22, _, _, _, _, _⟩) (v := ?_) rfl (by kernel_rfl) (by kernel_rfl) (by kernel_rfl) (fun _ _ _ h => h) (Or.inl ⟨by rfl, ?_⟩) (by assumption) ?_
              rotate_left
              · (intro w hSw; (try dsimp only at hSw); go_simp; (try (with_reducible rfl)))
              try simp only [Act.put, List.setIfInBounds_toArray, List.set_cons_zero, List.set_cons_succ]
              refine wpAnyH_take (i := 2) (oi := ⟨some 23, _, _, _, _, _⟩) (v := ?_) rfl (by kernel_rfl) (by kernel_rfl) (by kernel_rfl) (fun _ _ _ h => h) (Or.inl ⟨by rfl, ?_⟩) (by assumption) ?_
              rotate_left
              · (intro w hSw; (try dsimp only at hSw); go_simp; (try (with_reducible rfl)))
              try simp only [Act.put, List.setIfInBounds_toArray, List.set_cons_zero, List.set_cons_succ]
              refine wpAnyH_take (i := 3) (oi := ⟨some 24, _, _, _, _, _⟩) (v := ?_) rfl (by kernel_rfl) (by kernel_rfl) (by kernel_rfl) (fun _ _ _ h => h) (Or.inl ⟨by rfl, ?_⟩) (by assumption) ?_
              rotate_left
              · (intro w hSw; (try dsimp only at hSw); go_simp; (try (with_reducible rfl)))
              try simp only [Act.put, List.setIfInBounds_toArray, List.set_cons_zero, List.set_cons_succ]
              refine wpAnyH_take (i := 4) (oi := ⟨some 25, _, _, _, _, _⟩) (v := ?_) rfl (by kernel_rfl) (by kernel_rfl) (by kernel_rfl) (fun _ _ _ h => h) (Or.inl ⟨by rfl, ?_⟩) (by assumption) ?_
              rotate_left
              · (intro w hSw; (try dsimp only at hSw); go_simp; (try (with_reducible rfl)))
              try simp only [Act.put, List.setIfInBounds_toArray, List.set_cons_zero, List.set_cons_succ]
              refine wpAnyH_take (i := 5) (oi := ⟨some 26, _, _, _, _, _⟩) (v := ?_) rfl (by kernel_rfl) (by kernel_rfl) (by kernel_rfl) (fun _ _ _ h => h) (Or.inl ⟨by rfl, ?_⟩) (by assumption) ?_
              rotate_left
              · (intro w hSw; (try dsimp only at hSw); go_simp; (try (with_reducible rfl)))
              try simp only [Act.put, List.setIfInBounds_toArray, List.set_cons_zero, List.set_cons_succ]
              refine wpAnyH_ready (rs := [6]) (by kernel_rfl) (by simp) ?_
              refine AllReadyH.cons (o := ⟨some 27, _, _, _, _, _⟩) rfl (fun K hK => ?_) AllReadyH.nil
              go_simp
              refine (keep4 HNR.out (p := ⟨w.heap.size, 0, none⟩) (q := ⟨w.heap.size, 1, none⟩) (r := ⟨g5, o5 + i, none⟩) (s := ⟨g5, o5 + i, none⟩) (a := .int .i64 (n : Int)) (b := .slice A l.length c) (c := .int .i64 (x : Int)) (d := .int .i64 (x : Int)) ?_ ?_ ?_ ?_).mono ?_; (simp [*]); (simp [*]); (simp [*]); (simp [*]); rintro e w1 ⟨rfl, k0, k1, k2, k3, b1⟩; have d1 : Below wr.heap.size wr w1 := (Below.refl _ _).drew.trans b1; have HB1 := Lib.hid (btrans HB.out d1)
              go_wp2_with fail
              refine hK.out _ _ (by (try dsimp only); simp [*]) (fun hHeld => ?_)
              clear hK K
              try simp only [List.setIfInBounds_toArray, List.set_cons_zero, List.set_cons_succ]
              refine wpAnyH_take (i := 7) (oi := ⟨some 28, _, _, _, _, _⟩) (v := ?_) rfl (by kernel_rfl) (by kernel_rfl) (by kernel_rfl) (fun _ _ _ h => h) (Or.inl ⟨by rfl, ?_⟩) (by assumption) ?_
              rotate_left
              · (intro w hSw; (try dsimp only at hSw); go_simp; (try (with_reducible rfl)))
              try simp only [Act.put, List.setIfInBounds_toArray, List.set_cons_zero, List.set_cons_succ]
              refine wpAnyH_take (i := 8) (oi := ⟨some 29, _, _, _, _, _⟩) (v := ?_) rfl (by kernel_rfl) (by kernel_rfl) (by kernel_rfl) (fun _ _ _ h => h) (Or.inl ⟨by rfl, ?_⟩) (by assumption) ?_
              rotate_left
              · (intro w hSw; (try dsimp only at hSw); go_simp; (try (with_reducible rfl)))
              try simp only [Act.put, List.setIfInBounds_toArray, List.set_cons_zero, List.set_cons_succ]
              refine wpAnyH_take (i := 9) (oi := ⟨some 30, _, _, _, _, _⟩) (v := ?_) rfl (by kernel_rfl) (by kernel_rfl) (by kernel_rfl) (fun _ _ _ h => h) (Or.inl ⟨by rfl, ?_⟩) (by assumption) ?_
              rotate_left
              · (intro w hSw; (try dsimp only at hSw); go_simp; (try (with_reducible rfl)))
              try simp only [Act.put, List.setIfInBounds_toArray, List.set_cons_zero, List.set_cons_succ]
              refine wpAnyH_ready (rs := [10]) (by kernel_rfl) (by simp) ?_
              refine AllReadyH.cons (o := ⟨some 31, _, _, _, _, _⟩) rfl (fun K hK => ?_) AllReadyH.nil
              go_simp
              refine (HHAS.out _ HB1.out).mono ?_; rintro e w' ⟨rfl, rfl⟩
              go_wp2_with fail
              refine hK.out _ _ (by (try dsimp only); simp [*]) (fun hHeld => ?_)
              clear hK K
              try simp only [List.setIfInBounds_toArray, List.set_cons_zero, List.set_cons_succ]
              refine wpAnyH_take (i := 11) (oi := ⟨some 32, _, _, _, _, _⟩) (v := ?_) rfl (by kernel_rfl) (by kernel_rfl) (by kernel_rfl) (fun _ _ _ h => h) (Or.inl ⟨by rfl, ?_⟩) (by assumption) ?_
              rotate_left
              · (intro w hSw; (try dsimp only at hSw); go_simp; (try (with_reducible rfl)))
              try simp only [Act.put, List.setIfInBounds_toArray, List.set_cons_zero, List.set_cons_succ]
              refine wpAnyH_take (i := 12) (oi := ⟨some 33, _, _, _, _, _⟩) (v := ?_) rfl (by kernel_rfl) (by kernel_rfl) (by kernel_rfl) (fun _ _ _ h => h) (Or.inl ⟨by rfl, ?_⟩) (by assumption) ?_
              rotate_left
              · (intro w hSw; (try dsimp only at hSw); go_simp; (try (with_reducible rfl)))
              try simp only [Act.put, List.setIfInBounds_toArray, List.set_cons_zero, List.set_cons_succ]
              refine wpAnyH_done (by kernel_rfl) ?_ _
              have HR1 := Lib.hid (own_below HR.out d1)
              have HG1 := Lib.hid (HG.out.below d1 HG.out.lt)
              clear b1 d1 k0 k1 k2 k3
              go_wp2_with fail
              go_roundg g4
              case measure => omega
              case rel => exact ⟨k + 1, p, _, rfl, by omega, by go_num, HN, HR1.out, HG1.out, HB1.out⟩
            | false =>
              have HN := Lib.hid (HFR.out.put HXV.out hgo hj hkn)
              have HD : Hid (decide ((k : Int) ∈ xs) = false) := hgo
              rw [HD.out] at HHAS
              clear hj hgo
              go_wp2_with fail
              refine wp_region_held_drew (S := (fun w' : World => w'.cell? ⟨w.heap.size, 0, none⟩ = some (.int .i64 (n : Int)) ∧ w'.cell? ⟨w.heap.size, 1, none⟩ = some (.slice A l.length c) ∧ w'.cell? ⟨g5, o5 + i, none⟩ = some (.int .i64 (x : Int)))) (by kernel_rfl) (by (try dsimp only); simp [*]) (fun hHeld => ?_)
              change wpAnyH _ _ _ _ _ _ #[false, false, false, false, false, false, false, false, false, false, false, false, false] _ _
              refine wpAnyH_take (i := 0) (oi := ⟨some 21, _, _, _, _, _⟩) (v := ?_) rfl (by kernel_rfl) (by kernel_rfl) (by kernel_rfl) (fun _ _ _ h => h) (Or.inl ⟨by rfl, ?_⟩) (by assumption) ?_
              rotate_left
              · (intro w hSw; (try dsimp only at hSw); go_simp; (try (with_reducible rfl)))
              try simp only [Act.put, List.setIfInBounds_toArray, List.set_cons_zero, List.set_cons_succ]
              refine wpAnyH_take (i := 1) (oi := ⟨some 22, _, _, _, _, _⟩) (v := ?_) rfl (by kernel_rfl) (by kernel_rfl) (by kernel_rfl) (fun _ _ _ h => h) (Or.inl ⟨by rfl, ?_⟩) (by assumption) ?_
              rotate_left
              · (intro w hSw; (try dsimp only at hSw); go_simp; (try (with_reducible rfl)))
              try simp only [Act.put, List.setIfInBounds_toArray, List.set_cons_zero, List.set_cons_succ]
              refine wpAnyH_take (i := 2) (oi := ⟨some 23, _, _, _, _, _⟩) (v := ?_) rfl (by kernel_rfl) (by kernel_rfl) (by kernel_rfl) (fun _ _ _ h => h) (Or.inl ⟨by rfl, ?_⟩) (by assumption) ?_
              rotate_left
              · (intro w hSw; (try dsimp only at hSw); go_simp; (try (with_reducible rfl)))
              try simp only [Act.put, List.setIfInBounds_toArray, List.set_cons_zero, List.set_cons_succ]
              refine wpAnyH_take (i := 3) (oi := ⟨some 24, _, _, _, _, _⟩) (v := ?_) rfl (by kernel_rfl) (by kernel_rfl) (by kernel_rfl) (fun _ _ _ h => h) (Or.inl ⟨by rfl, ?_⟩) (by assumption) ?_
              rotate_left
              · (intro w hSw; (try dsimp only at hSw); go_simp; (try (with_reducible rfl)))
              try simp only [Act.put, List.setIfInBounds_toArray, List.set_cons_zero, List.set_cons_succ]
              refine wpAnyH_take (i := 4) (oi := ⟨some 25, _, _, _, _, _⟩) (v := ?_) rfl (by kernel_rfl) (by kernel_rfl) (by kernel_rfl) (fun _ _ _ h => h) (Or.inl ⟨by rfl, ?_⟩) (by assumption) ?_
              rotate_left
              · (intro w hSw; (try dsimp only at hSw); go_simp; (try (with_reducible rfl)))
              try simp only [Act.put, List.setIfInBounds_toArray, List.set_cons_zero, List.set_cons_succ]
              refine wpAnyH_take (i := 5) (oi := ⟨some 26, _, _, _, _, _⟩) (v := ?_) rfl (by kernel_rfl) (by kernel_rfl) (by kernel_rfl) (fun _ _ _ h => h) (Or.inl ⟨by rfl, ?_⟩) (by assumption) ?_
              rotate_left
              · (intro w hSw; (try dsimp only at hSw); go_simp; (try (with_reducible rfl)))
              try simp only [Act.put, List.setIfInBounds_toArray, List.set_cons_zero, List.set_cons_succ]
              refine wpAnyH_ready (rs := [6]) (by kernel_rfl) (by simp) ?_
              refine AllReadyH.cons (o := ⟨some 27, _, _, _, _, _⟩) rfl (fun K hK => ?_) AllReadyH.nil
              go_simp
              refine (keep4 HNR.out (p := ⟨w.heap.size, 0, none⟩) (q := ⟨w.heap.size, 1, none⟩) (r := ⟨g5, o5 + i, none⟩) (s := ⟨g5, o5 + i, none⟩) (a := .int .i64 (n : Int)) (b := .slice A l.length c) (c := .int .i64 (x : Int)) (d := .int .i64 (x : Int)) ?_ ?_ ?_ ?_).mono ?_; (simp [*]); (simp [*]); (simp [*]); (simp [*]); rintro e w1 ⟨rfl, k0, k1, k2, k3, b1⟩; have d1 : Below wr.heap.size wr w1 := (Below.refl _ _).drew.trans b1; have HB1 := Lib.hid (btrans HB.out d1)
              go_wp2_with fail
              refine hK.out _ _ (by (try dsimp only); simp [*]) (fun hHeld => ?_)
              clear hK K
              try simp only [List.setIfInBounds_toArray, List.set_cons_zero, List.set_cons_succ]
              refine wpAnyH_take (i := 7) (oi := ⟨some 28, _, _, _, _, _⟩) (v := ?_) rfl (by kernel_rfl) (by kernel_rfl) (by kernel_rfl) (fun _ _ _ h => h) (Or.inl ⟨by rfl, ?_⟩) (by assumption) ?_
              rotate_left
              · (intro w hSw; (try dsimp only at hSw); go_simp; (try (with_reducible rfl)))
              try simp only [Act.put, List.setIfInBounds_toArray, List.set_cons_zero, List.set_cons_succ]
              refine wpAnyH_take (i := 8) (oi := ⟨some 29, _, _, _, _, _⟩) (v := ?_) rfl (by kernel_rfl) (by kernel_rfl) (by kernel_rfl) (fun _ _ _ h => h) (Or.inl ⟨by rfl, ?_⟩) (by assumption) ?_
              rotate_left
              · (intro w hSw; (try dsimp only at hSw); go_simp; (try (with_reducible rfl)))
              try simp only [Act.put, List.setIfInBounds_toArray, List.set_cons_zero, List.set_cons_succ]
              refine wpAnyH_take (i := 9) (oi := ⟨some 30, _, _, _, _, _⟩) (v := ?_) rfl (by kernel_rfl) (by kernel_rfl) (by kernel_rfl) (fun _ _ _ h => h) (Or.inl ⟨by rfl, ?_⟩) (by assumption) ?_
              rotate_left
              · (intro w hSw; (try dsimp only at hSw); go_simp; (try (with_reducible rfl)))
              try simp only [Act.put, List.setIfInBounds_toArray, List.set_cons_zero, List.set_cons_succ]
              refine wpAnyH_ready (rs := [10]) (by kernel_rfl) (by simp) ?_
              refine AllReadyH.cons (o := ⟨some 31, _, _, _, _, _⟩) rfl (fun K hK => ?_) AllReadyH.nil
              go_simp
              refine (HHAS.out _ HB1.out).mono ?_; rintro e w' ⟨rfl, rfl⟩
              go_wp2_with fail
              refine hK.out _ _ (by (try dsimp only); simp [*]) (fun hHeld => ?_)
              clear hK K
              try simp only [List.setIfInBounds_toArray, List.set_cons_zero, List.set_cons_succ]
              refine wpAnyH_take (i := 11) (oi := ⟨some 32, _, _, _, _, _⟩) (v := ?_) rfl (by kernel_rfl) (by kernel_rfl) (by kernel_rfl) (fun _ _ _ h => h) (Or.inl ⟨by rfl, ?_⟩) (by assumption) ?_
              rotate_left
              · (intro w hSw; (try dsimp only at hSw); go_simp; (try (with_reducible rfl)))
              try simp only [Act.put, List.setIfInBounds_toArray, List.set_cons_zero, List.set_cons_succ]
              refine wpAnyH_take (i := 12) (oi := ⟨some 33, _, _, _, _, _⟩) (v := ?_) rfl (by kernel_rfl) (by kernel_rfl) (by kernel_rfl) (fun _ _ _ h => h) (Or.inl ⟨by rfl, ?_⟩) (by assumption) ?_
              rotate_left
              · (intro w hSw; (try dsimp only at hSw); go_simp; (try (with_reducible rfl)))
              try simp only [Act.put, List.setIfInBounds_toArray, List.set_cons_zero, List.set_cons_succ]
              refine wpAnyH_done (by kernel_rfl) ?_ _
              have HP1 := Lib.hid (HPUT.out w1 d1)
              have HG1 := Lib.hid (HG.out.below d1 HG.out.lt)
              have q7 := nearv.cell_keep HC5.out HB1.out
              clear b1 d1 q5 k0 k1 k2 k3
              go_wp2_with fail
              refine HP1.out.mono ?_
              rintro e w2 ⟨L, A7, c7, rfl, hp7, o7, b7⟩
              have HL := Lib.hid (pput_is hp7 hxn)
              have HG2 := Lib.hid (HG1.out.below b7 HG1.out.lt)
              have HB2 := Lib.hid (btrans HB1.out b7)
              have HO7 := Lib.hid o7
              clear b7 hp7 o7
              go_wp2_with fail
              go_roundg g4
              case measure => omega
              case rel => exact ⟨k + 1, pput p x, _, rfl, by omega, by go_num, HN, by rw [← HL.out]; exact HO7.out, HG2.out, HB2.out⟩
end Go.Proofs.Ytphlpipbhaiijaa.fronts

/- The contracts of the program's frontAt and FrontSizes. -/
namespace Go.Proofs.Ytphlpipbhaiijaa.fronts
open Go.RowKit P2 words edges ints good adjs fns sets rets covs reach bags balls bitsI each
set_option linter.unusedVariables false

/-- how many nodes there are in the front of the first i + 1 nodes -/
noncomputable def fsz (n : Nat) (l : List Ed) (tl : List Int) (i : Nat) : Int := ((nw (frontB l n (goneB (tl.take (i + 1)))) n).length : Int)
noncomputable def fszK (n : Nat) (l : List Ed) (tl : List Int) (k : Nat) : List Int := (List.range k).map (fsz n l tl)
theorem fszK_len (n : Nat) (l : List Ed) (tl : List Int) (k : Nat) : (fszK n l tl k).length = k := by simp [fszK]
theorem fszK_succ (n : Nat) (l : List Ed) (tl : List Int) (k : Nat) : fszK n l tl (k + 1) = fszK n l tl k ++ [fsz n l tl k] := by simp [fszK, List.range_succ]
noncomputable def fszR (n : Nat) (l : List Ed) (tl : List Int) (k : Nat) : List Int := fszK n l tl k ++ List.replicate (n - k) 0
theorem fszR_len (n : Nat) (l : List Ed) (tl : List Int) {k : Nat} (h : k ≤ n) : (fszR n l tl k).length = n := by simp [fszR, fszK_len]; omega
theorem fszR_zero (n : Nat) (l : List Ed) (tl : List Int) : fszR n l tl 0 = List.replicate n 0 := by simp [fszR, fszK]
theorem fszR_all (n : Nat) (l : List Ed) (tl : List Int) : fszR n l tl n = fszK n l tl n := by simp [fszR]
theorem fszR_set {n : Nat} {l : List Ed} {tl : List Int} {k : Nat} (h : k < n) : (fszR n l tl k).set k (fsz n l tl k) = fszR n l tl (k + 1) := by
  unfold fszR
  rw [show n - k = (n - (k + 1)) + 1 from by omega, List.replicate_succ, List.set_append_right _ _ (by rw [fszK_len]; exact Nat.le_refl _), fszK_len, Nat.sub_self, List.set_cons_zero, fszK_succ, List.append_assoc]
  rfl
theorem cellsI_set (l : List Int) (k : Nat) (x : Int) : (cellsI l).set k (.int .i64 x) = cellsI (l.set k x) := by simp [cellsI, List.map_set]
theorem fsz_len (s : Int) (l : List Ed) (tl : List Int) : (inG (ElimOk s l tl) (fszK s.toNat l tl s.toNat)).length ≤ 1048576 := inG_len fun hp => by
  rw [fszK_len]; have := hp.1.1; have := hp.1.2.1; omega
set_option maxHeartbeats 1000000 in
set_option maxRecDepth 100000 in
theorem frontClo_any (n x : Nat) (S : Nat → Bool) (b : Nat) (v : Value) (l : List Ed) (w : World) (hc : w.cell? ⟨b, 0, none⟩ = some v) (h : Nums w v (clos l n)) (hg : P2.Good (n : Int) l) (hn : n ≤ 8) (hx : x < n) :
    Calls Try.prog 138 #[.int .u64 (numOf S n : Int), .int .i64 (x : Int), .pointer (some ⟨b, 0, none⟩)] w fun e w' => e = .returned (.int .i64 ((nw (frontB l n (pput S x)) n).length : Int)) ∧ ∃ m, w' = w.drewN m := by
  have HF := Lib.hid (fun (W : World) (hW : Nums W v (clos l n)) => frontIn_any n (pput S x) v l W hW hg hn)
  have HCT := Lib.hid (fun (W : World) => count_any (numOf (frontB l n (pput S x)) n) W (numOf_lt _ hn))
  rw [ones_num _ hn] at HCT
  have HD := Lib.hid (fun (m : Nat) => (show Nums (w.drewN m) v (clos l n) from h))
  have hpw := or_walk (numOf S n) x (numOf_lt S hn) (by omega)
  rw [num_or_one S hx] at hpw
  have hx0 : (0 : Int) ≤ (x : Int) := by omega
  clear h hg
  generalize numOf (frontB l n (pput S x)) n = a at *
  generalize numOf (pput S x) n = d at *
  generalize numOf S n = gg at *
  generalize (nw (frontB l n (pput S x)) n).length = rr at *
  go_enter Try.func138, Try.ntmps138
  go_wp2_with fail
  go_quiet (first | (go_at_call 139; exact quiet_left (HF.out _ (HD.out _))) | (go_at_call 68; exact quiet_left (HCT.out _)))
  go_wp2_with fail
  go_ret
  exact ⟨rfl, _, rfl⟩
theorem frontAt_any (n : Nat) (v : Value) (l : List Ed) (w : World) (h : Edges w v l) (hl : l.length ≤ 1048576) (hg : P2.Good (n : Int) l) (hn : n ≤ 8) :
    Calls Try.prog 88 #[.agg #[.int .i64 (n : Int), v]] w fun e w' => ∃ b A c, e = .returned (.func (.func 138) #[] #[.pointer (some ⟨b, 0, none⟩)]) ∧ w'.cell? ⟨b, 0, none⟩ = some (.slice A (clos l n).length c) ∧ Nums w' (.slice A (clos l n).length c) (clos l n) ∧ Below w.heap.size w w' := by
  obtain ⟨A, c, rfl, -⟩ := h.form
  have hmf : ∀ (fn : Fn) (first cap : Array Value) (w : World), (Instr.makeFunc fn first cap).run Try.prog w = .ok (.func fn first cap) w := fun _ _ _ _ => rfl
  have b0 : Below w.heap.size w (w.alloc (.cells #[.int .i64 (n : Int), .slice A l.length c] 29)) := (Below.refl _ _).alloc (Nat.le_refl _) _
  obtain ⟨p0, p1, -, -⟩ := (Blk.new w 29 #[.int .i64 (n : Int), .slice A l.length c]).two
  have HC := Lib.hid (closedBits_any n (.slice A l.length c) l _ (h.below b0) hl hg hn)
  clear h hg
  go_enter Try.func88, Try.ntmps88
  go_wp2_with fail
  refine HC.out.mono ?_
  rintro e w2 ⟨A3, c3, rfl, i3, b3⟩
  have HE2 := Lib.hid (btrans b0 b3)
  have HI := Lib.hid i3
  clear i3 b3 HC p0 p1 b0
  generalize hm : (clos l n).length = m at *
  have HM := Lib.hid hm
  clear hm
  go_wp2_with fail
  go_ret
  have h9 := HI.out
  rw [← HM.out] at h9 ⊢
  refine ⟨w2.heap.size, A3, c3, rfl, (Blk.new w2 56 #[.slice A3 (clos l n).length c3]).cell 0, h9.below ((Below.refl _ _).alloc (Nat.le_refl _) _), HE2.out.alloc HE2.out.size _⟩
end Go.Proofs.Ytphlpipbhaiijaa.fronts

/- The contract of the program's PathwidthOf. -/
namespace Go.Proofs.Ytphlpipbhaiijaa.costs
open Go.RowKit P2 words edges ints good adjs fns sets rets covs reach bags bitsI fronts
set_option linter.unusedVariables false

theorem own_lit {w : World} {B N c : Nat} {A : Option Addr} {cs : List Value} (h : w.ownsRow B 3 1 (.slice A N c) N cs) (hN : 0 < N) : ∃ g, A = some ⟨g, 0, none⟩ := by
  rcases h.2 with ⟨_, h1⟩ | ⟨g, cap, cur, h1, _⟩
  · omega
  · cases h1; exact ⟨g, rfl⟩
end Go.Proofs.Ytphlpipbhaiijaa.costs
