/- The edges of a filling: plain mathematics. -/
import Derived.Test.YtgbdgenlmmofeaaElimM
import Derived.Test.YtgbdgenlmmofeaaPut
namespace Go.Proofs.Ytgbdgenlmmofeaa.bags
open Go.RowKit P2 words edges ints fns sets covs reach each put
set_option linter.unusedVariables false

theorem mem_take_of {α : Type} {tl : List α} {j k : Nat} {x : α} (h : tl[j]? = some x) (hj : j < k) : x ∈ tl.take k :=
  List.mem_of_getElem? (i := j) (by rw [List.getElem?_take, if_pos hj]; exact h)
theorem take_mem_at {α : Type} {tl : List α} {k : Nat} {x : α} (h : x ∈ tl.take k) : ∃ j, j < k ∧ tl[j]? = some x := by
  obtain ⟨j, hj⟩ := List.getElem?_of_mem h
  rw [List.getElem?_take] at hj
  split at hj
  · rename_i hk; exact ⟨j, hk, hj⟩
  · cases hj
theorem adj_symm {l : List Ed} {a b : Nat} (h : adj l a b = true) : adj l b a = true := by rw [adj_comm]; exact h
theorem J2_symm (l : List Ed) (a b : Nat) : J2 l a b = J2 l b a := adj_comm l a b
/-- two nodes behind a third one in a bag: the second one is behind the first one -/
theorem later_pair {n : Nat} {l : List Ed} {tl : List Int} (he : EachS n tl) {j m x z px pz : Nat} (hj : tl[j]? = some (m : Int)) (hx : laterB n l (goneB (tl.take j)) m x = true) (hz : laterB n l (goneB (tl.take j)) m z = true)
    (hxn : x < n) (hpx : tl[px]? = some (x : Int)) (hpz : tl[pz]? = some (z : Int)) (hlt : px < pz) : laterB n l (goneB (tl.take px)) x z = true := by
  obtain ⟨gx, nx, v1, hv1, r1, a1⟩ := laterB_iff.1 hx
  obtain ⟨gz, nz, v2, hv2, r2, a2⟩ := laterB_iff.1 hz
  have hmn : m < n := by have := he.range _ (List.mem_of_getElem? hj); omega
  have hjx : j < px := by
    rcases Nat.lt_trichotomy px j with h | h | h
    · have : goneB (tl.take j) x = true := decide_eq_true (mem_take_of hpx h)
      rw [gx] at this; cases this
    · subst h; rw [hj] at hpx
      have : (m : Int) = (x : Int) := by simpa using hpx
      exact absurd (by omega : x = m) nx
    · exact h
  have hq : ∀ y, y < n → pput (goneB (tl.take j)) m y = true → pput (goneB (tl.take px)) x y = true := fun y _ hy => by
    unfold pput at hy ⊢
    rw [Bool.or_eq_true] at hy ⊢
    left
    rcases hy with hy | hy
    · obtain ⟨i, hi, hiy⟩ := take_mem_at (of_decide_eq_true hy)
      exact decide_eq_true (mem_take_of hiy (by omega))
    · have := of_decide_eq_true hy
      subst this
      exact decide_eq_true (mem_take_of hj hjx)
  have hqm : pput (goneB (tl.take j)) m m = true := by simp [pput]
  refine laterB_iff.2 ⟨?_, ?_, v2, hv2, ?_, a2⟩
  · refine decide_eq_false fun hh => ?_
    obtain ⟨i, hi, hiz⟩ := take_mem_at hh
    exact EachS.fresh he hpz (mem_take_of hiz (by omega))
  · rintro rfl
    exact EachS.fresh he hpz (mem_take_of hpx hlt)
  · have s1 : Rch n (J2 l) (pput (goneB (tl.take px)) x) x v1 := .step .base (adj_symm a1) (hq v1 hv1 (r1.inq hqm)) hv1
    have s2 : Rch n (J2 l) (pput (goneB (tl.take px)) x) v1 m := bags.Rch.mono (bags.Rch.symm (J2_symm l) hmn hqm r1) hq
    exact bags.Rch.trans s1 (bags.Rch.trans s2 (bags.Rch.mono r2 hq))
/-- together in a bag -/
noncomputable def togB (n : Nat) (l : List Ed) (tl : List Int) (x y : Int) : Bool := (bagsK n l tl n).any fun bag => decide (x ∈ bag) && decide (y ∈ bag)
noncomputable def fillJ (n : Nat) (l : List Ed) (tl : List Int) (x y : Nat) : Bool := togB n l tl x y
theorem mem_later {n : Nat} {l : List Ed} {tl : List Int} {j m : Nat} (hj : tl[j]? = some (m : Int)) {y : Int} : y ∈ laterT n l tl j ↔ ∃ z : Nat, z < n ∧ laterB n l (goneB (tl.take j)) m z = true ∧ y = (z : Int) := by
  unfold laterT; rw [getD_at hj, mem_nw]
theorem mem_bag {n : Nat} {l : List Ed} {tl : List Int} {j m : Nat} (hj : tl[j]? = some (m : Int)) (hm : m < n) {y : Nat} : (y : Int) ∈ bagT n l tl j ↔ y = m ∨ (y : Int) ∈ laterT n l tl j := by
  rw [mem_later hj]
  unfold bagT
  rw [getD_at hj, mem_nw]
  unfold bagB pput
  constructor
  · rintro ⟨z, hz, hb, e⟩
    obtain rfl : y = z := by omega
    rcases Bool.or_eq_true_iff.1 hb with h | h
    · exact .inr ⟨y, hz, h, rfl⟩
    · exact .inl (of_decide_eq_true h)
  · rintro (rfl | ⟨z, hz, hb, e⟩)
    · exact ⟨y, hm, by simp, rfl⟩
    · obtain rfl : y = z := by omega
      exact ⟨y, hz, by simp [hb], rfl⟩
/-- edges of the first i places, and k of the next one -/
def FillE (n : Nat) (l : List Ed) (tl : List Int) (i k : Nat) (e : Ed) : Prop :=
  ∃ (j m : Nat) (x y : Int), (j < i ∨ j = i ∧ m < k) ∧ tl[j]? = some x ∧ (laterT n l tl j)[m]? = some y ∧ e = (min x y, max x y)
structure Fill (n : Nat) (l : List Ed) (tl : List Int) (i k : Nat) (L : List Ed) : Prop where
  sorted : L.Pairwise Lex
  mem : ∀ e, e ∈ L ↔ FillE n l tl i k e
theorem minmax_inj {a b c d : Int} (h : ((min a b, max a b) : Ed) = (min c d, max c d)) : (a = c ∧ b = d) ∨ (a = d ∧ b = c) := by
  have h1 := congrArg Prod.fst h
  have h2 := congrArg Prod.snd h
  simp only at h1 h2
  omega
section
variable {n : Nat} {l : List Ed} {tl : List Int} {i k : Nat} {L : List Ed}
theorem Fill.start : Fill n l tl 0 0 [] where
  sorted := List.Pairwise.nil
  mem := fun e => by
    constructor
    · intro h; cases h
    · rintro ⟨j, m, x, y, h, _⟩; omega
theorem nw_inj {p : Nat → Bool} {n a b : Nat} {y : Int} (ha : (nw p n)[a]? = some y) (hb : (nw p n)[b]? = some y) : a = b := by
  rcases Nat.lt_trichotomy a b with h | h | h
  · have := (covs.nw_asc p n).at_ h ha hb; omega
  · exact h
  · have := (covs.nw_asc p n).at_ h hb ha; omega
theorem Fill.fresh (he : EachS n tl) (h : Fill n l tl i k L) {x y : Int} (hx : tl[i]? = some x) (hy : (laterT n l tl i)[k]? = some y) : (min x y, max x y) ∉ L := fun hm => by
  obtain ⟨j, m, x', y', hjm, hx', hy', e⟩ := (h.mem _).1 hm
  obtain ⟨a, rfl⟩ : ∃ a : Nat, x = (a : Int) := ⟨x.toNat, by have := he.range _ (List.mem_of_getElem? hx); omega⟩
  obtain ⟨b, rfl⟩ : ∃ b : Nat, x' = (b : Int) := ⟨x'.toNat, by have := he.range _ (List.mem_of_getElem? hx'); omega⟩
  obtain ⟨c, hc, hlc, rfl⟩ := (mem_later hx).1 (List.mem_of_getElem? hy)
  obtain ⟨d, hd, hld, rfl⟩ := (mem_later hx').1 (List.mem_of_getElem? hy')
  obtain ⟨g1, n1, _⟩ := laterB_iff.1 hlc
  obtain ⟨g2, n2, _⟩ := laterB_iff.1 hld
  rcases minmax_inj e with ⟨e1, e2⟩ | ⟨e1, e2⟩
  · -- the same first node: the same place
    have hji : j = i := by
      rcases Nat.lt_trichotomy j i with h' | h' | h'
      · exact absurd (by rw [e1]; exact mem_take_of hx' h') (EachS.fresh he hx)
      · exact h'
      · omega
    subst hji
    have : k = m := by unfold laterT at hy hy'; rw [e2] at hy; exact nw_inj hy hy'
    omega
  · rcases hjm with h' | ⟨rfl, h'⟩
    · have : goneB (tl.take i) c = true := decide_eq_true (by rw [e2]; exact mem_take_of hx' h')
      rw [g1] at this; cases this
    · rw [hx] at hx'
      have : (a : Int) = (b : Int) := by simpa using hx'
      omega
theorem Fill.put (he : EachS n tl) (h : Fill n l tl i k L) {x y : Int} (hx : tl[i]? = some x) (hy : (laterT n l tl i)[k]? = some y) {L' : List Ed} (hp : PutIs L (min x y, max x y) L') : Fill n l tl i (k + 1) L' where
  sorted := hp.sorted h.sorted (h.fresh he hx hy)
  mem := fun e => by
    rw [hp.mem, h.mem]
    constructor
    · rintro (rfl | ⟨j, m, x', y', hjm, h1, h2, h3⟩)
      · exact ⟨i, k, x, y, .inr ⟨rfl, by omega⟩, hx, hy, rfl⟩
      · exact ⟨j, m, x', y', by omega, h1, h2, h3⟩
    · rintro ⟨j, m, x', y', hjm, h1, h2, h3⟩
      by_cases hh : j = i ∧ m = k
      · obtain ⟨rfl, rfl⟩ := hh
        rw [hx] at h1; rw [hy] at h2
        cases h1; cases h2
        exact .inl h3
      · exact .inr ⟨j, m, x', y', by omega, h1, h2, h3⟩
theorem Fill.next (h : Fill n l tl i (laterT n l tl i).length L) : Fill n l tl (i + 1) 0 L where
  sorted := h.sorted
  mem := fun e => by
    rw [h.mem]
    constructor
    · rintro ⟨j, m, x', y', hjm, h1, h2, h3⟩
      exact ⟨j, m, x', y', by omega, h1, h2, h3⟩
    · rintro ⟨j, m, x', y', hjm, h1, h2, h3⟩
      refine ⟨j, m, x', y', ?_, h1, h2, h3⟩
      by_cases e : j = i
      · subst e; exact .inr ⟨rfl, (List.getElem?_eq_some_iff.1 h2).1⟩
      · omega
theorem Fill.range (he : EachS n tl) (h : Fill n l tl i k L) : ∀ e ∈ L, 0 ≤ e.1 ∧ e.1 < e.2 ∧ e.2 < (n : Int) := fun e hm => by
  obtain ⟨j, m, x, y, _, h1, h2, rfl⟩ := (h.mem _).1 hm
  have hxr := he.range _ (List.mem_of_getElem? h1)
  obtain ⟨a, rfl⟩ : ∃ a : Nat, x = (a : Int) := ⟨x.toNat, by omega⟩
  obtain ⟨c, hc, hlc, rfl⟩ := (mem_later h1).1 (List.mem_of_getElem? h2)
  obtain ⟨_, hne, _⟩ := laterB_iff.1 hlc
  simp only
  omega
theorem Fill.good (he : EachS n tl) (hn : n ≤ 8) (h : Fill n l tl i k L) : P2.Good (n : Int) L := good_of (by omega) (by omega) (h.range he) h.sorted
theorem Fill.len (he : EachS n tl) (hn : n ≤ 8) (h : Fill n l tl i k L) : L.length ≤ 64 := by
  rw [good_gw (h.good he hn)]
  have h1 := gwTo_len (fun x y => adj L x y) n n
  have : n * n ≤ 8 * 8 := Nat.mul_le_mul hn hn
  show (gwTo _ n n).length ≤ 64
  omega
theorem each_at (he : EachS n tl) {x : Nat} (hx : x < n) : ∃ p, p < n ∧ tl[p]? = some (x : Int) := by
  obtain ⟨p, hp⟩ := List.getElem?_of_mem (he.2 x hx)
  exact ⟨p, by have := (List.getElem?_eq_some_iff.1 hp).1; have := he.1; omega, hp⟩
theorem Fill.all (he : EachS n tl) (h : Fill n l tl n 0 L) : L = gw n (fillJ n l tl) := by
  refine sorted_ext h.sorted (gwTo_sorted _ _ _) fun e => ?_
  rw [h.mem, mem_gw]
  constructor
  · rintro ⟨j, m, x, y, hjm, h1, h2, rfl⟩
    have hxr := he.range _ (List.mem_of_getElem? h1)
    obtain ⟨a, rfl⟩ : ∃ a : Nat, x = (a : Int) := ⟨x.toNat, by omega⟩
    obtain ⟨c, hc, hlc, rfl⟩ := (mem_later h1).1 (List.mem_of_getElem? h2)
    obtain ⟨_, hne, _⟩ := laterB_iff.1 hlc
    have ha : (a : Int) ∈ bagT n l tl j := (mem_bag h1 (by omega)).2 (.inl rfl)
    have hcm : (c : Int) ∈ bagT n l tl j := (mem_bag h1 (by omega)).2 (.inr (List.mem_of_getElem? h2))
    have hjn : j < n := by omega
    refine ⟨min a c, max a c, by omega, by omega, ?_, by rw [Prod.mk.injEq]; omega⟩
    unfold fillJ togB
    rw [List.any_eq_true]
    refine ⟨_, List.mem_of_getElem? (bagsK_at (n := n) (l := l) (tl := tl) hjn), ?_⟩
    rcases Nat.lt_or_ge a c with h9 | h9
    · rw [Nat.min_eq_left (by omega), Nat.max_eq_right (by omega)]; simp [ha, hcm]
    · rw [Nat.min_eq_right (by omega), Nat.max_eq_left (by omega)]; simp [ha, hcm]
  · rintro ⟨x, z, hxz, hzn, hJ, rfl⟩
    unfold fillJ togB at hJ
    obtain ⟨bag, hbag, hb⟩ := List.any_eq_true.1 hJ
    rw [Bool.and_eq_true, decide_eq_true_iff, decide_eq_true_iff] at hb
    obtain ⟨j, hj⟩ := List.getElem?_of_mem hbag
    have hjn : j < n := by have := (List.getElem?_eq_some_iff.1 hj).1; rw [bagsK_len] at this; exact this
    rw [bagsK_at hjn] at hj
    cases hj
    obtain ⟨mv, hmv⟩ : ∃ mv, tl[j]? = some mv := ⟨_, List.getElem?_eq_getElem (by rw [he.1]; exact hjn)⟩
    have hmr := he.range _ (List.mem_of_getElem? hmv)
    obtain ⟨m, rfl⟩ : ∃ m : Nat, mv = (m : Int) := ⟨mv.toNat, by omega⟩
    have b1 := (mem_bag hmv (by omega)).1 hb.1
    have b2 := (mem_bag hmv (by omega)).1 hb.2
    have use : ∀ (i a c : Nat), i < n → tl[i]? = some (a : Int) → (c : Int) ∈ laterT n l tl i → FillE n l tl n 0 (min (a : Int) c, max (a : Int) c) := fun i a c hi ha hc => by
      obtain ⟨q, hq⟩ := List.getElem?_of_mem hc
      exact ⟨i, q, a, c, .inl hi, ha, hq, rfl⟩
    have mm : ∀ a c : Nat, a < c → ((min (a : Int) c, max (a : Int) c) : Ed) = ((a : Int), (c : Int)) := fun a c h => by rw [Prod.mk.injEq]; omega
    have mm2 : ∀ a c : Nat, a < c → ((min (c : Int) a, max (c : Int) a) : Ed) = ((a : Int), (c : Int)) := fun a c h => by rw [Prod.mk.injEq]; omega
    rcases b1 with rfl | b1
    · rcases b2 with rfl | b2
      · omega
      · have := use j x z hjn hmv b2
        rwa [mm x z hxz] at this
    · rcases b2 with rfl | b2
      · have := use j z x hjn hmv b1
        rwa [mm2 x z hxz] at this
      · obtain ⟨x', _, hlx, ex⟩ := (mem_later hmv).1 b1
        obtain ⟨z', _, hlz, ez⟩ := (mem_later hmv).1 b2
        obtain rfl : x = x' := by omega
        obtain rfl : z = z' := by omega
        obtain ⟨px, hpn, hpx⟩ := each_at he (show x < n by omega)
        obtain ⟨pz, hqn, hpz⟩ := each_at he hzn
        rcases Nat.lt_trichotomy px pz with h9 | h9 | h9
        · have h8 := later_pair he hmv hlx hlz (by omega) hpx hpz h9
          have := use px x z hpn hpx ((mem_later hpx).2 ⟨z, hzn, h8, rfl⟩)
          rwa [mm x z hxz] at this
        · subst h9; rw [hpx] at hpz
          have : (x : Int) = (z : Int) := by simpa using hpz
          omega
        · have h8 := later_pair he hmv hlz hlx hzn hpz hpx h9
          have := use pz z x hqn hpz ((mem_later hpz).2 ⟨x, by omega, h8, rfl⟩)
          rwa [mm2 x z hxz] at this
end
end Go.Proofs.Ytgbdgenlmmofeaa.bags
