/- The contract of the model's l5Later. -/
import Derived.Handy
import Derived.Test.YtgfjdkjoeaghoaaK07
import Derived.Test.YtgfjdkjoeaghoaaK06
import Derived.Test.YtgfjdkjoeaghoaaK03
import Derived.Maps.AppendAt
import Derived.StillTailTactics
import Derived.Test.YtgfjdkjoeaghoaaK08
import Derived.Laws.CopyOwn
import Derived.Deep.RegionLaw
import Derived.Test.YtgfjdkjoeaghoaaK01
import Derived.Deep.DeepCutAuto
import Derived.Deep.RegionHeld3
import Derived.Test.YtgfjdkjoeaghoaaK04
import Derived.Test.YtgfjdkjoeaghoaaK02
import Derived.Deep.QuietTactic
import Derived.Maps.OwnSet
import Derived.Test.YtgfjdkjoeaghoaaK10
import Derived.Test.YtgfjdkjoeaghoaaK09
namespace Go.Proofs.Ytgfjdkjoeaghoaa.bags
open Go.RowKit P2 words edges ints good adjs fns sets apps covs neigh balls reach
set_option linter.unusedVariables false

theorem apart_or {u v : Value} (h : ∀ k, u.ownBlock = some k → v.ownBlock ≠ some k) : v.ownBlock = none ∨ v.ownBlock ≠ u.ownBlock := by
  cases hv : v.ownBlock with
  | none => exact .inl rfl
  | some q => exact .inr fun e => h q e.symm hv
theorem apart_grow {u u' v : Value} {H : Nat} (h : ∀ k, u.ownBlock = some k → v.ownBlock ≠ some k) (hl : u'.ownBlock = u.ownBlock ∨ u'.ownBlock = some H) (hv : ∀ k, v.ownBlock = some k → k < H) : ∀ k, u'.ownBlock = some k → v.ownBlock ≠ some k := fun k hk hk' => by
  rcases hl with e | e
  · exact h k (e.symm.trans hk) hk'
  · rw [e] at hk
    cases hk
    exact Nat.lt_irrefl _ (hv _ hk')
def nodesL (S : List Nat) : List Int := S.map fun x : Nat => (x : Int)
theorem mem_nodesL {S : List Nat} {y : Nat} : (y : Int) ∈ nodesL S ↔ y ∈ S := by
  unfold nodesL
  rw [List.mem_map]
  constructor
  · rintro ⟨z, hz, e⟩
    obtain rfl : z = y := by omega
    exact hz
  · intro h; exact ⟨y, h, rfl⟩
theorem nodesL_len (S : List Nat) : (nodesL S).length = S.length := by simp [nodesL]
theorem nodesL_at {S : List Nat} {k z : Nat} (h : S[k]? = some z) : (nodesL S)[k]? = some (z : Int) := by simp [nodesL, h]
theorem nodesL_app (S : List Nat) (y : Nat) : nodesL (S ++ [y]) = nodesL S ++ [(y : Int)] := by simp [nodesL]
def goneB (gl : List Int) (z : Nat) : Bool := decide ((z : Int) ∈ gl)
theorem nw_none (n : Nat) : nw (fun _ => false) n = [] := by
  induction n with
  | zero => rfl
  | succ n ih => rw [nw_no rfl, ih]

end Go.Proofs.Ytgfjdkjoeaghoaa.bags

/- Fronts of sets: plain mathematics. -/
namespace Go.Proofs.Ytgfjdkjoeaghoaa.fronts
open Go.RowKit P2 words edges ints fns sets covs reach bags
set_option linter.unusedVariables false

/-- a node of the front of a set -/
def frontB (l : List Ed) (n : Nat) (S : Nat → Bool) (x : Nat) : Bool := S x && (List.range n).any fun y => !S y && adj l x y
theorem frontB_iff {l : List Ed} {n : Nat} {S : Nat → Bool} {x : Nat} : frontB l n S x = true ↔ S x = true ∧ ∃ y, y < n ∧ S y = false ∧ adj l x y = true := by
  unfold frontB
  rw [Bool.and_eq_true, List.any_eq_true]
  simp only [List.mem_range, Bool.and_eq_true, Bool.not_eq_true']
theorem frontB_congr {l : List Ed} {n : Nat} {S T : Nat → Bool} (h : ∀ z, z < n → S z = T z) {x : Nat} (hx : x < n) : frontB l n S x = frontB l n T x := by
  rw [Bool.eq_iff_iff, frontB_iff, frontB_iff, h x hx]
  constructor
  · rintro ⟨h1, y, hy, h2, h3⟩; exact ⟨h1, y, hy, by rw [← h y hy]; exact h2, h3⟩
  · rintro ⟨h1, y, hy, h2, h3⟩; exact ⟨h1, y, hy, by rw [h y hy]; exact h2, h3⟩
/-- as the program reckons it -/
theorem front_bits {l : List Ed} {n : Nat} {S : Nat → Bool} {z : Nat} (hz : z < n) : (arB l n (numOf (fun y => !S y) n) z && S z) = frontB l n S z := by
  rw [Bool.eq_iff_iff, Bool.and_eq_true, arB_iff, frontB_iff]
  constructor
  · rintro ⟨⟨x, hx, hb, he⟩, hs⟩
    rw [numOf_bit, Bool.and_eq_true] at hb
    have hb2 : S x = false := by have := hb.2; simpa using this
    refine ⟨hs, x, hx, hb2, ?_⟩
    rcases he with rfl | he
    · rw [hs] at hb2; cases hb2
    · rw [adj_comm]; exact he
  · rintro ⟨hs, y, hy, hb, he⟩
    refine ⟨⟨y, hy, ?_, .inr (by rw [adj_comm]; exact he)⟩, hs⟩
    rw [numOf_bit]; simp [hy, hb]
/-- the front of a list, found by the first i of its nodes and k nodes for the next one -/
def FrK (n : Nat) (l : List Ed) (xs : List Int) (i k : Nat) (p : Nat → Bool) : Prop :=
  ∀ z, z < n → (p z = true ↔ (∃ j, j < i ∧ xs[j]? = some (z : Int) ∧ ∃ y : Nat, y < n ∧ goneB xs y = false ∧ adj l z y = true) ∨ (xs[i]? = some (z : Int) ∧ ∃ y : Nat, y < k ∧ goneB xs y = false ∧ adj l z y = true))
section
variable {n : Nat} {l : List Ed} {xs : List Int} {i k : Nat} {p : Nat → Bool}
theorem FrK.start (n : Nat) (l : List Ed) (xs : List Int) : FrK n l xs 0 0 (fun _ => false) := fun z _ => by
  constructor
  · intro h; cases h
  · rintro (⟨j, hj, _⟩ | ⟨_, y, hy, _⟩) <;> omega
theorem FrK.next (h : FrK n l xs i n p) : FrK n l xs (i + 1) 0 p := fun z hz => by
  rw [h z hz]
  constructor
  · rintro (⟨j, hj, h1, h2⟩ | ⟨h1, h2⟩)
    · exact .inl ⟨j, by omega, h1, h2⟩
    · exact .inl ⟨i, by omega, h1, h2⟩
  · rintro (⟨j, hj, h1, h2⟩ | ⟨_, y, hy, _⟩)
    · by_cases e : j = i
      · subst e; exact .inr ⟨h1, h2⟩
      · exact .inl ⟨j, by omega, h1, h2⟩
    · omega
theorem FrK.put {x : Nat} (h : FrK n l xs i k p) (hx : xs[i]? = some (x : Int)) (hg : goneB xs k = false) (ha : adj l x k = true) (hk : k < n) : FrK n l xs i (k + 1) (pput p x) := fun z hz => by
  unfold pput
  rw [Bool.or_eq_true, decide_eq_true_iff, h z hz]
  constructor
  · rintro ((h1 | ⟨h1, y, hy, h2⟩) | rfl)
    · exact .inl h1
    · exact .inr ⟨h1, y, by omega, h2⟩
    · exact .inr ⟨hx, k, by omega, hg, ha⟩
  · rintro (h1 | ⟨h1, y, hy, h2⟩)
    · exact .inl (.inl h1)
    · rw [hx] at h1
      have : (x : Int) = (z : Int) := by simpa using h1
      exact .inr (by omega)
theorem FrK.skip {x : Nat} (h : FrK n l xs i k p) (hx : xs[i]? = some (x : Int)) (hn : goneB xs k = true ∨ adj l x k = false) : FrK n l xs i (k + 1) p := fun z hz => by
  rw [h z hz]
  constructor
  · rintro (h1 | ⟨h1, y, hy, h2⟩)
    · exact .inl h1
    · exact .inr ⟨h1, y, by omega, h2⟩
  · rintro (h1 | ⟨h1, y, hy, h2, h3⟩)
    · exact .inl h1
    · refine .inr ⟨h1, y, ?_, h2, h3⟩
      by_cases e : y = k
      · subst e
        rw [hx] at h1
        have e2 : (x : Int) = (z : Int) := by simpa using h1
        rcases hn with hn | hn
        · rw [hn] at h2; cases h2
        · rw [e2, h3] at hn; cases hn
      · omega
theorem FrK.all (h : FrK n l xs xs.length 0 p) : nw p n = nw (frontB l n (goneB xs)) n := reach.nw_congr fun z hz => by
  rw [Bool.eq_iff_iff, h z hz, frontB_iff]
  constructor
  · rintro (⟨j, _, h1, h2⟩ | ⟨_, y, hy, _⟩)
    · exact ⟨decide_eq_true (List.mem_of_getElem? h1), h2⟩
    · omega
  · rintro ⟨h1, h2⟩
    obtain ⟨j, hj⟩ := List.getElem?_of_mem (of_decide_eq_true h1)
    exact .inl ⟨j, (List.getElem?_eq_some_iff.1 hj).1, hj, h2⟩
end
/-- a list as a number -/
theorem code_gone {xs : List Int} {n : Nat} (h : ∀ x ∈ xs, 0 ≤ x ∧ x < (n : Int)) : codeL xs = numOf (goneB xs) n := by
  apply Nat.eq_of_testBit_eq
  intro i
  rw [code_bit (fun x hx => (h x hx).1), numOf_bit]
  unfold goneB
  by_cases hi : i < n
  · simp [hi]
  · have : ¬ (i : Int) ∈ xs := fun hm => by have := h _ hm; omega
    simp [hi, this]
end Go.Proofs.Ytgfjdkjoeaghoaa.fronts

/- Least costs over all orders, forwards and backwards: plain mathematics. -/
namespace Go.Proofs.Ytgfjdkjoeaghoaa.costs
open Go.RowKit P2 words edges ints good adjs fns sets rets covs reach bags bitsI fronts
set_option linter.unusedVariables false

theorem or_all : ∀ (d : Fin 256) (x : Fin 8), d.1.testBit x.1 = false → (d.1 ||| 2 ^ x.1) = d.1 + 2 ^ x.1 ∧ (d.1 ||| 2 ^ x.1).testBit x.1 = true := by decide +kernel
theorem sub_all : ∀ (d : Fin 256) (x : Fin 8), d.1.testBit x.1 = true → 2 ^ x.1 ≤ d.1 ∧ (d.1 - 2 ^ x.1).testBit x.1 = false := by decide +kernel
theorem bit_out : ∀ (n : Fin 9) (c : Fin 256), c.1 < 2 ^ n.1 - 1 → ∃ x : Fin 8, x.1 < n.1 ∧ c.1.testBit x.1 = false := by decide +kernel
theorem bit_in : ∀ (n : Fin 9) (c : Fin 256), c.1 < 2 ^ n.1 → c.1 ≠ 0 → ∃ x : Fin 8, x.1 < n.1 ∧ c.1.testBit x.1 = true := by decide +kernel
theorem pow8 {n : Nat} (hn : n ≤ 8) : 2 ^ n ≤ 256 := by have := Nat.pow_le_pow_right (show 0 < 2 by decide) hn; simpa using this
theorem or_is {d x : Nat} (hd : d < 256) (hx : x < 8) (h : d.testBit x = false) : d ||| 2 ^ x = d + 2 ^ x := (or_all ⟨d, hd⟩ ⟨x, hx⟩ h).1
theorem or_bit {d x : Nat} (hd : d < 256) (hx : x < 8) (h : d.testBit x = false) : (d ||| 2 ^ x).testBit x = true := (or_all ⟨d, hd⟩ ⟨x, hx⟩ h).2
theorem sub_le {d x : Nat} (hd : d < 256) (hx : x < 8) (h : d.testBit x = true) : 2 ^ x ≤ d := (sub_all ⟨d, hd⟩ ⟨x, hx⟩ h).1
theorem sub_bit {d x : Nat} (hd : d < 256) (hx : x < 8) (h : d.testBit x = true) : (d - 2 ^ x).testBit x = false := (sub_all ⟨d, hd⟩ ⟨x, hx⟩ h).2
theorem or_lt {n d x : Nat} (hd : d < 2 ^ n) (hx : x < n) : d ||| 2 ^ x < 2 ^ n := Nat.or_lt_two_pow hd (Nat.pow_lt_pow_right (by decide) hx)
theorem or_gt {d x : Nat} (hd : d < 256) (hx : x < 8) (h : d.testBit x = false) : d < d ||| 2 ^ x := by rw [or_is hd hx h]; have := Nat.two_pow_pos x; omega
theorem sub_or {d x : Nat} (hd : d < 256) (hx : x < 8) (h : d.testBit x = true) : (d - 2 ^ x) ||| 2 ^ x = d := by
  have := sub_le hd hx h
  rw [or_is (Nat.lt_of_le_of_lt (Nat.sub_le _ _) hd) hx (sub_bit hd hx h)]; exact Nat.sub_add_cancel this
theorem out_bit {n c : Nat} (hn : n ≤ 8) (hc : c < 2 ^ n - 1) : ∃ x, x < n ∧ c.testBit x = false := by
  have := pow8 hn
  obtain ⟨x, h1, h2⟩ := bit_out ⟨n, by omega⟩ ⟨c, by omega⟩ hc
  exact ⟨x.1, h1, h2⟩
theorem in_bit {n c : Nat} (hn : n ≤ 8) (hc : c < 2 ^ n) (h0 : c ≠ 0) : ∃ x, x < n ∧ c.testBit x = true := by
  have := pow8 hn
  obtain ⟨x, h1, h2⟩ := bit_in ⟨n, by omega⟩ ⟨c, by omega⟩ hc h0
  exact ⟨x.1, h1, h2⟩

/-- from one set to another one, node by node, each one at a cost of at most u -/
inductive Ch (n : Nat) (cost : Nat → Nat → Int) (u : Int) : Nat → Nat → Prop
  | refl (c : Nat) : Ch n cost u c c
  | step {c d x : Nat} : Ch n cost u c d → x < n → d.testBit x = false → cost d x ≤ u → Ch n cost u c (d ||| 2 ^ x)
theorem Ch.trans {n : Nat} {cost : Nat → Nat → Int} {u : Int} {a b c : Nat} (h1 : Ch n cost u a b) (h2 : Ch n cost u b c) : Ch n cost u a c := by
  induction h2 with
  | refl => exact h1
  | step _ hx hb hc ih => exact .step ih hx hb hc
theorem Ch.head {n : Nat} {cost : Nat → Nat → Int} {u : Int} {c d : Nat} (h : Ch n cost u c d) : c = d ∨ ∃ x, x < n ∧ c.testBit x = false ∧ cost c x ≤ u ∧ Ch n cost u (c ||| 2 ^ x) d := by
  induction h with
  | refl => exact .inl rfl
  | step _ hx hb hc ih =>
    refine .inr ?_
    rcases ih with rfl | ⟨y, h1, h2, h3, h4⟩
    · exact ⟨_, hx, hb, hc, .refl _⟩
    · exact ⟨y, h1, h2, h3, .step h4 hx hb hc⟩

/-- the least costs of what is left, for each set that is gone -/
def LcAt (n : Nat) (cost : Nat → Nat → Int) (C : Nat → Int) (c : Nat) : Prop :=
  (∃ x, x < n ∧ c.testBit x = false ∧ C c = max (cost c x) (C (c ||| 2 ^ x))) ∧ ∀ x, x < n → c.testBit x = false → C c ≤ max (cost c x) (C (c ||| 2 ^ x))
theorem lc_ch {n : Nat} {cost : Nat → Nat → Int} {C : Nat → Int} {nil : Int} (hn : n ≤ 8) (hfull : C (2 ^ n - 1) = nil) (h : ∀ c, c < 2 ^ n - 1 → LcAt n cost C c) {u : Int} (hu : nil ≤ u) :
    ∀ k c, c < 2 ^ n → 2 ^ n - 1 - c ≤ k → (C c ≤ u ↔ Ch n cost u c (2 ^ n - 1)) := by
  have hp := pow8 hn
  have hp0 := Nat.two_pow_pos n
  intro k
  induction k with
  | zero =>
    intro c hc hk
    obtain rfl : c = 2 ^ n - 1 := by omega
    rw [hfull]
    exact ⟨fun _ => .refl _, fun _ => hu⟩
  | succ k ih =>
    intro c hc hk
    by_cases e : c = 2 ^ n - 1
    · subst e
      rw [hfull]
      exact ⟨fun _ => .refl _, fun _ => hu⟩
    · obtain ⟨⟨x, hx, hb, hC⟩, hle⟩ := h c (by omega)
      have hstep : ∀ y, y < n → c.testBit y = false → (C (c ||| 2 ^ y) ≤ u ↔ Ch n cost u (c ||| 2 ^ y) (2 ^ n - 1)) := fun y hy hby =>
        ih _ (or_lt hc hy) (by have := or_gt (x := y) (by omega : c < 256) (by omega) hby; omega)
      constructor
      · intro hcu
        rw [hC] at hcu
        have h1 : cost c x ≤ u := by omega
        have h2 : C (c ||| 2 ^ x) ≤ u := by omega
        exact (Ch.step (.refl c) hx hb h1).trans ((hstep x hx hb).1 h2)
      · intro hch
        rcases hch.head with rfl | ⟨y, hy, hby, hcy, h4⟩
        · exact absurd rfl e
        · have := hle y hy hby
          have := (hstep y hy hby).2 h4
          omega
/-- the least costs up to each set -/
def WAt (n : Nat) (cost : Nat → Nat → Int) (W : Nat → Int) (d : Nat) : Prop :=
  (∃ x, x < n ∧ d.testBit x = true ∧ W d = max (cost (d - 2 ^ x) x) (W (d - 2 ^ x))) ∧ ∀ x, x < n → d.testBit x = true → W d ≤ max (cost (d - 2 ^ x) x) (W (d - 2 ^ x))
theorem w_ch {n : Nat} {cost : Nat → Nat → Int} {W : Nat → Int} {nil : Int} (hn : n ≤ 8) (h0 : W 0 = nil) (h : ∀ d, d < 2 ^ n → d ≠ 0 → WAt n cost W d) {u : Int} (hu : nil ≤ u) :
    ∀ k d, d < 2 ^ n → d ≤ k → (W d ≤ u ↔ Ch n cost u 0 d) := by
  have hp := pow8 hn
  intro k
  induction k with
  | zero =>
    intro d hd hk
    obtain rfl : d = 0 := by omega
    rw [h0]
    exact ⟨fun _ => .refl _, fun _ => hu⟩
  | succ k ih =>
    intro d hd hk
    by_cases e : d = 0
    · subst e
      rw [h0]
      exact ⟨fun _ => .refl _, fun _ => hu⟩
    · obtain ⟨⟨x, hx, hb, hW⟩, hle⟩ := h d hd e
      have hstep : ∀ y, y < n → d.testBit y = true → (W (d - 2 ^ y) ≤ u ↔ Ch n cost u 0 (d - 2 ^ y)) := fun y hy hby =>
        ih _ (Nat.lt_of_le_of_lt (Nat.sub_le _ _) hd) (by have := Nat.sub_lt (Nat.pos_of_ne_zero e) (Nat.two_pow_pos y); omega)
      constructor
      · intro hdu
        rw [hW] at hdu
        have h1 : cost (d - 2 ^ x) x ≤ u := by omega
        have h2 : W (d - 2 ^ x) ≤ u := by omega
        have h3 := Ch.step ((hstep x hx hb).1 h2) hx (sub_bit (by omega) (by omega) hb) h1
        rwa [sub_or (by omega) (by omega) hb] at h3
      · intro hch
        generalize hz : (0 : Nat) = z at hch
        cases hch with
        | refl => exact absurd hz.symm e
        | @step e2 y hc hy hby hcy =>
          subst hz
          have he : e2 < 256 := by
            have : e2 ≤ e2 ||| 2 ^ y := Nat.left_le_or
            omega
          have h1 : (e2 ||| 2 ^ y) - 2 ^ y = e2 := by rw [or_is he (by omega) hby]; exact Nat.add_sub_cancel _ _
          have h2 := or_bit he (by omega) hby
          have h3 := hle y hy h2
          have h4 := hstep y hy h2
          rw [h1] at h3 h4
          have := h4.2 hc
          omega
/-- the least cost of all orders: what each search for it finds -/
def Least (n : Nat) (cost : Nat → Nat → Int) (nil v : Int) : Prop := nil ≤ v ∧ ∀ u, nil ≤ u → (v ≤ u ↔ Ch n cost u 0 (2 ^ n - 1))
theorem Least.one {n : Nat} {cost : Nat → Nat → Int} {nil a b : Int} (ha : Least n cost nil a) (hb : Least n cost nil b) : a = b := by
  have h1 := (ha.2 b hb.1).2 ((hb.2 b hb.1).1 (Int.le_refl _))
  have h2 := (hb.2 a ha.1).2 ((ha.2 a ha.1).1 (Int.le_refl _))
  omega
theorem lc_least {n : Nat} {cost : Nat → Nat → Int} {C : Nat → Int} {nil : Int} (hn : n ≤ 8) (hfull : C (2 ^ n - 1) = nil) (h : ∀ c, c < 2 ^ n - 1 → LcAt n cost C c) (h0 : nil ≤ C 0) : Least n cost nil (C 0) :=
  ⟨h0, fun u hu => lc_ch hn hfull h hu _ 0 (Nat.two_pow_pos n) (Nat.le_refl _)⟩
theorem w_least {n : Nat} {cost : Nat → Nat → Int} {W : Nat → Int} {nil : Int} (hn : n ≤ 8) (h0 : W 0 = nil) (h : ∀ d, d < 2 ^ n → d ≠ 0 → WAt n cost W d) (h1 : nil ≤ W (2 ^ n - 1)) : Least n cost nil (W (2 ^ n - 1)) :=
  ⟨h1, fun u hu => w_ch hn h0 h hu _ _ (by have := Nat.two_pow_pos n; omega) (Nat.le_refl _)⟩
/-- the costs of a layout: how many nodes are in the front -/
noncomputable def frontN (l : List Ed) (n d : Nat) : Int := ((nw (frontB l n (bitB d)) n).length : Int)
noncomputable def frontC (l : List Ed) (n d x : Nat) : Int := frontN l n (d ||| 2 ^ x)
noncomputable def leastV (n : Nat) (cost : Nat → Nat → Int) (nil : Int) : Int := open Classical in if h : ∃ v, Least n cost nil v then h.choose else 0
theorem Least.is {n : Nat} {cost : Nat → Nat → Int} {nil v : Int} (h : Least n cost nil v) : leastV n cost nil = v := by
  have hex : ∃ v, Least n cost nil v := ⟨v, h⟩
  unfold leastV
  rw [dif_pos hex]
  exact Least.one hex.choose_spec h
end Go.Proofs.Ytgfjdkjoeaghoaa.costs

/- The contract of slices.Repeat of one number, up to 256 times. -/
namespace Go.Proofs.Ytgfjdkjoeaghoaa.reps
open Go.RowKit P2 words ints fns
set_option linter.unusedVariables false

end Go.Proofs.Ytgfjdkjoeaghoaa.reps

/- A slice of slices of integers that reads as rows. -/
namespace Go.Proofs.Ytgfjdkjoeaghoaa.gridr
open Go.RowKit P2 words
set_option linter.unusedVariables false

/-- a slice of slices that reads as rows -/
def ReadsG (w : World) (v : Value) (us : List Value) (rows : List (List Int)) : Prop :=
  Reads w 1 v rows.length us ∧ us.length = rows.length ∧ ∀ (i : Nat) u r, us[i]? = some u → rows[i]? = some r → Ints w u r
theorem ReadsG.below {w w' : World} {v : Value} {us : List Value} {rows : List (List Int)} (h : ReadsG w v us rows) (hb : Below w.heap.size w w') : ReadsG w' v us rows :=
  ⟨h.1.below hb, h.2.1, fun i u r hu hr => (h.2.2 i u r hu hr).below hb⟩
theorem ReadsG.row {w : World} {A : Option Addr} {n c : Nat} {us : List Value} {rows : List (List Int)} (h : ReadsG w (.slice A n c) us rows) {i : Nat} {r : List Int} (hr : rows[i]? = some r) :
    ∃ u g o, us[i]? = some u ∧ A = some ⟨g, o, none⟩ ∧ w.cell? ⟨g, o + i, none⟩ = some u ∧ Ints w u r := by
  have hi := (List.getElem?_eq_some_iff.1 hr).1
  obtain ⟨u, hu⟩ : ∃ u, us[i]? = some u := ⟨_, List.getElem?_eq_getElem (by rw [h.2.1]; exact hi)⟩
  obtain ⟨A', c', e, hx⟩ := h.1
  cases e
  obtain ⟨g, o, rfl, _, hj⟩ := hx (by omega)
  exact ⟨u, g, o, hu, rfl, hj i u hu, h.2.2 i u r hu hr⟩

end Go.Proofs.Ytgfjdkjoeaghoaa.gridr

/- What the laws do with slices of slices of integers: compare, mark, look at the marks. -/
namespace Go.Proofs.Ytgfjdkjoeaghoaa.gridl
open Go.RowKit P2 words edges ints owns grid gridr
set_option linter.unusedVariables false

theorem readsG_of_own {w : World} {B : Nat} {v : Value} {us : List Value} {rows : List (List Int)} (h : OwnG w B v us rows) : ReadsG w v us rows :=
  ⟨Reads.of_own h.1, h.len, fun i u r hu hr => Reads.of_own (h.2.1 i u r hu hr)⟩
def OwnGR (B S : Nat) (w : World) (v : Value) (us : List Value) (rows : List (List Int)) : Prop :=
  OwnG w B v us rows ∧ (∀ k, v.ownBlock = some k → k < S) ∧ ∀ (i : Nat) u k, us[i]? = some u → u.ownBlock = some k → k < S
section
variable {w w' : World} {B S B' S' : Nat} {v : Value} {us : List Value} {rows : List (List Int)}
theorem own_turned {t : TypeId} {size n : Nat} {xs : List Value} (h : w.ownsRow B t size v n xs) (hS : ∀ k, v.ownBlock = some k → k < S) (ht : Turned B' S' w w') (hd : S ≤ B' ∨ S' ≤ B) : w'.ownsRow B t size v n xs :=
  (OwnR.turned (S := S) ⟨h, hS⟩ ht hd).1
theorem OwnGR.new (h : OwnG w B v us rows) : OwnGR B w.heap.size w v us rows :=
  ⟨h, fun k hk => (h.1.lt k hk).2, fun i u k hu hk => by
    obtain ⟨r, hr⟩ : ∃ r, rows[i]? = some r := ⟨_, List.getElem?_eq_getElem (by have := (List.getElem?_eq_some_iff.1 hu).1; have := h.len; omega)⟩
    exact ((h.2.1 i u r hu hr).lt k hk).2⟩
theorem OwnGR.below (h : OwnGR B S w v us rows) (hb : Below w.heap.size w w') : OwnGR B S w' v us rows := ⟨h.1.below hb, h.2⟩
theorem OwnGR.turned (h : OwnGR B S w v us rows) (ht : Turned B' S' w w') (hd : S ≤ B' ∨ S' ≤ B) : OwnGR B S w' v us rows :=
  ⟨⟨own_turned h.1.1 h.2.1 ht hd, fun i u r hu hr => own_turned (h.1.2.1 i u r hu hr) (fun k hk => h.2.2 i u k hu hk) ht hd, h.1.2.2⟩, h.2⟩
theorem OwnGR.reads (h : OwnGR B S w v us rows) : ReadsG w v us rows := readsG_of_own h.1
/-- one row is written anew -/
theorem OwnG.mark {k : Nat} {u : Value} {r r' : List Int} (h : OwnG w B v us rows) (hu : us[k]? = some u) (hr : rows[k]? = some r) (hn : w'.ownsRow B 3 1 u r'.length (cellsI r')) (hl : r'.length = r.length)
    (hg : w.grownBy w' u.ownBlock) : OwnG w' B v us (rows.set k r') := by
  have hu0 := h.2.1 k u r hu hr
  have hk := (List.getElem?_eq_some_iff.1 hr).1
  refine ⟨?_, ?_, h.2.2⟩
  · rw [List.length_set]
    refine h.1.kept hg ?_
    cases hv : v.ownBlock with
    | none => exact .inl rfl
    | some b => exact .inr fun e => own_apart hu0 h.1 tneI b e.symm hv
  · intro i x q hx hq
    by_cases e : i = k
    · subst e
      rw [hu] at hx; cases hx
      rw [List.getElem?_set_self hk] at hq; cases hq
      exact hn
    · rw [List.getElem?_set_ne (fun hh => e hh.symm)] at hq
      refine (h.2.1 i x q hx hq).kept hg ?_
      cases hv : x.ownBlock with
      | none => exact .inl rfl
      | some b =>
        refine .inr fun e2 => ?_
        rcases Nat.lt_or_gt_of_ne e with hlt | hlt
        · exact h.2.2 i k x u b hlt hx hu hv e2.symm
        · exact h.2.2 k i u x b hlt hu hx e2.symm hv
theorem Turned.trans {a b c : World} (h : Turned B S a b) (k : Turned B S b c) : Turned B S a c :=
  ⟨k.os.trans h.os, k.tape.trans h.tape, k.output.trans h.output, Nat.le_trans h.size k.size, fun i hi hd => (k.block i (Nat.lt_of_lt_of_le hi h.size) hd).trans (h.block i hi hd)⟩
theorem Turned.refl (B S : Nat) (w : World) : Turned B S w w := ⟨rfl, rfl, rfl, Nat.le_refl _, fun _ _ _ => rfl⟩
end

def tot (rows : List (List Int)) : Nat := (rows.map List.length).sum
/-- numbers one after the other, in rows as long as those -/
def marksG (m : Nat) : List (List Int) → List (List Int)
  | [] => []
  | r :: rs => marksI m r.length :: marksG (m + r.length) rs
theorem marksG_len : ∀ (rows : List (List Int)) (m : Nat), (marksG m rows).length = rows.length
  | [], _ => rfl
  | r :: rs, m => by simp [marksG, marksG_len rs]
theorem marksG_at : ∀ {rows : List (List Int)} {m k : Nat} {r : List Int}, rows[k]? = some r → (marksG m rows)[k]? = some (marksI (m + tot (rows.take k)) r.length)
  | [], _, _, _, h => by simp at h
  | a :: rs, m, 0, r, h => by
    simp at h; subst h; simp [marksG, tot]
  | a :: rs, m, k + 1, r, h => by
    simp at h
    have := marksG_at (m := m + a.length) h
    simp only [marksG, List.getElem?_cons_succ, this, tot, List.take_succ_cons, List.map_cons, List.sum_cons, Nat.add_assoc]
theorem marksG_tot : ∀ (rows : List (List Int)) (m k : Nat), tot ((marksG m rows).take k) = tot (rows.take k)
  | [], _, _ => by simp [marksG]
  | r :: rs, m, 0 => rfl
  | r :: rs, m, k + 1 => by
    have := marksG_tot rs (m + r.length) k
    simp only [marksG, tot, List.take_succ_cons, List.map_cons, List.sum_cons, marksI_len] at this ⊢
    omega
theorem tot_succ {rows : List (List Int)} {k : Nat} {r : List Int} (h : rows[k]? = some r) : tot (rows.take (k + 1)) = tot (rows.take k) + r.length := by
  unfold tot; rw [List.take_add_one, h]; simp
theorem tot_le (rows : List (List Int)) (k : Nat) : tot (rows.take k) ≤ tot rows := by
  have h : tot rows = tot (rows.take k) + tot (rows.drop k) := by
    unfold tot; rw [← List.sum_append, ← List.map_append, List.take_append_drop]
  omega
/-- the first k rows marked -/
def markTo (m : Nat) (rows : List (List Int)) (k : Nat) : List (List Int) := (marksG m rows).take k ++ rows.drop k
theorem markTo_len {m k : Nat} {rows : List (List Int)} (h : k ≤ rows.length) : (markTo m rows k).length = rows.length := by
  unfold markTo; rw [List.length_append, List.length_take, marksG_len, List.length_drop]; omega
theorem markTo_zero (m : Nat) (rows : List (List Int)) : markTo m rows 0 = rows := by simp [markTo]
theorem markTo_all (m : Nat) (rows : List (List Int)) : markTo m rows rows.length = marksG m rows := by
  unfold markTo; rw [List.drop_length, List.append_nil, ← marksG_len rows m, List.take_length]
theorem markTo_at {m k : Nat} {rows : List (List Int)} {r : List Int} (h : rows[k]? = some r) : (markTo m rows k)[k]? = some r := by
  have hk := (List.getElem?_eq_some_iff.1 h).1
  unfold markTo
  rw [List.getElem?_append_right (by rw [List.length_take, marksG_len]; omega), List.length_take, marksG_len, Nat.min_eq_left (by omega), Nat.sub_self, List.getElem?_drop]
  exact h
theorem markTo_set {m k : Nat} {rows : List (List Int)} {r : List Int} (h : rows[k]? = some r) : (markTo m rows k).set k (marksI (m + tot (rows.take k)) r.length) = markTo m rows (k + 1) := by
  have hk := (List.getElem?_eq_some_iff.1 h).1
  have hl : ((marksG m rows).take k).length = k := by rw [List.length_take, marksG_len]; omega
  unfold markTo
  rw [List.set_append_right _ _ (by omega), hl, Nat.sub_self, List.drop_eq_getElem_cons hk, List.set_cons_zero, List.take_add_one, marksG_at h]
  simp

set_option maxHeartbeats 1000000 in
theorem markIntSS_own (v : Value) (us : List Value) (rows : List (List Int)) (B S m : Nat) (w : World) (h : OwnGR B S w v us rows) (hl : m + tot rows ≤ 10000000) (hn : rows.length ≤ 1048576) :
    Calls Try.prog 17 #[v, .int .i64 (m : Int)] w fun e w' => e = .returned (.int .i64 ((m + tot rows : Nat) : Int)) ∧ OwnGR B S w' v us (marksG m rows) ∧ Turned B S w w' := by
  obtain ⟨A, c, rfl⟩ := own_form h.1.1
  have H0 := Lib.hid h
  clear h
  go_enter Try.func17, Try.ntmps17
  go_wp2_with fail
  go_loopw [1, 5] (fun q i wr => ∃ k : Nat, k ≤ rows.length ∧ i = .int .i64 (k : Int) ∧ q = .int .i64 ((m + tot (rows.take k) : Nat) : Int) ∧ OwnG wr B (.slice A rows.length c) us (markTo m rows k) ∧ Turned B S w wr)
    (fun _ i _ => rows.length - (intOf i).toNat)
  case atStart => exact ⟨0, Nat.zero_le _, rfl, rfl, by rw [markTo_zero]; exact H0.out.1, Turned.refl _ _ _⟩
  case round =>
    obtain ⟨k, hk, rfl, rfl, hown, hT⟩ := hrel
    have htl := tot_le rows k
    by_cases hlt : k < rows.length
    · obtain ⟨r, hr⟩ : ∃ r, rows[k]? = some r := ⟨_, List.getElem?_eq_getElem hlt⟩
      have hlt' : (k : Int) < (rows.length : Int) := by omega
      obtain ⟨u, g, o, hu, rfl, c0, -⟩ := (readsG_of_own hown).row (markTo_at (m := m) hr)
      have HS := Lib.hid (markTo_set (m := m) hr)
      have htu := tot_le rows (k + 1)
      have HTS := Lib.hid (tot_succ hr)
      rw [tot_succ hr] at htu
      have hrow := hown.2.1 k u r hu (markTo_at (m := m) hr)
      have HM := Lib.hid (markIntS_any u r B (m + tot (rows.take k)) wr hrow (by omega))
      have HO := Lib.hid hown
      have HT := Lib.hid hT
      have HU := Lib.hid hu
      have HR := Lib.hid (markTo_at (m := m) hr)
      have HB := Lib.hid (fun j hj => (⟨(hrow.lt j hj).1, H0.out.2.2 k u j hu hj⟩ : B ≤ j ∧ j < S))
      clear hown hT hu hr hrow
      go_wp2_with fail
      refine HM.out.mono ?_
      rintro e w2 ⟨rfl, h2, h3⟩
      go_wp2_with fail
      go_roundw
      case rel => exact ⟨k + 1, by omega, by go_num, by rw [HTS.out]; congr 1; omega, by rw [← HS.out]; exact OwnG.mark HO.out HU.out HR.out (by rw [marksI_len]; exact h2) (marksI_len _ _) h3, Turned.trans HT.out (turned_of h3 HB.out)⟩
      case measure => simp [intOf]; omega
    · obtain rfl : k = rows.length := by omega
      rw [markTo_all] at hown
      have HO := Lib.hid hown
      clear hown
      go_wp2_with fail
      go_ret
      exact ⟨ret_int (by rw [List.take_length]), ⟨HO.out, H0.out.2⟩, hT⟩

set_option maxHeartbeats 1000000 in
theorem heldIntSS_own (v : Value) (us : List Value) (rows : List (List Int)) (B S m : Nat) (w : World) (h : OwnGR B S w v us (marksG m rows)) (hl : m + tot rows ≤ 10000000) (hn : rows.length ≤ 1048576) :
    Calls Try.prog 18 #[v, .int .i64 (m : Int)] w fun e w' => e = .returned (.int .i64 ((m + tot rows : Nat) : Int)) ∧ Below w.heap.size w w' := by
  obtain ⟨A, c, rfl⟩ := own_form h.1.1
  have H0 := Lib.hid h.reads
  have hgl := marksG_len rows m
  rw [hgl] at *
  clear h hgl
  go_enter Try.func18, Try.ntmps18
  go_wp2_with fail
  go_loop [1, 5] (fun q i => ∃ k : Nat, k ≤ rows.length ∧ i = .int .i64 (k : Int) ∧ q = .int .i64 ((m + tot (rows.take k) : Nat) : Int)) (fun _ i => rows.length - (intOf i).toNat)
  case atStart => exact ⟨0, Nat.zero_le _, rfl, rfl⟩
  case round =>
    obtain ⟨k, hk, rfl, rfl⟩ := hrel
    have htl := tot_le rows k
    by_cases hlt : k < rows.length
    · obtain ⟨r, hr⟩ : ∃ r, rows[k]? = some r := ⟨_, List.getElem?_eq_getElem hlt⟩
      have hlt' : (k : Int) < (rows.length : Int) := by omega
      obtain ⟨u, g, o, hu, rfl, c0, hru⟩ := H0.out.row (marksG_at (m := m) hr)
      have htu := tot_le rows (k + 1)
      have HTS := Lib.hid (tot_succ hr)
      rw [tot_succ hr] at htu
      have HM := Lib.hid (heldIntS_any u r.length (m + tot (rows.take k)) w hru (by omega))
      have hnn : ¬ ((m + tot (rows.take k) + r.length : Nat) : Int) < 0 := by omega
      clear hu hru hr
      go_wp2_with fail
      refine HM.out.mono ?_
      rintro e w2 ⟨rfl, rfl⟩
      go_wp2_with fail
      go_round
      case rel => exact ⟨k + 1, by omega, by go_num, by rw [HTS.out]; congr 1; omega⟩
      case measure => simp [intOf]; omega
    · obtain rfl : k = rows.length := by omega
      go_wp2_with fail
      go_ret
      exact ⟨rfl, Below.refl _ _⟩

set_option maxHeartbeats 1000000 in
theorem eqIntSS_own (a b : Value) (us ub : List Value) (rows : List (List Int)) (w : World) (ha : ReadsG w a us rows) (hb : ReadsG w b ub rows) (hl : tot rows ≤ 1048576) (hn : rows.length ≤ 1048576) :
    Calls Try.prog 14 #[a, b] w fun e w' => e = .returned (.bool true) ∧ Below w.heap.size w w' := by
  have HA := Lib.hid ha
  have HB := Lib.hid hb
  obtain ⟨A, c, rfl, -⟩ := ha.1
  obtain ⟨A2, c2, rfl, -⟩ := hb.1
  have hself : ((rows.length : Int) != (rows.length : Int)) = false := by simp
  clear ha hb
  go_enter Try.func14, Try.ntmps14
  go_wp2_with fail
  go_loopg [5] rows.length (fun g i wr => ∃ k : Nat, k + g = rows.length ∧ i = .int .i64 (k : Int) ∧ Below w.heap.size w wr)
  case atStart => exact ⟨0, by omega, rfl, Below.refl _ _⟩
  case round =>
    obtain ⟨k, hkg, rfl, hB⟩ := hrel
    cases gk with
    | zero =>
      obtain rfl : k = rows.length := by omega
      go_wp2_with fail
      go_ret
      exact ⟨rfl, hB⟩
    | succ g2 =>
      have hlt : k < rows.length := by omega
      have hlt' : (k : Int) < (rows.length : Int) := by omega
      obtain ⟨r, hr⟩ : ∃ r, rows[k]? = some r := ⟨_, List.getElem?_eq_getElem hlt⟩
      obtain ⟨u, g, o, hu, rfl, c0, hru⟩ := (HA.out.below hB).row hr
      obtain ⟨u2, gg, oo, hu2, rfl, c1, hru2⟩ := (HB.out.below hB).row hr
      have hrl : r.length ≤ 1048576 := by have := tot_succ hr; have := tot_le rows (k + 1); omega
      have HE := Lib.hid (fun (W : World) (hW : Below wr.heap.size wr W) => eqIntS_own u u2 r W (hru.below hW) (hru2.below hW) hrl)
      have HC := Lib.hid (And.intro c0 c1)
      have HBB := Lib.hid hB
      clear hu hu2 hru hru2 hr hrl hB
      go_wp2_with fail
      go_region_held3 (fun w' => w'.cell? ⟨g, o + k, none⟩ = some u ∧ w'.cell? ⟨gg, oo + k, none⟩ = some u2) (go_keep)
        ((go_at_call 21; refine (HE.out _ (by go_grown)).mono ?_; rintro e w3 ⟨rfl, b3⟩; have d3 : Below wr.heap.size wr w3 := (Below.refl _ _).drew.trans b3; have k0 : w3.cell? ⟨g, o + k, none⟩ = some u := (d3.cell (World.block_lt_of_cell? wr _ HC.out.1)).trans HC.out.1; have k1 : w3.cell? ⟨gg, oo + k, none⟩ = some u2 := (d3.cell (World.block_lt_of_cell? wr _ HC.out.2)).trans HC.out.2))
      have HB3 := Lib.hid (btrans HBB.out d3)
      clear c0 c1 k0 k1 b3 d3
      go_wp2_with fail
      go_roundg g2
      case measure => omega
      case rel => exact ⟨k + 1, by omega, by go_num, HB3.out⟩
end Go.Proofs.Ytgfjdkjoeaghoaa.gridl

/- The contract of the program's leastCosts. -/
namespace Go.Proofs.Ytgfjdkjoeaghoaa.costs
open Go.RowKit P2 words edges ints good adjs fns sets rets covs reach bags bitsI fronts
set_option linter.unusedVariables false

def maxI : Int := 9223372036854775807
def rowF (N : Nat) (C : Nat → Int) : List Int := (List.range N).map C
theorem rowF_len (N : Nat) (C : Nat → Int) : (rowF N C).length = N := by simp [rowF]
theorem rowF_at {N i : Nat} {C : Nat → Int} (h : i < N) : (rowF N C)[i]? = some (C i) := by simp [rowF, h]
def upd (C : Nat → Int) (i : Nat) (v : Int) : Nat → Int := fun j => if j = i then v else C j
theorem upd_at (C : Nat → Int) (i : Nat) (v : Int) : upd C i v i = v := by simp [upd]
theorem upd_ne (C : Nat → Int) {i j : Nat} (v : Int) (h : j ≠ i) : upd C i v j = C j := by simp [upd, h]
theorem upd_upd (C : Nat → Int) (i : Nat) (v u : Int) : upd (upd C i v) i u = upd C i u := by funext j; unfold upd; split <;> rfl
theorem upd_self (C : Nat → Int) (i : Nat) : upd C i (C i) = C := by funext j; unfold upd; split <;> simp_all
theorem rowF_set (N : Nat) (C : Nat → Int) (i : Nat) (v : Int) : (rowF N C).set i v = rowF N (upd C i v) := by
  unfold rowF
  apply List.ext_getElem?
  intro j
  rw [List.getElem?_set]
  by_cases hj : i = j
  · subst hj
    by_cases h : i < N <;> simp [h, upd_at]
  · rw [if_neg hj]
    by_cases h : j < N
    · simp [h, upd_ne C v (fun e => hj e.symm)]
    · simp [h]
theorem rowF_const (N : Nat) (v : Int) : List.replicate N v = rowF N (fun _ => v) := by unfold rowF; rw [List.map_const']; simp
theorem rowF_cells (N : Nat) (C : Nat → Int) (i : Nat) (v : Int) : (cellsI (rowF N C)).set i (.int .i64 v) = cellsI (rowF N (upd C i v)) := by rw [← rowF_set]; simp [cellsI, List.map_set]

theorem min_if (a b v : Int) : (if (if a < b then b else a) < v then (if a < b then b else a) else v) = min v (max a b) := by
  split <;> split <;> omega
/-- down to a set: those above it have their least costs, the others the greatest number -/
def LcUp (n : Nat) (cost : Nat → Nat → Int) (nil : Int) (g : Nat) (C : Nat → Int) : Prop :=
  C (2 ^ n - 1) = nil ∧ (∀ c, g ≤ c → c < 2 ^ n - 1 → LcAt n cost C c) ∧ (∀ c, c < g → C c = maxI) ∧ g ≤ 2 ^ n - 1 ∧ ∀ c, g ≤ c → c < 2 ^ n → C c ≤ 100
/-- the least so far of a set's -/
def PtAt (n : Nat) (cost : Nat → Nat → Int) (C : Nat → Int) (c x : Nat) (v : Int) : Prop :=
  (v = maxI ∨ ∃ y, y < x ∧ y < n ∧ c.testBit y = false ∧ v = max (cost c y) (C (c ||| 2 ^ y))) ∧ ∀ y, y < x → y < n → c.testBit y = false → v ≤ max (cost c y) (C (c ||| 2 ^ y))
theorem PtAt.start (n : Nat) (cost : Nat → Nat → Int) (C : Nat → Int) (c : Nat) : PtAt n cost C c 0 maxI := ⟨.inl rfl, fun y h => by omega⟩
theorem PtAt.skip {n : Nat} {cost : Nat → Nat → Int} {C : Nat → Int} {c x : Nat} {v : Int} (h : PtAt n cost C c x v) (hb : c.testBit x = true) : PtAt n cost C c (x + 1) v := by
  refine ⟨?_, fun y hy hn hby => ?_⟩
  · rcases h.1 with h1 | ⟨y, h1, h2⟩
    · exact .inl h1
    · exact .inr ⟨y, by omega, h2⟩
  · by_cases e : y = x
    · subst e; rw [hb] at hby; cases hby
    · exact h.2 y (by omega) hn hby
theorem PtAt.take {n : Nat} {cost : Nat → Nat → Int} {C : Nat → Int} {c x : Nat} {v u : Int} (h : PtAt n cost C c x v) (hx : x < n) (hb : c.testBit x = false) (hu : u = max (cost c x) (C (c ||| 2 ^ x))) : PtAt n cost C c (x + 1) (min v u) := by
  refine ⟨?_, fun y hy hn hby => ?_⟩
  · by_cases hvu : v ≤ u
    · rw [Int.min_eq_left hvu]
      rcases h.1 with h1 | ⟨y, h1, h2⟩
      · exact .inl h1
      · exact .inr ⟨y, by omega, h2⟩
    · rw [Int.min_eq_right (by omega)]
      exact .inr ⟨x, by omega, hx, hb, hu⟩
  · by_cases e : y = x
    · subst e; omega
    · have := h.2 y (by omega) hn hby; omega
theorem PtAt.all {n : Nat} {cost : Nat → Nat → Int} {nil : Int} {C : Nat → Int} {c : Nat} {v : Int} (hn : n ≤ 8) (hL : LcUp n cost nil (c + 1) C) (h : PtAt n cost C c n v) (hcost : ∀ g x, cost g x ≤ 100) (hc : c < 2 ^ n - 1) : LcUp n cost nil c (upd C c v) := by
  have hp := pow8 hn
  obtain ⟨h1, h2, h3, h4, h5⟩ := hL
  have hor : ∀ y, y < n → c.testBit y = false → c < c ||| 2 ^ y ∧ c ||| 2 ^ y < 2 ^ n := fun y hy hb => ⟨or_gt (by omega) (by omega) hb, or_lt (by omega) hy⟩
  obtain ⟨z, hz, hzb⟩ := out_bit hn hc
  have hz1 := h.2 z hz hz hzb
  have hz2 := hor z hz hzb
  have hz3 := h5 _ hz2.1 hz2.2
  have hz4 := hcost c z
  have hv : v ≤ 100 := by omega
  refine ⟨by rw [upd_ne C v (by omega)]; exact h1, fun d hd hd2 => ?_, fun d hd => by rw [upd_ne C v (by omega)]; exact h3 d (by omega), by omega, fun d hd hd2 => ?_⟩
  · by_cases e : d = c
    · subst e
      refine ⟨?_, fun y hy hb => ?_⟩
      · rcases h.1 with h6 | ⟨y, _, h6, h7, h8⟩
        · exfalso; unfold maxI at h6; omega
        · refine ⟨y, h6, h7, ?_⟩
          rw [upd_at, upd_ne C v (by have := hor y h6 h7; omega)]; exact h8
      · rw [upd_at, upd_ne C v (by have := hor y hy hb; omega)]; exact h.2 y hy hy hb
    · have hdo : ∀ y, y < n → d.testBit y = false → d ||| 2 ^ y ≠ c := fun y hy hb => by have := or_gt (x := y) (by omega : d < 256) (by omega) hb; omega
      obtain ⟨⟨x, hx, hb, hC⟩, hle⟩ := h2 d (by omega) hd2
      refine ⟨⟨x, hx, hb, ?_⟩, fun y hy hby => ?_⟩
      · rw [upd_ne C v e, upd_ne C v (hdo x hx hb)]; exact hC
      · rw [upd_ne C v e, upd_ne C v (hdo y hy hby)]; exact hle y hy hby
  · by_cases e : d = c
    · subst e; rw [upd_at]; exact hv
    · rw [upd_ne C v e]; exact h5 d (by omega) hd2
end Go.Proofs.Ytgfjdkjoeaghoaa.costs

/- Fronts: the contracts of the program's frontIn and FrontOf. -/
namespace Go.Proofs.Ytgfjdkjoeaghoaa.fronts
open Go.RowKit P2 words edges ints good adjs fns sets rets covs reach bags bitsI
set_option linter.unusedVariables false

theorem shl_all {n : Nat} (hn : n ≤ 8) : IntKind.u64.wrap (IntKind.u64.wrap ((2 : Int) ^ n) - 1) = ((numOf (fun _ => true) n : Nat) : Int) := by
  have hpn : 2 ^ n ≤ 256 := by have := Nat.pow_le_pow_right (show 0 < 2 by decide) hn; simpa using this
  have hp1 : 1 ≤ 2 ^ n := Nat.one_le_two_pow
  have e : numOf (fun _ => true) n = 2 ^ n - 1 := by
    apply Nat.eq_of_testBit_eq
    intro i
    rw [numOf_bit, Nat.testBit_two_pow_sub_one]; simp
  rw [e, wrap_pow hn, IntKind.wrap_u64]
  generalize 2 ^ n = z at *
  omega
theorem all_but {n : Nat} (S : Nat → Bool) (hn : n ≤ 8) : bits .andNot .u64 ((numOf (fun _ => true) n : Nat) : Int) ((numOf S n : Nat) : Int) = ((numOf (fun y => !S y) n : Nat) : Int) := by
  have h1 := numOf_lt (fun _ => true) hn
  refine andNot_num _ S n (by omega) hn _ fun z _ => ?_
  rw [numOf_bit]
  by_cases hz : z < n <;> simp [hz]
noncomputable def froL (n : Nat) (l : List Ed) (xs : List Int) : List Int := nw (frontB l n (goneB xs)) n
theorem fro_len (s : Int) (l : List Ed) (xs : List Int) (p : Prop) (h : p → s.toNat ≤ 8) : (inG p (froL s.toNat l xs)).length ≤ 1048576 := inG_len fun hp => by
  have h1 := nw_len (frontB l s.toNat (goneB xs)) s.toNat
  have h2 := h hp
  unfold froL; omega
end Go.Proofs.Ytgfjdkjoeaghoaa.fronts

/- The pathwidth: plain mathematics. -/
namespace Go.Proofs.Ytgfjdkjoeaghoaa.costs
open Go.RowKit P2 words edges ints good adjs fns sets rets covs reach bags bitsI fronts
set_option linter.unusedVariables false

theorem frontC_le (l : List Ed) (n : Nat) (hn : n ≤ 8) (g x : Nat) : frontC l n g x ≤ 100 := by
  unfold frontC frontN
  have := nw_len (frontB l n (bitB (g ||| 2 ^ x))) n
  omega
theorem frontC_pos (l : List Ed) (n g x : Nat) : 0 ≤ frontC l n g x := by unfold frontC frontN; omega
theorem num_code {n g : Nat} (hg : g < 2 ^ n) : numOf (bitB g) n = g := by
  apply Nat.eq_of_testBit_eq
  intro i
  rw [numOf_bit]
  unfold bitB
  by_cases hi : i < n
  · simp [hi]
  · simp only [hi, decide_false, Bool.false_and]
    exact (Nat.testBit_lt_two_pow (Nat.lt_of_lt_of_le hg (Nat.pow_le_pow_right (by decide) (by omega)))).symm
theorem put_code (g x z : Nat) : pput (bitB g) x z = bitB (g ||| 2 ^ x) z := by
  unfold pput bitB
  rw [Nat.testBit_or, Nat.testBit_two_pow]
  by_cases h : z = x
  · subst h; simp
  · have h2 : ¬ x = z := fun e => h e.symm
    simp [h, h2]
theorem front_put (l : List Ed) (n g x : Nat) : ((nw (frontB l n (pput (bitB g) x)) n).length : Int) = frontC l n g x := by
  unfold frontC frontN
  rw [reach.nw_congr fun z hz => frontB_congr (fun y hy => put_code g x y) hz]
theorem LcUp.pos {n : Nat} {cost : Nat → Nat → Int} {C : Nat → Int} (hn : n ≤ 8) (h : LcUp n cost 0 0 C) (hc : ∀ g x, 0 ≤ cost g x) : 0 ≤ C 0 := by
  by_cases e : 2 ^ n - 1 = 0
  · have := h.1; rw [e] at this; omega
  · obtain ⟨⟨x, _, _, hC⟩, _⟩ := h.2.1 0 (by omega) (by omega)
    have := hc 0 x
    omega
noncomputable def pwV (s : Int) (l : List Ed) : Int := leastV s.toNat (frontC l s.toNat) 0
theorem pw_lc {n : Nat} {l : List Ed} {C : Nat → Int} (hn : n ≤ 8) (h : LcUp n (frontC l n) 0 0 C) : pwV (n : Int) l = C 0 := by
  have e : pwV (n : Int) l = leastV n (frontC l n) 0 := rfl
  rw [e]
  exact Least.is (lc_least hn h.1 (fun c hc => h.2.1 c (by omega) hc) (h.pos hn (frontC_pos l n)))

/-- the model's table: the least separations of the sets below a number -/
def WUp (n : Nat) (cost : Nat → Nat → Int) (k : Nat) (W : Nat → Int) : Prop :=
  W 0 = 0 ∧ (∀ d, d < k → d ≠ 0 → WAt n cost W d) ∧ ∀ d, d < k → 0 ≤ W d ∧ W d ≤ 100
/-- the least of those below a set, so far -/
def BtAt (n : Nat) (W : Nat → Int) (d x : Nat) (b : Int) : Prop :=
  (b = -1 ∧ (∀ y, y < x → d.testBit y = false)) ∨ ((∃ y, y < x ∧ y < n ∧ d.testBit y = true ∧ b = W (d - 2 ^ y)) ∧ ∀ y, y < x → d.testBit y = true → b ≤ W (d - 2 ^ y))
theorem BtAt.start (n : Nat) (W : Nat → Int) (d : Nat) : BtAt n W d 0 (-1) := .inl ⟨rfl, fun y h => by omega⟩
theorem BtAt.skip {n : Nat} {W : Nat → Int} {d x : Nat} {b : Int} (h : BtAt n W d x b) (hb : d.testBit x = false) : BtAt n W d (x + 1) b := by
  rcases h with ⟨h1, h2⟩ | ⟨⟨y, h1, h2⟩, h3⟩
  · refine .inl ⟨h1, fun y hy => ?_⟩
    by_cases e : y = x
    · subst e; exact hb
    · exact h2 y (by omega)
  · refine .inr ⟨⟨y, by omega, h2⟩, fun z hz hzb => ?_⟩
    by_cases e : z = x
    · subst e; rw [hb] at hzb; cases hzb
    · exact h3 z (by omega) hzb
/-- it is less, or the first one -/
theorem BtAt.take {n : Nat} {W : Nat → Int} {d x : Nat} {b : Int} (h : BtAt n W d x b) (hx : x < n) (hb : d.testBit x = true) (hl : b < 0 ∨ W (d - 2 ^ x) < b) (hp : ∀ y, d.testBit y = true → y < n → 0 ≤ W (d - 2 ^ y)) : BtAt n W d (x + 1) (W (d - 2 ^ x)) := by
  refine .inr ⟨⟨x, by omega, hx, hb, rfl⟩, fun z hz hzb => ?_⟩
  by_cases e : z = x
  · subst e; exact Int.le_refl _
  · rcases h with ⟨_, h2⟩ | ⟨⟨y, h1, h2, h4, h5⟩, h3⟩
    · rw [h2 z (by omega)] at hzb; cases hzb
    · have := h3 z (by omega) hzb
      have := hp y h4 h2
      omega
/-- it is not -/
theorem BtAt.keep {n : Nat} {W : Nat → Int} {d x : Nat} {b : Int} (h : BtAt n W d x b) (hl0 : ¬ b < 0) (hl : ¬ W (d - 2 ^ x) < b) : BtAt n W d (x + 1) b := by
  rcases h with ⟨h1, _⟩ | ⟨⟨y, h1, h2⟩, h3⟩
  · omega
  · refine .inr ⟨⟨y, by omega, h2⟩, fun z hz hzb => ?_⟩
    by_cases e : z = x
    · subst e; omega
    · exact h3 z (by omega) hzb
theorem WUp.start (n : Nat) (cost : Nat → Nat → Int) : WUp n cost 1 (fun _ => 0) := ⟨rfl, fun d h1 h2 => by omega, fun d _ => ⟨by show (0 : Int) ≤ 0; omega, by show (0 : Int) ≤ 100; omega⟩⟩
theorem WUp.succ {n : Nat} {l : List Ed} {k : Nat} {W : Nat → Int} {b : Int} (hn : n ≤ 8) (h : WUp n (frontC l n) k W) (hk0 : 1 ≤ k) (hk : k < 2 ^ n) (hb : BtAt n W k n b) : WUp n (frontC l n) (k + 1) (upd W k (max b (frontN l n k))) := by
  have hp := pow8 hn
  obtain ⟨h1, h2, h3⟩ := h
  have hF : frontN l n k ≤ 8 := by unfold frontN; have := nw_len (frontB l n (bitB k)) n; omega
  have hF0 : 0 ≤ frontN l n k := by unfold frontN; omega
  have hfc : ∀ d y, d < 256 → y < 8 → d.testBit y = true → frontC l n (d - 2 ^ y) y = frontN l n d := fun d y hd hy hbt => by unfold frontC; rw [sub_or hd hy hbt]
  have hlt : ∀ d y, d ≠ 0 → d - 2 ^ y < d := fun d y hd => Nat.sub_lt (Nat.pos_of_ne_zero hd) (Nat.two_pow_pos y)
  have hdn : ∀ d y, d ≠ 0 → d ≤ k → d - 2 ^ y ≠ k := fun d y hd hdk => by have := hlt d y hd; omega
  obtain ⟨⟨y, _, hy, hyb, hbv⟩, hle⟩ : (∃ y, y < n ∧ y < n ∧ k.testBit y = true ∧ b = W (k - 2 ^ y)) ∧ ∀ y, y < n → k.testBit y = true → b ≤ W (k - 2 ^ y) := by
    rcases hb with ⟨_, h4⟩ | h4
    · obtain ⟨x, hx, hxb⟩ := in_bit hn hk (by omega)
      rw [h4 x hx] at hxb; cases hxb
    · exact h4
  have hb1 := h3 (k - 2 ^ y) (by have := hlt k y (by omega); omega)
  refine ⟨by rw [upd_ne W _ (by omega)]; exact h1, fun d hd hd0 => ?_, fun d hd => ?_⟩
  · by_cases e : d = k
    · subst e
      refine ⟨⟨y, hy, hyb, ?_⟩, fun z hz hzb => ?_⟩
      · rw [upd_at, upd_ne W _ (hdn d y hd0 (Nat.le_refl _)), hfc d y (by omega) (by omega) hyb, hbv]; omega
      · rw [upd_at, upd_ne W _ (hdn d z hd0 (Nat.le_refl _)), hfc d z (by omega) (by omega) hzb]
        have := hle z hz hzb
        omega
    · obtain ⟨⟨z, hz, hzb, hW⟩, hl2⟩ := h2 d (by omega) hd0
      refine ⟨⟨z, hz, hzb, ?_⟩, fun q hq hqb => ?_⟩
      · rw [upd_ne W _ e, upd_ne W _ (hdn d z hd0 (by omega))]; exact hW
      · rw [upd_ne W _ e, upd_ne W _ (hdn d q hd0 (by omega))]; exact hl2 q hq hqb
  · by_cases e : d = k
    · subst e; rw [upd_at]; omega
    · rw [upd_ne W _ e]; exact h3 d (by omega)
theorem pw_w {n : Nat} {l : List Ed} {W : Nat → Int} (hn : n ≤ 8) (h : WUp n (frontC l n) (2 ^ n) W) : pwV (n : Int) l = W (2 ^ n - 1) := by
  have e : pwV (n : Int) l = leastV n (frontC l n) 0 := rfl
  rw [e]
  exact Least.is (w_least hn h.1 (fun d hd hd0 => h.2.1 d hd hd0) (h.2.2 _ (by have := Nat.two_pow_pos n; omega)).1)
theorem rowF_app (k : Nat) (W : Nat → Int) (v : Int) : rowF (k + 1) (upd W k v) = rowF k W ++ [v] := by
  unfold rowF
  rw [List.range_succ, List.map_append, List.map_singleton, upd_at]
  congr 1
  exact List.map_congr_left fun d hd => upd_ne W v (by have := List.mem_range.1 hd; omega)
theorem gone_code {n d z : Nat} (hz : z < n) : goneB (nw (bitB d) n) z = bitB d z := by
  unfold goneB
  rw [Bool.eq_iff_iff, decide_eq_true_iff, mem_nw]
  constructor
  · rintro ⟨j, _, hj, e⟩
    have e2 : z = j := by omega
    rw [e2]; exact hj
  · intro h; exact ⟨z, hz, h, rfl⟩
theorem fro_code (l : List Ed) (n d : Nat) : (((froL n l (nw (bitB d) n)).length : Nat) : Int) = frontN l n d := by
  unfold froL frontN
  rw [reach.nw_congr fun z hz => frontB_congr (fun y hy => gone_code hy) hz]
end Go.Proofs.Ytgfjdkjoeaghoaa.costs

/- Lists that have each node once: the contracts of the program's hasOrder and of the model's l2Each. -/
namespace Go.Proofs.Ytgfjdkjoeaghoaa.each
open Go.RowKit Go.Maps P2 words edges ints good near adjs fns sets rets covs balls
set_option linter.unusedVariables false

theorem cell_keep {w w' : World} {b o : Nat} {v : Value} (h : w.cell? ⟨b, o, none⟩ = some v) (hb : Below w.heap.size w w') : w'.cell? ⟨b, o, none⟩ = some v :=
  (hb.cell (p := ⟨b, o, none⟩) (World.block_lt_of_cell? w (a := ⟨b, o, none⟩) h)).trans h
/-- a list has each node once -/
def EachS (n : Nat) (tl : List Int) : Prop := tl.length = n ∧ ∀ k : Nat, k < n → (k : Int) ∈ tl
theorem allN_nodup (n : Nat) : (allN n).Nodup := by
  unfold allN
  rw [List.Nodup, List.pairwise_map]
  exact List.pairwise_lt_range.imp (fun {a b} h e => by omega)
theorem EachS.range {n : Nat} {tl : List Int} (h : EachS n tl) : ∀ x ∈ tl, 0 ≤ x ∧ x < (n : Int) := fun x hx => by
  apply Classical.byContradiction
  intro hn
  have hnd : (x :: allN n).Nodup := List.nodup_cons.2 ⟨fun hm => hn (mem_allN.1 hm), allN_nodup n⟩
  have hsub : (x :: allN n) ⊆ tl := fun y hy => by
    rcases List.mem_cons.1 hy with rfl | hy
    · exact hx
    · have := mem_allN.1 hy
      have h2 := h.2 y.toNat (by omega)
      rwa [show ((y.toNat : Nat) : Int) = y from by omega] at h2
  have := hnd.length_le_of_subset hsub
  have h1 := h.1
  rw [List.length_cons, allN_len] at this
  omega

/-- the distinct numbers of a list -/
def addD (L : List Int) (x : Int) : List Int := if x ∈ L then L else L ++ [x]
def dst (xs : List Int) : List Int := xs.foldl addD []
theorem mem_addD {L : List Int} {x y : Int} : y ∈ addD L x ↔ y ∈ L ∨ y = x := by
  unfold addD
  split
  · rename_i h; exact ⟨.inl, fun hh => by rcases hh with hh | rfl; exact hh; exact h⟩
  · simp
theorem addD_nodup {L : List Int} {x : Int} (h : L.Nodup) : (addD L x).Nodup := by
  unfold addD
  split
  · exact h
  · rename_i hx
    rw [List.nodup_append]
    exact ⟨h, by simp, fun a ha b hb e => hx (by rw [List.mem_singleton] at hb; subst hb; rw [← e]; exact ha)⟩
theorem mem_fold : ∀ (xs L : List Int) (y : Int), y ∈ xs.foldl addD L ↔ y ∈ L ∨ y ∈ xs
  | [], L, y => by simp
  | x :: xs, L, y => by
    rw [List.foldl_cons, mem_fold xs, mem_addD, List.mem_cons, or_assoc]
theorem fold_nodup : ∀ (xs L : List Int), L.Nodup → (xs.foldl addD L).Nodup
  | [], L, h => h
  | x :: xs, L, h => by rw [List.foldl_cons]; exact fold_nodup xs _ (addD_nodup h)
theorem mem_dst {xs : List Int} {y : Int} : y ∈ dst xs ↔ y ∈ xs := by unfold dst; rw [mem_fold]; simp
theorem dst_nodup (xs : List Int) : (dst xs).Nodup := fold_nodup xs [] (by simp)
theorem dst_succ {xs : List Int} {k : Nat} {x : Int} (h : xs[k]? = some x) : dst (xs.take (k + 1)) = addD (dst (xs.take k)) x := by
  unfold dst
  rw [List.take_add_one, h, List.foldl_append]; rfl
theorem dst_len (xs : List Int) : (dst xs).length ≤ xs.length := (dst_nodup xs).length_le_of_subset (fun y hy => mem_dst.1 hy)
theorem each_dst {n : Nat} {tl : List Int} (hl : tl.length = n) (hr : ∀ x ∈ tl, 0 ≤ x ∧ x < (n : Int)) : EachS n tl ↔ (dst tl).length = n := by
  constructor
  · intro h
    have h1 : (allN n).length ≤ (dst tl).length := (allN_nodup n).length_le_of_subset (fun y hy => mem_dst.2 (by
      have := mem_allN.1 hy
      have h2 := h.2 y.toNat (by omega)
      rwa [show ((y.toNat : Nat) : Int) = y from by omega] at h2))
    have h2 := dst_len tl
    rw [allN_len] at h1
    omega
  · intro h
    refine ⟨hl, fun k hk => Classical.byContradiction fun hn => ?_⟩
    have hnd : ((k : Int) :: dst tl).Nodup := List.nodup_cons.2 ⟨fun hm => hn (mem_dst.1 hm), dst_nodup tl⟩
    have hsub : ((k : Int) :: dst tl) ⊆ allN n := fun y hy => by
      rcases List.mem_cons.1 hy with rfl | hy
      · exact mem_allN.2 (by omega)
      · exact mem_allN.2 (hr y (mem_dst.1 hy))
    have := hnd.length_le_of_subset hsub
    rw [List.length_cons, allN_len] at this
    omega


end Go.Proofs.Ytgfjdkjoeaghoaa.each

/- Bags and widths of eliminations: plain mathematics. -/
namespace Go.Proofs.Ytgfjdkjoeaghoaa.bags
open Go.RowKit P2 words edges ints fns sets covs reach each
set_option linter.unusedVariables false

theorem fold_len : ∀ (xs L : List Int), (xs.foldl addD L).length ≤ L.length + xs.length
  | [], L => by simp
  | x :: xs, L => by
    rw [List.foldl_cons]
    have h1 := fold_len xs (addD L x)
    have h2 : (addD L x).length ≤ L.length + 1 := by unfold addD; split <;> simp
    simp only [List.length_cons]
    omega
theorem EachS.fresh {n : Nat} {tl : List Int} (h : EachS n tl) {k : Nat} {x : Int} (hx : tl[k]? = some x) : x ∉ tl.take k := fun hm => by
  have h1 := (each_dst h.1 h.range).1 h
  have hk := (List.getElem?_eq_some_iff.1 hx).1
  have h2 : dst (tl.take (k + 1)) = dst (tl.take k) := by rw [dst_succ hx]; unfold addD; rw [if_pos (mem_dst.2 hm)]
  have h3 : dst tl = (tl.drop (k + 1)).foldl addD (dst (tl.take (k + 1))) := by
    unfold dst
    rw [← List.foldl_append, List.take_append_drop]
  have h4 := fold_len (tl.drop (k + 1)) (dst (tl.take (k + 1)))
  rw [← h3, h2, List.length_drop] at h4
  have h5 := dst_len (tl.take k)
  rw [List.length_take] at h5
  have := h.1
  omega
theorem goneB_fresh {n : Nat} {tl : List Int} (h : EachS n tl) {k m : Nat} (hx : tl[k]? = some (m : Int)) : goneB (tl.take k) m = false := decide_eq_false (EachS.fresh h hx)
theorem goneB_succ {tl : List Int} {k m : Nat} (hx : tl[k]? = some (m : Int)) : goneB (tl.take (k + 1)) = pput (goneB (tl.take k)) m := by
  funext z
  unfold goneB pput
  rw [List.take_add_one, hx, Bool.eq_iff_iff, decide_eq_true_iff, Bool.or_eq_true, decide_eq_true_iff, decide_eq_true_iff]
  simp only [Option.toList, List.mem_append, List.mem_singleton]
  constructor
  · rintro (h1 | h1)
    · exact .inl h1
    · exact .inr (by omega)
  · rintro (h1 | h1)
    · exact .inl h1
    · exact .inr (by omega)
/-- the bag of a place -/
noncomputable def bagT (n : Nat) (l : List Ed) (tl : List Int) (i : Nat) : List Int := nw (bagB n l (goneB (tl.take i)) (tl.getD i 0).toNat) n
noncomputable def laterT (n : Nat) (l : List Ed) (tl : List Int) (i : Nat) : List Int := nw (laterB n l (goneB (tl.take i)) (tl.getD i 0).toNat) n
theorem getD_at {tl : List Int} {i m : Nat} (h : tl[i]? = some (m : Int)) : (tl.getD i 0).toNat = m := by rw [List.getD_eq_getElem?_getD, h]; simp
noncomputable def bagsK (n : Nat) (l : List Ed) (tl : List Int) (k : Nat) : List (List Int) := (List.range k).map (bagT n l tl)
theorem bagsK_len (n : Nat) (l : List Ed) (tl : List Int) (k : Nat) : (bagsK n l tl k).length = k := by simp [bagsK]
theorem bagsK_at {n : Nat} {l : List Ed} {tl : List Int} {k i : Nat} (h : i < k) : (bagsK n l tl k)[i]? = some (bagT n l tl i) := by simp [bagsK, h]
noncomputable def bagsR (n : Nat) (l : List Ed) (tl : List Int) (k : Nat) : List (List Int) := bagsK n l tl k ++ List.replicate (n - k) []
theorem bagsR_zero (n : Nat) (l : List Ed) (tl : List Int) : bagsR n l tl 0 = List.replicate n [] := by simp [bagsR, bagsK]
theorem bagsR_len (n : Nat) (l : List Ed) (tl : List Int) {k : Nat} (h : k ≤ n) : (bagsR n l tl k).length = n := by simp [bagsR, bagsK_len]; omega
theorem bagsR_all (n : Nat) (l : List Ed) (tl : List Int) : bagsR n l tl n = bagsK n l tl n := by simp [bagsR]
theorem bagsR_succ (n : Nat) (l : List Ed) (tl : List Int) {k : Nat} (h : k < n) : (bagsR n l tl k).set k (bagT n l tl k) = bagsR n l tl (k + 1) := by
  unfold bagsR
  obtain ⟨m, hm⟩ : ∃ m, n - k = m + 1 := ⟨n - k - 1, by omega⟩
  rw [List.set_append, if_neg (by rw [bagsK_len]; omega), bagsK_len, Nat.sub_self, hm, List.replicate_succ, List.set_cons_zero, show n - (k + 1) = m from by omega]
  unfold bagsK
  rw [List.range_succ, List.map_append, List.append_assoc]
  rfl
theorem bagT_len {n : Nat} {l : List Ed} {tl : List Int} {i m : Nat} (h : tl[i]? = some (m : Int)) (hm : m < n) : (bagT n l tl i).length = (laterT n l tl i).length + 1 := by
  unfold bagT laterT
  rw [getD_at h]
  exact bag_len hm
/-- the width by the first k places -/
noncomputable def widK (n : Nat) (l : List Ed) (tl : List Int) : Nat → Int
  | 0 => -1
  | k + 1 => max (widK n l tl k) ((laterT n l tl k).length : Int)
theorem widK_le (n : Nat) (l : List Ed) (tl : List Int) : ∀ k, -1 ≤ widK n l tl k ∧ widK n l tl k ≤ n
  | 0 => by unfold widK; omega
  | k + 1 => by
    have ih := widK_le n l tl k
    have : (laterT n l tl k).length ≤ n := nw_len _ _
    unfold widK
    omega
def ElimOk (s : Int) (l : List Ed) (tl : List Int) : Prop := P2.Good s l ∧ EachS s.toNat tl
end Go.Proofs.Ytgfjdkjoeaghoaa.bags

/- Slices of slices of integers: what a function returns that may fail; a row stored, rows made. -/
namespace Go.Proofs.Ytgfjdkjoeaghoaa.grid
open Go.RowKit P2 words edges ints owns rets
set_option linter.unusedVariables false

noncomputable def gdG (p : Prop) (rows : List (List Int)) : List (List Int) := if okG p = true then rows else []
theorem gdG_yes {p : Prop} (h : p) (l : List (List Int)) : gdG p l = l := by unfold gdG; rw [okG_yes h]; rfl
theorem gdG_no {p : Prop} (h : ¬ p) (l : List (List Int)) : gdG p l = [] := by unfold gdG; rw [okG_no h]; rfl
/-- rows and true where p holds, or none and false -/
def RetGr (w : World) (p : Prop) (rows : List (List Int)) (e : Ending) (w' : World) : Prop :=
  ∃ A c us, e = .returned (.tuple #[.slice A (gdG p rows).length c, .bool (okG p)]) ∧ OwnG w' w.heap.size (.slice A (gdG p rows).length c) us (gdG p rows) ∧ Below w.heap.size w w'
theorem RetGr.yes {w w' : World} {p : Prop} {rows : List (List Int)} {A : Option Addr} {c : Nat} {us : List Value} (hp : p) (ho : OwnG w' w.heap.size (.slice A rows.length c) us rows) (hb : Below w.heap.size w w') :
    RetGr w p rows (.returned (.tuple #[.slice A rows.length c, .bool true])) w' := by
  refine ⟨A, c, us, ?_, ?_, hb⟩
  · rw [gdG_yes hp, okG_yes hp]
  · rw [gdG_yes hp]; exact ho
theorem RetGr.no {w w' : World} {p : Prop} {rows : List (List Int)} {A : Option Addr} {c : Nat} (hp : ¬ p) (ho : w'.ownsRow w.heap.size 37 1 (.slice A 0 c) 0 []) (hb : Below w.heap.size w w') :
    RetGr w p rows (.returned (.tuple #[.slice A 0 c, .bool false])) w' := by
  refine ⟨A, c, [], ?_, ?_, hb⟩
  · rw [gdG_no hp, okG_no hp]; rfl
  · rw [gdG_no hp]
    exact ⟨ho, fun i u r hu => by simp at hu, fun i j u u' k _ hu => by simp at hu⟩
theorem RetGr.nil {w w' : World} {p : Prop} {rows : List (List Int)} (hp : ¬ p) (hb : Below w.heap.size w w') : RetGr w p rows (.returned (.tuple #[.slice none 0 0, .bool false])) w' :=
  RetGr.no hp (World.ownsRow_nil _ _ _ _) hb
theorem RetGr.congr {w w' : World} {p q : Prop} {rows rows' : List (List Int)} {e : Ending} (h : RetGr w p rows e w') (hp : p ↔ q) (hr : p → rows = rows') : RetGr w q rows' e w' := by
  have hpq : p = q := propext hp
  subst hpq
  by_cases h1 : p
  · rw [← hr h1]; exact h
  · obtain ⟨A, c, us, h2, h3, h4⟩ := h
    rw [gdG_no h1] at h2 h3
    exact ⟨A, c, us, by rw [gdG_no h1]; exact h2, by rw [gdG_no h1]; exact h3, h4⟩
section
variable {w w' : World} {B : Nat} {us : List Value} {rows : List (List Int)}
/-- a row stored into its place -/
theorem OwnG.store {g c k : Nat} {u : Value} {r : List Int} (h : OwnG w B (.slice (some ⟨g, 0, none⟩) rows.length c) us rows) (hk : k < rows.length) (hu : w.ownsRow B 3 1 u r.length (cellsI r))
    (hne : ∀ i x b, i ≠ k → us[i]? = some x → x.ownBlock = some b → u.ownBlock ≠ some b) : OwnG (w.setCell ⟨g, k, none⟩ u) B (.slice (some ⟨g, 0, none⟩) rows.length c) (us.set k u) (rows.set k r) := by
  have hl := h.len
  have hgr := gset (World.grownBy.refl w (some g)) k u
  have keep : ∀ {x : Value} {q : List Int}, w.ownsRow B 3 1 x q.length (cellsI q) → (w.setCell ⟨g, k, none⟩ u).ownsRow B 3 1 x q.length (cellsI q) := fun {x q} ho => by
    refine ho.kept hgr ?_
    cases hx : x.ownBlock with
    | none => exact .inl rfl
    | some b => exact .inr fun e => own_apart ho h.1 tneI b hx (by simp [Value.ownBlock]; cases e; rfl)
  refine ⟨?_, ?_, ?_⟩
  · rw [List.length_set]
    have := (h.1.stored k u).1
    simpa using this
  · intro i x q hx hq
    by_cases e : i = k
    · subst e
      rw [List.getElem?_set_self (by omega)] at hx
      rw [List.getElem?_set_self hk] at hq
      cases hx; cases hq
      exact keep hu
    · rw [List.getElem?_set_ne (fun hh => e hh.symm)] at hx hq
      exact keep (h.2.1 i x q hx hq)
  · intro i j x x' b hij hx hx' hb
    by_cases e : i = k
    · subst e
      rw [List.getElem?_set_self (by omega)] at hx
      cases hx
      rw [List.getElem?_set_ne (by omega)] at hx'
      intro hb'
      exact hne j x' b (by omega) hx' hb' hb
    · rw [List.getElem?_set_ne (fun hh => e hh.symm)] at hx
      by_cases e2 : j = k
      · subst e2
        rw [List.getElem?_set_self (by omega)] at hx'
        cases hx'
        exact hne i x b e hx hb
      · rw [List.getElem?_set_ne (fun hh => e2 hh.symm)] at hx'
        exact h.2.2 i j x x' b hij hx hx' hb
/-- a row made since is apart from all others -/
theorem OwnG.fresh {w0 : World} {v u : Value} {r : List Int} (h : OwnG w0 B v us rows) (hu : w.ownsRow w0.heap.size 3 1 u r.length (cellsI r)) : ∀ (i : Nat) x b, us[i]? = some x → x.ownBlock = some b → u.ownBlock ≠ some b := fun i x b hx hb hb' => by
  obtain ⟨q, hq⟩ : ∃ q, rows[i]? = some q := ⟨_, List.getElem?_eq_getElem (by have := (List.getElem?_eq_some_iff.1 hx).1; have := h.len; omega)⟩
  have h1 := ((h.2.1 i x q hx hq).lt b hb).2
  have h2 := (hu.lt b hb').1
  omega
/-- rows without numbers, just made -/
theorem OwnG.made (w : World) (n : Nat) (hn : n ≤ maxLen) : OwnG (w.alloc (.cells (madeCells #[.slice none 0 0] (n * 1)) 37)) w.heap.size (.slice (some ⟨w.heap.size, 0, none⟩) n n) (List.replicate n (.slice none 0 0)) (List.replicate n []) := by
  have hm : (madeCells #[Value.slice none 0 0] (n * 1)).toList = List.replicate n (.slice none 0 0) := by rw [toList_madeCells_one]; simp
  refine ⟨?_, ?_, ?_⟩
  · have hown := World.ownsRow_lit (base := w.heap.size) (e := 37) (size := 1) w (madeCells #[Value.slice none 0 0] (n * 1)) n (Nat.le_refl _) hn (size_madeCells _ _)
    rw [hm] at hown
    rw [List.length_replicate]
    exact hown
  · intro i x q hx hq
    have h1 : x = .slice none 0 0 := (List.mem_replicate.1 (List.mem_of_getElem? hx)).2
    have h2 : q = [] := (List.mem_replicate.1 (List.mem_of_getElem? hq)).2
    subst h1; subst h2
    exact World.ownsRow_nil _ _ _ _
  · intro i j x x' b hij hx hx' hb
    have h1 : x = .slice none 0 0 := (List.mem_replicate.1 (List.mem_of_getElem? hx)).2
    subst h1
    simp [Value.ownBlock] at hb
end
end Go.Proofs.Ytgfjdkjoeaghoaa.grid

/- The contracts of EliminationWidth: of the program and of the model. -/
namespace Go.Proofs.Ytgfjdkjoeaghoaa.bags
open Go.RowKit P2 words edges ints good adjs fns sets rets covs reach each bitsI grid gridr
set_option linter.unusedVariables false

theorem ite_max (a b : Int) : (if b < a then a else b) = max b a := by split <;> omega
def RetN (w : World) (p : Prop) (x : Int) (e : Ending) (w' : World) : Prop := e = .returned (.tuple #[.int .i64 (szG p x), .bool (okG p)]) ∧ Below w.heap.size w w'
theorem RetN.yes {w w' : World} {p : Prop} {x : Int} (hp : p) (hb : Below w.heap.size w w') : RetN w p x (.returned (.tuple #[.int .i64 x, .bool true])) w' := ⟨by rw [szG_yes hp, okG_yes hp], hb⟩
theorem RetN.no {w w' : World} {p : Prop} {x : Int} (hp : ¬ p) (hb : Below w.heap.size w w') : RetN w p x (.returned (.tuple #[.int .i64 0, .bool false])) w' := ⟨by rw [szG_no hp, okG_no hp], hb⟩
theorem ints_take {w : World} {A : Option Addr} {c i : Nat} {tl : List Int} (h : Ints w (.slice A tl.length c) tl) (hi : i ≤ tl.length) (hc : i ≤ c) : Ints w (.slice A i c) (tl.take i) := by
  have h1 := apps.Reads.take (c' := c) h hi hc
  rw [apps.cellsI_take] at h1
  show Reads w 1 _ (tl.take i).length _
  rw [List.length_take, Nat.min_eq_left hi]
  exact h1
theorem ints_cap {w : World} {A : Option Addr} {c : Nat} {tl : List Int} (h : Ints w (.slice A tl.length c) tl) : tl.length ≤ c := by
  rcases Nat.eq_zero_or_pos tl.length with h0 | h0
  · omega
  · obtain ⟨A', c', e, hx⟩ := h
    cases e
    exact (hx h0).choose_spec.choose_spec.2.1
end Go.Proofs.Ytgfjdkjoeaghoaa.bags

/- The contracts of the program's widthAt and TreewidthOf. -/
namespace Go.Proofs.Ytgfjdkjoeaghoaa.costs
open Go.RowKit P2 words edges ints good adjs fns sets rets covs reach bags bitsI fronts
set_option linter.unusedVariables false

noncomputable def costW (l : List Ed) (n g x : Nat) : Int := ((nw (laterB n l (bitB g) x) n).length : Int)
theorem costW_le (l : List Ed) (n : Nat) (hn : n ≤ 8) (g x : Nat) : costW l n g x ≤ 100 := by
  unfold costW
  have := nw_len (laterB n l (bitB g) x) n
  omega
theorem costW_pos (l : List Ed) (n g x : Nat) : 0 ≤ costW l n g x := by unfold costW; omega
noncomputable def twV (s : Int) (l : List Ed) : Int := leastV s.toNat (costW l s.toNat) (-1)
theorem LcUp.low {n : Nat} {cost : Nat → Nat → Int} {C : Nat → Int} (hn : n ≤ 8) (h : LcUp n cost (-1) 0 C) (hc : ∀ g x, 0 ≤ cost g x) : -1 ≤ C 0 := by
  by_cases e : 2 ^ n - 1 = 0
  · have := h.1; rw [e] at this; omega
  · obtain ⟨⟨x, _, _, hC⟩, _⟩ := h.2.1 0 (by omega) (by omega)
    have := hc 0 x
    omega
theorem tw_lc {n : Nat} {l : List Ed} {C : Nat → Int} (hn : n ≤ 8) (h : LcUp n (costW l n) (-1) 0 C) : twV (n : Int) l = C 0 := by
  have e : twV (n : Int) l = leastV n (costW l n) (-1) := rfl
  rw [e]
  exact Least.is (lc_least hn h.1 (fun c hc => h.2.1 c (by omega) hc) (h.low hn (costW_pos l n)))
theorem own_litT {w : World} {B N c : Nat} {A : Option Addr} {cs : List Value} (h : w.ownsRow B 3 1 (.slice A N c) N cs) (hN : 0 < N) : ∃ g, A = some ⟨g, 0, none⟩ := by
  rcases h.2 with ⟨_, h1⟩ | ⟨g, cap, cur, h1, _⟩
  · omega
  · cases h1; exact ⟨g, rfl⟩
end Go.Proofs.Ytgfjdkjoeaghoaa.costs

/- The contract of the closure of the program's cheapestOrder: does a node fit. -/
namespace Go.Proofs.Ytgfjdkjoeaghoaa.costs
open Go.RowKit P2 words edges ints good adjs fns sets rets covs reach bags bitsI fronts
set_option linter.unusedVariables false
set_option linter.unusedSimpArgs false

theorem max_if (a b : Int) : (if a < b then b else a) = max a b := by split <;> omega
theorem row0 {w : World} {B c : Nat} {g o : Nat} {F : List Int} {z : Int} (h : w.ownsRow B 3 1 (.slice (some ⟨g, o, none⟩) F.length c) F.length (cellsI F)) (hx : F[0]? = some z) : w.cell? ⟨g, o, none⟩ = some (.int .i64 z) := by
  obtain ⟨_, _, hf, hcc⟩ := (show Ints w (.slice (some ⟨g, o, none⟩) F.length c) F from Reads.of_own h).form
  cases hf
  obtain ⟨_, _, e, q⟩ := hcc 0 _ hx
  cases e
  exact q
def Apart' (u v : Value) : Prop := ∀ k, u.ownBlock = some k → v.ownBlock ≠ some k
def fitB (fit : Nat → Nat → Bool) (g : Nat) : Nat → Bool := fun x => !g.testBit x && fit g x
/-- the first order, k nodes long: the set of its nodes, and they -/
def ordN (n : Nat) (fit : Nat → Nat → Bool) : Nat → Option (Nat × List Int)
  | 0 => some (0, [])
  | k + 1 => (ordN n fit k).bind fun s => ((nw (fitB fit s.1) n)[0]?).map fun x => (s.1 ||| 2 ^ x.toNat, s.2 ++ [x])
theorem ordN_none {n : Nat} {fit : Nat → Nat → Bool} {k : Nat} (h : ordN n fit k = none) : ∀ j, ordN n fit (k + j) = none
  | 0 => h
  | j + 1 => by
    have := ordN_none h j
    show ordN n fit (k + j + 1) = none
    rw [ordN, this]; rfl
theorem ordN_ok {n : Nat} {fit : Nat → Nat → Bool} : ∀ {k : Nat} {g : Nat} {L : List Int}, ordN n fit k = some (g, L) → g < 2 ^ n ∧ L.length = k
  | 0, g, L, h => by
    cases h
    exact ⟨Nat.two_pow_pos n, rfl⟩
  | k + 1, g, L, h => by
    rw [ordN] at h
    cases hk : ordN n fit k with
    | none => rw [hk] at h; cases h
    | some s =>
      obtain ⟨g0, L0⟩ := s
      rw [hk] at h
      simp only [Option.bind_some] at h
      cases hx : (nw (fitB fit g0) n)[0]? with
      | none => rw [hx] at h; cases h
      | some x =>
        rw [hx] at h
        cases h
        obtain ⟨z, hz, h2⟩ := mem_nw.1 (List.mem_of_getElem? hx)
        have h3 := ordN_ok hk
        refine ⟨?_, by simp [h3.2]⟩
        obtain ⟨_, rfl⟩ := h2
        exact or_lt h3.1 (by simpa using hz)
noncomputable def ordL (n : Nat) (fit : Nat → Nat → Bool) : List Int := ((ordN n fit n).map (·.2)).getD []
end Go.Proofs.Ytgfjdkjoeaghoaa.costs

/- The contract of the program's cheapestOrder. -/
namespace Go.Proofs.Ytgfjdkjoeaghoaa.costs
open Go.RowKit P2 words edges ints good adjs fns sets rets covs reach bags bitsI fronts
set_option linter.unusedVariables false

def fitC (cost : Nat → Nat → Int) (C : Nat → Int) (g x : Nat) : Bool := decide (max (cost g x) (C (g ||| 2 ^ x)) ≤ C 0)
end Go.Proofs.Ytgfjdkjoeaghoaa.costs

/- Distances are the same from both ends. -/
namespace Go.Proofs.Ytgfjdkjoeaghoaa.P2

section
variable {n : Nat} {J : Nat → Nat → Bool}
/-- at most one more behind an edge -/
theorem dist_edge {x y z : Nat} (hx : x < n) (hy : y < n) (hz : z < n) (h0 : 0 ≤ fn (dist n J x) y) (hJ : J y z = true) : 0 ≤ fn (dist n J x) z ∧ fn (dist n J x) z ≤ fn (dist n J x) y + 1 :=
  (dist_spec J hx).2.step y z hy hz h0 hJ
/-- an edge ahead of a way -/
theorem dist_ahead {b a : Nat} (hb : b < n) (ha : a < n) (hJ : J b a = true) : ∀ (k : Nat) v, v < n → fn (dist n J a) v = (k : Int) → 0 ≤ fn (dist n J b) v ∧ fn (dist n J b) v ≤ (k : Int) + 1
  | 0, v, hv, e => by
    obtain rfl := (dist_spec J ha).2.only v hv e
    have h := dist_edge (J := J) hb hb hv (by rw [(dist_spec J hb).2.at0]; omega) hJ
    rw [(dist_spec J hb).2.at0] at h
    omega
  | k + 1, v, hv, e => by
    obtain ⟨u, hu, eu, hj⟩ := (dist_spec J ha).2.back v hv (by omega)
    have ih := dist_ahead hb ha hJ k u hu (by omega)
    have := dist_edge hb hu hv ih.1 hj
    omega
/-- the first step of a way -/
theorem dist_first {z : Nat} (hz : z < n) : ∀ (k : Nat) v, v < n → fn (dist n J z) v = ((k + 1 : Nat) : Int) → ∃ u, u < n ∧ J z u = true ∧ fn (dist n J u) v = (k : Int)
  | 0, v, hv, e => by
    obtain ⟨w, hw, ew, hj⟩ := (dist_spec J hz).2.back v hv (by omega)
    obtain rfl := (dist_spec J hz).2.only w hw (by omega)
    exact ⟨v, hv, hj, (dist_spec J hv).2.at0⟩
  | k + 1, v, hv, e => by
    obtain ⟨w, hw, ew, hj⟩ := (dist_spec J hz).2.back v hv (by omega)
    obtain ⟨u, hu, hzu, hd⟩ := dist_first hz k w hw (by omega)
    have h1 := dist_edge hu hw hv (by omega) hj
    have h2 := dist_ahead hz hu hzu (fn (dist n J u) v).toNat v hv (by omega)
    exact ⟨u, hu, hzu, by omega⟩
theorem dist_symm (hJ : ∀ a b, J a b = J b a) {y z : Nat} (hy : y < n) (hz : z < n) : fn (dist n J z) y = fn (dist n J y) z := by
  have hE : IsDist n J y (fun z => fn (dist n J z) y) :=
    { at0 := (dist_spec J hy).2.at0
      only := fun a ha e => ((dist_spec J ha).2.only y hy e).symm
      low := fun a ha => (dist_spec J ha).2.low y hy
      step := fun a b ha hb h0 hj => by
        have h0' : 0 ≤ fn (dist n J a) y := h0
        have h := dist_ahead (J := J) hb ha ((hJ b a).trans hj) (fn (dist n J a) y).toNat y hy (by omega)
        show 0 ≤ fn (dist n J b) y ∧ fn (dist n J b) y ≤ fn (dist n J a) y + 1
        omega
      back := fun a ha h0 => by
        have h0' : 0 < fn (dist n J a) y := h0
        obtain ⟨k, hk⟩ : ∃ k : Nat, fn (dist n J a) y = ((k + 1 : Nat) : Int) := ⟨(fn (dist n J a) y).toNat - 1, by omega⟩
        obtain ⟨u, hu, hau, hd⟩ := dist_first ha k y hy hk
        refine ⟨u, hu, ?_, (hJ u a).trans hau⟩
        show fn (dist n J u) y = fn (dist n J a) y - 1
        omega }
  exact hE.eq (dist_spec J hy).2 z hz
end

/-- the next node of a first way to y -/
noncomputable def nxP (n : Nat) (J : Nat → Nat → Bool) (y a z : Nat) : Bool := J a z && decide (fn (dist n J z) y = fn (dist n J a) y - 1)
noncomputable def nxt (n : Nat) (J : Nat → Nat → Bool) (y a : Nat) : Nat := ((List.range n).find? (nxP n J y a)).getD 0
noncomputable def wayA (n : Nat) (J : Nat → Nat → Bool) (y x : Nat) : Nat → Nat
  | 0 => x
  | k + 1 => nxt n J y (wayA n J y x k)
noncomputable def wayT (n : Nat) (J : Nat → Nat → Bool) (y x k : Nat) : List Int := (List.range (k + 1)).map fun j => (wayA n J y x j : Int)
theorem wayT_len (n : Nat) (J : Nat → Nat → Bool) (y x k : Nat) : (wayT n J y x k).length = k + 1 := by simp [wayT]
theorem wayT_zero (n : Nat) (J : Nat → Nat → Bool) (y x : Nat) : wayT n J y x 0 = [(x : Int)] := rfl
theorem wayT_succ (n : Nat) (J : Nat → Nat → Bool) (y x k : Nat) : wayT n J y x (k + 1) = wayT n J y x k ++ [(wayA n J y x (k + 1) : Int)] := by
  unfold wayT; rw [List.range_succ (n := k + 1), List.map_append]; rfl
theorem nxt_spec {n : Nat} {J : Nat → Nat → Bool} {y a k : Nat} (ha : a < n) (hy : y < n) (hd : fn (dist n J a) y = ((k + 1 : Nat) : Int)) :
    nxt n J y a < n ∧ J a (nxt n J y a) = true ∧ fn (dist n J (nxt n J y a)) y = (k : Int) ∧ ∀ z, z < nxt n J y a → nxP n J y a z = false := by
  obtain ⟨u, hu, hau, hdu⟩ := dist_first ha k y hy hd
  have hpu : nxP n J y a u = true := by
    unfold nxP
    rw [hau, decide_eq_true (by omega)]; rfl
  cases hf : (List.range n).find? (nxP n J y a) with
  | none =>
    have := List.find?_eq_none.1 hf u (List.mem_range.2 hu)
    rw [hpu] at this; exact absurd rfl this
  | some z =>
    obtain ⟨h1, h2, h3⟩ := List.find?_range_eq_some.1 hf
    have hz : z < n := List.mem_range.1 h2
    have e : nxt n J y a = z := by unfold nxt; rw [hf]; rfl
    rw [e]
    unfold nxP at h1
    rw [Bool.and_eq_true] at h1
    refine ⟨hz, h1.1, ?_, fun j hj => ?_⟩
    · have := of_decide_eq_true h1.2; omega
    · have := h3 j hj; simpa using this
theorem way_at {n : Nat} {J : Nat → Nat → Bool} {y x K : Nat} (hx : x < n) (hy : y < n) (hd : fn (dist n J x) y = (K : Int)) : ∀ k, k ≤ K → wayA n J y x k < n ∧ fn (dist n J (wayA n J y x k)) y = ((K - k : Nat) : Int)
  | 0, _ => ⟨hx, by rw [Nat.sub_zero]; exact hd⟩
  | k + 1, hk => by
    have ih := way_at hx hy hd k (by omega)
    have h := nxt_spec (k := K - (k + 1)) ih.1 hy (by rw [ih.2]; omega)
    exact ⟨h.1, h.2.2.1⟩
theorem way_end {n : Nat} {J : Nat → Nat → Bool} {y x K : Nat} (hx : x < n) (hy : y < n) (hd : fn (dist n J x) y = (K : Int)) {k : Nat} (hk : k ≤ K) : wayA n J y x k = y ↔ k = K := by
  have h := way_at hx hy hd k hk
  constructor
  · intro e
    rw [e, (dist_spec J hy).2.at0] at h
    omega
  · rintro rfl
    rw [Nat.sub_self] at h
    exact ((dist_spec J h.1).2.only y hy h.2).symm
/-- the first number for which a test holds -/
theorem nw_head {p : Nat → Bool} {n z : Nat} (hz : z < n) (hp : p z = true) (h0 : ∀ j, j < z → p j = false) : (fns.nw p n)[0]? = some (z : Int) := by
  have hf : (List.range n).find? p = some z := List.find?_range_eq_some.2 ⟨hp, List.mem_range.2 hz, fun j hj => by simp [h0 j hj]⟩
  unfold fns.nw
  rw [List.getElem?_map, ← List.head?_eq_getElem?, List.head?_filter, hf]
  rfl
/-- the program's test for a step -/
theorem step_is {n : Nat} {J : Nat → Nat → Bool} (hJ : ∀ a b, J a b = J b a) {y a z : Nat} (hy : y < n) (ha : a < n) (hz : z < n) (h0 : 0 ≤ fn (dist n J a) y) :
    (J a z && decide (fn (dist n J y) z < fn (dist n J y) a)) = nxP n J y a z := by
  unfold nxP
  cases hj : J a z with
  | false => rfl
  | true =>
    rw [← dist_symm hJ hy hz, ← dist_symm hJ hy ha]
    show decide _ = decide _
    rw [decide_eq_decide]
    have h1 := dist_ahead (J := J) ha hz hj
    have h2 := dist_ahead (J := J) hz ha ((hJ z a).trans hj) (fn (dist n J a) y).toNat y hy (by omega)
    have h3 := h1 (fn (dist n J z) y).toNat y hy (by omega)
    omega
end Go.Proofs.Ytgfjdkjoeaghoaa.P2

/- The first order of the least greatest cost: plain mathematics. -/
namespace Go.Proofs.Ytgfjdkjoeaghoaa.costs
open Go.RowKit P2 words edges ints good adjs fns sets rets covs reach bags bitsI fronts
set_option linter.unusedVariables false

/-- a node that may come next: all others can be put behind it at no more than u -/
noncomputable def fitV (n : Nat) (cost : Nat → Nat → Int) (u : Int) (g x : Nat) : Bool := @decide (cost g x ≤ u ∧ Ch n cost u (g ||| 2 ^ x) (2 ^ n - 1)) (Classical.propDecidable _)
theorem fitV_iff {n : Nat} {cost : Nat → Nat → Int} {u : Int} {g x : Nat} : fitV n cost u g x = true ↔ cost g x ≤ u ∧ Ch n cost u (g ||| 2 ^ x) (2 ^ n - 1) := by exact @decide_eq_true_iff _ (Classical.propDecidable _)
theorem fitB_congr {n : Nat} {f h : Nat → Nat → Bool} {g : Nat} (e : ∀ x, x < n → g.testBit x = false → f g x = h g x) : ∀ z, z < n → fitB f g z = fitB h g z := fun z hz => by
  unfold fitB
  cases hb : g.testBit z with
  | true => rfl
  | false => rw [e z hz hb]
theorem ordN_congr {n : Nat} {f h : Nat → Nat → Bool} (e : ∀ g x, g < 2 ^ n → x < n → g.testBit x = false → f g x = h g x) : ∀ k, ordN n f k = ordN n h k
  | 0 => rfl
  | k + 1 => by
    rw [ordN, ordN, ordN_congr e k]
    cases hk : ordN n h k with
    | none => rfl
    | some s =>
      obtain ⟨g, L⟩ := s
      have hg := (ordN_ok hk).1
      simp only [Option.bind_some]
      rw [show nw (fitB f g) n = nw (fitB h g) n from reach.nw_congr (fitB_congr fun x hx hb => e g x hg hx hb)]
theorem ordL_congr {n : Nat} {f h : Nat → Nat → Bool} (e : ∀ g x, g < 2 ^ n → x < n → g.testBit x = false → f g x = h g x) : ordL n f = ordL n h := by unfold ordL; rw [ordN_congr e]
/-- the rests tell who fits -/
theorem fit_at {n : Nat} {cost : Nat → Nat → Int} {C : Nat → Int} {nil u : Int} (hn : n ≤ 8) (hfull : C (2 ^ n - 1) = nil) (h : ∀ c, c < 2 ^ n - 1 → LcAt n cost C c) (hu : nil ≤ u) {g x : Nat} (hg : g < 2 ^ n) (hx : x < n) :
    fitV n cost u g x = true ↔ cost g x ≤ u ∧ C (g ||| 2 ^ x) ≤ u := by
  rw [fitV_iff, lc_ch hn hfull h hu _ (g ||| 2 ^ x) (or_lt hg hx) (Nat.le_refl _)]
theorem fit_lc {n : Nat} {cost : Nat → Nat → Int} {C : Nat → Int} {nil : Int} (hn : n ≤ 8) (h : LcUp n cost nil 0 C) (h0 : nil ≤ C 0) {g x : Nat} (hg : g < 2 ^ n) (hx : x < n) : fitC cost C g x = fitV n cost (C 0) g x := by
  rw [Bool.eq_iff_iff, fit_at hn h.1 (fun c hc => h.2.1 c (by omega) hc) h0 hg hx]
  unfold fitC
  rw [decide_eq_true_iff]
  omega
/-- the nodes of the order so far are those of the set -/
theorem ordN_mem {n : Nat} {fit : Nat → Nat → Bool} : ∀ {k g : Nat} {L : List Int}, ordN n fit k = some (g, L) → goneB L = bitB g
  | 0, g, L, h => by
    cases h
    funext z
    unfold goneB
    simp [bitB]
  | k + 1, g, L, h => by
    rw [ordN] at h
    cases hk : ordN n fit k with
    | none => rw [hk] at h; cases h
    | some s =>
      obtain ⟨g0, L0⟩ := s
      rw [hk] at h
      simp only [Option.bind_some] at h
      cases hx : (nw (fitB fit g0) n)[0]? with
      | none => rw [hx] at h; cases h
      | some x =>
        rw [hx] at h
        cases h
        obtain ⟨z, hz, h2, rfl⟩ := mem_nw.1 (List.mem_of_getElem? hx)
        have h3 := ordN_mem hk
        funext y
        have h4 : goneB L0 y = bitB g0 y := by rw [h3]
        unfold goneB at h4 ⊢
        unfold bitB at h4 ⊢
        rw [Int.toNat_natCast, Bool.eq_iff_iff, decide_eq_true_iff, Nat.testBit_or, Bool.or_eq_true, ← h4, decide_eq_true_iff, List.mem_append, List.mem_singleton, Nat.testBit_two_pow]
        by_cases e : z = y
        · subst e; simp
        · have : ¬ (y : Int) = (z : Int) := by omega
          simp [e, this]
theorem ord_full {n k g : Nat} {fit : Nat → Nat → Bool} {L : List Int} (h : ordN n fit k = some (g, L)) (hk : k < n) : g ≠ 2 ^ n - 1 := fun e => by
  have h1 := ordN_mem h
  have h2 := (ordN_ok h).2
  have h3 : allN n ⊆ L := fun y hy => by
    obtain ⟨h4, h5⟩ := mem_allN.1 hy
    have h6 : goneB L y.toNat = true := by rw [h1, e]; unfold bitB; rw [Nat.testBit_two_pow_sub_one]; exact decide_eq_true (by omega)
    have h7 := of_decide_eq_true h6
    rwa [Int.toNat_of_nonneg h4] at h7
  have h8 := (each.allN_nodup n).length_le_of_subset h3
  rw [allN_len] at h8
  omega
/-- there is always a node that fits -/
theorem ord_go {n : Nat} {cost : Nat → Nat → Int} {u : Int} (h0 : Ch n cost u 0 (2 ^ n - 1)) : ∀ {k}, k ≤ n → ∃ g L, ordN n (fitV n cost u) k = some (g, L) ∧ Ch n cost u g (2 ^ n - 1)
  | 0, _ => ⟨0, [], rfl, h0⟩
  | k + 1, hk => by
    obtain ⟨g, L, h1, h2⟩ := ord_go (k := k) h0 (by omega)
    have hf := ord_full h1 (by omega)
    rcases h2.head with e | ⟨x, hx, hb, hc, hch⟩
    · exact absurd e hf
    · have hx0 : (nw (fitB (fitV n cost u) g) n)[0]? ≠ none := fun e => by
        have hl : (nw (fitB (fitV n cost u) g) n) = [] := by
          cases hl : nw (fitB (fitV n cost u) g) n with
          | nil => rfl
          | cons y ys => rw [hl] at e; cases e
        have : (x : Int) ∈ nw (fitB (fitV n cost u) g) n := mem_nw.2 ⟨x, hx, by unfold fitB; rw [hb, fitV_iff.2 ⟨hc, hch⟩]; rfl, rfl⟩
        rw [hl] at this; cases this
      cases hx1 : (nw (fitB (fitV n cost u) g) n)[0]? with
      | none => exact absurd hx1 hx0
      | some y =>
        obtain ⟨z, hz, h3, rfl⟩ := mem_nw.1 (List.mem_of_getElem? hx1)
        refine ⟨g ||| 2 ^ z, L ++ [(z : Int)], by rw [ordN, h1]; simp [hx1], ?_⟩
        unfold fitB at h3
        rw [Bool.and_eq_true, fitV_iff] at h3
        exact h3.2.2
/-- the first node that fits -/
theorem ord_next {n : Nat} {cost : Nat → Nat → Int} {u : Int} {k g : Nat} {L : List Int} (h : ordN n (fitV n cost u) k = some (g, L)) (hch : Ch n cost u g (2 ^ n - 1)) (hk : k < n) :
    ∃ z, z < n ∧ g.testBit z = false ∧ fitV n cost u g z = true ∧ (∀ y, y < z → fitB (fitV n cost u) g y = false) ∧ ordN n (fitV n cost u) (k + 1) = some (g ||| 2 ^ z, L ++ [(z : Int)]) ∧ Ch n cost u (g ||| 2 ^ z) (2 ^ n - 1) := by
  have hex : ∃ x, x < n ∧ fitB (fitV n cost u) g x = true := by
    rcases hch.head with e | ⟨x, hx, hb, hc, hc2⟩
    · exact absurd e (ord_full h hk)
    · exact ⟨x, hx, by unfold fitB; rw [hb, fitV_iff.2 ⟨hc, hc2⟩]; rfl⟩
  obtain ⟨z, ⟨hz, hf⟩, hmin⟩ : ∃ z, (z < n ∧ fitB (fitV n cost u) g z = true) ∧ ∀ y, y < z → ¬ (y < n ∧ fitB (fitV n cost u) g y = true) := by
    obtain ⟨x, hx⟩ := hex
    induction x using Nat.strongRecOn with
    | _ x ih =>
      by_cases hy : ∃ y, y < x ∧ y < n ∧ fitB (fitV n cost u) g y = true
      · obtain ⟨y, h1, h2⟩ := hy
        exact ih y h1 h2
      · exact ⟨x, hx, fun y hy1 hy2 => hy ⟨y, hy1, hy2⟩⟩
  have hm : ∀ y, y < z → fitB (fitV n cost u) g y = false := fun y hy => by
    cases hb : fitB (fitV n cost u) g y with
    | false => rfl
    | true => exact absurd ⟨by omega, hb⟩ (hmin y hy)
  have h1 := nw_head hz hf hm
  have h2 := hf
  unfold fitB at h2
  rw [Bool.and_eq_true] at h2
  exact ⟨z, hz, by simpa using h2.1, h2.2, hm, by rw [ordN, h]; simp [h1], (fitV_iff.1 h2.2).2⟩
end Go.Proofs.Ytgfjdkjoeaghoaa.costs

/- Perfect eliminations: plain mathematics. -/
namespace Go.Proofs.Ytgfjdkjoeaghoaa.costs
open Go.RowKit P2 words edges ints good adjs fns sets rets covs reach bags bitsI fronts
set_option linter.unusedVariables false

/-- any two nodes of a set are neighbors -/
noncomputable def cliqueB (n : Nat) (l : List Ed) (S : Nat → Bool) : Bool := okG (∀ a b : Nat, a < n → b < n → S a = true → S b = true → a ≠ b → adj l (a : Int) (b : Int) = true)
theorem cliqueB_iff {n : Nat} {l : List Ed} {S : Nat → Bool} : cliqueB n l S = true ↔ ∀ a b : Nat, a < n → b < n → S a = true → S b = true → a ≠ b → adj l (a : Int) (b : Int) = true := okG_iff
/-- nothing is filled in behind the nodes that are gone -/
def NoFill (n : Nat) (l : List Ed) (G : Nat → Bool) : Prop := ∀ x y, x < n → y < n → G x = false → laterB n l G x y = true → adj l (x : Int) (y : Int) = true
theorem rch_two {n : Nat} {l : List Ed} {G : Nat → Bool} {z x : Nat} (hi : NoFill n l G) (hz : z < n) (hgz : G z = false) (hx : x < n) (hgx : G x = false) (hne : z ≠ x) :
    ∀ {w}, Rch n (J2 l) (pput (pput G z) x) x w → Rch n (J2 l) (pput G x) x w ∨ (adj l (x : Int) (z : Int) = true ∧ Rch n (J2 l) (pput G z) z w) := by
  intro w h
  induction h with
  | base => exact .inl .base
  | @step a b hr hj hq hb ih =>
    have hq2 : G b = true ∨ b = z ∨ b = x := by
      unfold pput at hq
      simp only [Bool.or_eq_true, decide_eq_true_iff] at hq
      rcases hq with (h1 | h1) | h1
      · exact .inl h1
      · exact .inr (.inl h1)
      · exact .inr (.inr h1)
    rcases hq2 with h1 | rfl | rfl
    · rcases ih with h2 | ⟨h2, h3⟩
      · exact .inl (.step h2 hj (by unfold pput; rw [h1]; rfl) hb)
      · exact .inr ⟨h2, .step h3 hj (by unfold pput; rw [h1]; rfl) hb⟩
    · rcases ih with h2 | ⟨h2, h3⟩
      · have ha := Rch.lt h2 hx
        exact .inr ⟨hi x b hx hb hgx (laterB_iff.2 ⟨hgz, hne, a, ha, h2, hj⟩), .base⟩
      · exact .inr ⟨h2, .base⟩
    · exact .inl .base
theorem NoFill.step {n : Nat} {l : List Ed} {G : Nat → Bool} {z : Nat} (hi : NoFill n l G) (hz : z < n) (hgz : G z = false) (hc : ∀ a b : Nat, a < n → b < n → G a = false → G b = false → adj l (z : Int) (a : Int) = true → adj l (z : Int) (b : Int) = true → a ≠ b → adj l (a : Int) (b : Int) = true) : NoFill n l (pput G z) := by
  intro x y hx hy hgx hl
  have hx2 : G x = false ∧ x ≠ z := by
    unfold pput at hgx
    simpa using hgx
  obtain ⟨hgy, hyx, w, hw, hr, ha⟩ := laterB_iff.1 hl
  have hy2 : G y = false ∧ y ≠ z := by
    unfold pput at hgy
    simpa using hgy
  rcases rch_two hi hz hgz hx hx2.1 (fun e => hx2.2 e.symm) hr with h1 | ⟨h1, h2⟩
  · exact hi x y hx hy hx2.1 (laterB_iff.2 ⟨hy2.1, hyx, w, hw, h1, ha⟩)
  · have h3 := hi z y hz hy hgz (laterB_iff.2 ⟨hy2.1, hy2.2, w, hw, h2, ha⟩)
    exact hc x y hx hy hx2.1 hy2.1 (by rw [adj_comm]; exact h1) h3 (fun e => hyx e.symm)
theorem NoFill.none (n : Nat) (l : List Ed) : NoFill n l (fun _ => false) := by
  intro x y hx hy _ hl
  obtain ⟨_, _, w, hw, hr, ha⟩ := laterB_iff.1 hl
  have : w = x := by
    have h1 := hr.inq (by unfold pput; simp)
    unfold pput at h1
    simpa using h1
  rw [← this]; exact ha
theorem NoFill.later {n : Nat} {l : List Ed} {G : Nat → Bool} (hg : P2.Good (n : Int) l) (hi : NoFill n l G) {x y : Nat} (hx : x < n) (hy : y < n) (hgx : G x = false) : laterB n l G x y = (!G y && adj l (x : Int) (y : Int)) := by
  rw [Bool.eq_iff_iff, Bool.and_eq_true, Bool.not_eq_true']
  constructor
  · intro h
    exact ⟨(laterB_iff.1 h).1, hi x y hx hy hgx h⟩
  · rintro ⟨h1, h2⟩
    refine laterB_iff.2 ⟨h1, ?_, x, hx, .base, h2⟩
    rintro rfl
    rw [adj_self hg] at h2; cases h2
/-- does a node bring up no edge -/
noncomputable def fitP (n : Nat) (l : List Ed) (g x : Nat) : Bool := cliqueB n l (bagB n l (bitB g) x)
/-- the same, by its neighbors -/
noncomputable def fitQ (n : Nat) (l : List Ed) (g x : Nat) : Bool := cliqueB n l (fun y => !bitB g y && adj l (x : Int) (y : Int))
theorem fitP_eq {n : Nat} {l : List Ed} {g x : Nat} (hg : P2.Good (n : Int) l) (hi : NoFill n l (bitB g)) (hx : x < n) (hb : g.testBit x = false) : fitP n l g x = fitQ n l g x := by
  have hbx : bitB g x = false := hb
  unfold fitP fitQ
  rw [Bool.eq_iff_iff, cliqueB_iff, cliqueB_iff]
  have hla : ∀ y, y < n → laterB n l (bitB g) x y = (!bitB g y && adj l (x : Int) (y : Int)) := fun y hy => NoFill.later hg hi hx hy hbx
  constructor
  · intro h a b ha hb2 h1 h2 hne
    refine h a b ha hb2 ?_ ?_ hne
    · unfold bagB pput; rw [hla a ha, h1]; rfl
    · unfold bagB pput; rw [hla b hb2, h2]; rfl
  · intro h a b ha hb2 h1 h2 hne
    unfold bagB pput at h1 h2
    rw [hla a ha, Bool.or_eq_true, decide_eq_true_iff] at h1
    rw [hla b hb2, Bool.or_eq_true, decide_eq_true_iff] at h2
    rcases h1 with h1 | rfl
    · rcases h2 with h2 | rfl
      · exact h a b ha hb2 h1 h2 hne
      · rw [Bool.and_eq_true] at h1
        rw [adj_comm]; exact h1.2
    · rcases h2 with h2 | rfl
      · rw [Bool.and_eq_true] at h2
        exact h2.2
      · exact absurd rfl hne
theorem bit_or (g z : Nat) : bitB (g ||| 2 ^ z) = pput (bitB g) z := by
  funext y
  unfold bitB pput
  rw [Nat.testBit_or, Nat.testBit_two_pow]
  congr 1
  exact decide_eq_decide.2 ⟨fun h => h.symm, fun h => h.symm⟩
theorem ord_nofill {n : Nat} {l : List Ed} (hg : P2.Good (n : Int) l) : ∀ {k g : Nat} {L : List Int}, ordN n (fitP n l) k = some (g, L) → NoFill n l (bitB g)
  | 0, g, L, h => by
    cases h
    have : bitB 0 = fun _ => false := by funext z; simp [bitB]
    rw [this]; exact NoFill.none n l
  | k + 1, g, L, h => by
    rw [ordN] at h
    cases hk : ordN n (fitP n l) k with
    | none => rw [hk] at h; cases h
    | some s =>
      obtain ⟨g0, L0⟩ := s
      rw [hk] at h
      simp only [Option.bind_some] at h
      cases hx : (nw (fitB (fitP n l) g0) n)[0]? with
      | none => rw [hx] at h; cases h
      | some x =>
        rw [hx] at h
        cases h
        obtain ⟨z, hz, h2, rfl⟩ := mem_nw.1 (List.mem_of_getElem? hx)
        have hi := ord_nofill hg hk
        unfold fitB at h2
        rw [Bool.and_eq_true] at h2
        have hb : g0.testBit z = false := by simpa using h2.1
        have hq := h2.2
        rw [fitP_eq hg hi hz hb] at hq
        rw [Int.toNat_natCast, bit_or]
        refine hi.step hz hb fun a b ha hb2 h3 h4 h5 h6 hne => ?_
        exact cliqueB_iff.1 hq a b ha hb2 (by rw [h3, h5]; rfl) (by rw [h4, h6]; rfl) hne
/-- the perfect elimination, where there is one -/
def PerfOk (s : Int) (l : List Ed) : Prop := P2.Good s l ∧ (ordN s.toNat (fitP s.toNat l) s.toNat).isSome = true
noncomputable def peL (s : Int) (l : List Ed) : List Int := ordL s.toNat (fitP s.toNat l)
theorem fitQ_none {n k g : Nat} {l : List Ed} {L : List Int} (hg : P2.Good (n : Int) l) (h : ordN n (fitP n l) k = some (g, L)) : nw (fitB (fitP n l) g) n = nw (fitB (fitQ n l) g) n :=
  reach.nw_congr (fitB_congr fun x hx hb => fitP_eq hg (ord_nofill hg h) hx hb)
theorem ordL_le' {n : Nat} {fit : Nat → Nat → Bool} : (ordL n fit).length ≤ n := by
  unfold ordL
  cases h : ordN n fit n with
  | none => simp
  | some s =>
    obtain ⟨g, L⟩ := s
    have := (ordN_ok h).2
    simp; omega
theorem pe_len (s : Int) (l : List Ed) : (inG (PerfOk s l) (peL s l)).length ≤ 1048576 := inG_len fun hp => by
  have := ordL_le' (n := s.toNat) (fit := fitP s.toNat l)
  unfold peL
  have := hp.1.1; have := hp.1.2.1; omega
end Go.Proofs.Ytgfjdkjoeaghoaa.costs

/- The contracts of the program's isClique and PerfectElimination. -/
namespace Go.Proofs.Ytgfjdkjoeaghoaa.costs
open Go.RowKit P2 words edges ints good adjs fns sets rets covs reach bags bitsI fronts func
set_option linter.unusedVariables false

/-- all of a set are neighbors of a node, or it -/
def allN (n : Nat) (l : List Ed) (S : Nat → Bool) (x : Nat) : Bool := decide (numOf S n &&& cloB l x = numOf S n)
theorem allN_iff {n : Nat} {l : List Ed} (hg : P2.Good (n : Int) l) {S : Nat → Bool} {x : Nat} : allN n l S x = true ↔ ∀ z, z < n → S z = true → z ≠ x → adj l (x : Int) (z : Int) = true := by
  unfold allN
  rw [decide_eq_true_iff, sub_iff]
  constructor
  · intro h z hz hs hne
    have h1 := h z (by rw [numOf_bit]; simp [hz, hs])
    rw [cloB_bit hg, Bool.or_eq_true] at h1
    rcases h1 with h1 | h1
    · exact absurd (beq_iff_eq.1 h1).symm hne
    · exact h1
  · intro h z hz
    rw [numOf_bit, Bool.and_eq_true, decide_eq_true_iff] at hz
    rw [cloB_bit hg, Bool.or_eq_true]
    by_cases e : x = z
    · exact .inl (by simpa using e)
    · exact .inr (h z hz.1 hz.2 (fun h => e h.symm))
theorem clique_any {n : Nat} {l : List Ed} (hg : P2.Good (n : Int) l) {S : Nat → Bool} : (!(nw S n).any fun x => !allN n l S x.toNat) = cliqueB n l S := by
  rw [Bool.eq_iff_iff, cliqueB_iff, Bool.not_eq_true', List.any_eq_false]
  constructor
  · intro h a b ha hb hsa hsb hne
    have h1 := h (a : Int) (mem_nw.2 ⟨a, ha, hsa, rfl⟩)
    rw [Int.toNat_natCast] at h1
    exact (allN_iff hg).1 (by simpa using h1) b hb hsb (fun e => hne e.symm)
  · intro h x hx
    obtain ⟨j, hj, hs, rfl⟩ := mem_nw.1 hx
    rw [Int.toNat_natCast, (allN_iff hg).2 fun z hz hsz hne => h j z hj hz hs hsz (fun e => hne e.symm)]
    simp
set_option maxHeartbeats 1000000 in
set_option maxRecDepth 100000 in
theorem cliqueClo_any (n x b1 b2 : Nat) (S : Nat → Bool) (v : Value) (l : List Ed) (w : World) (h1 : w.cell? ⟨b1, 0, none⟩ = some (.int .u64 (numOf S n : Int))) (h2 : w.cell? ⟨b2, 0, none⟩ = some v) (h : Nums w v (clos l n)) (hg : P2.Good (n : Int) l) (hn : n ≤ 8) (hx : x < n) :
    Calls Try.prog 87 #[.int .i64 (x : Int), .pointer (some ⟨b1, 0, none⟩), .pointer (some ⟨b2, 0, none⟩)] w fun e w' => e = .returned (.bool (!allN n l S x)) ∧ Below w.heap.size w w' := by
  obtain ⟨A, c, rfl, hcl⟩ := h.form
  obtain ⟨g6, o6, rfl, c6⟩ := hcl x _ (clos_at hx)
  have hlen := clos_len l n
  rw [hlen] at h2
  have hx' : (x : Int) < (n : Int) := by omega
  have HT : Hid ((bits .andNot .u64 ((numOf S n : Nat) : Int) ((cloB l x : Nat) : Int) == 0) = allN n l S x) := bits_andNot0 _ _ (by have := numOf_lt S hn; omega) (by have := cloB_lt' hg x (by omega); omega)
  clear hcl h hg hlen
  generalize numOf S n = a at *
  generalize cloB l x = b at *
  generalize allN n l S x = r at *
  go_enter Try.func87, Try.ntmps87
  go_wp2_with fail
  go_quiet (fail)
  go_wp2_with fail
  go_ret
  exact ⟨by rw [← HT.out]; rfl, below_drewN (Below.refl _ _) _⟩
set_option maxHeartbeats 1000000 in
set_option maxRecDepth 100000 in
theorem isClique_any (n : Nat) (S : Nat → Bool) (v : Value) (l : List Ed) (w : World) (h : Nums w v (clos l n)) (hg : P2.Good (n : Int) l) (hn : n ≤ 8) :
    Calls Try.prog 56 #[v, .int .u64 (numOf S n : Int)] w fun e w' => e = .returned (.bool (cliqueB n l S)) ∧ Below w.heap.size w w' := by
  obtain ⟨A, c, rfl, -⟩ := h.form
  have hmf : ∀ (fn : Fn) (first cap : Array Value) (w : World), (Instr.makeFunc fn first cap).run Try.prog w = .ok (.func fn first cap) w := fun _ _ _ _ => rfl
  have b1 : Below w.heap.size w (w.alloc (.cells #[.slice A (clos l n).length c] 56)) := (Below.refl _ _).alloc (Nat.le_refl _) _
  have b2 : Below w.heap.size w ((w.alloc (.cells #[.slice A (clos l n).length c] 56)).alloc (.cells #[.int .u64 (numOf S n : Int)] 61)) := b1.alloc (by simp) _
  have HB2 := Lib.hid b2
  have g1 := (Blk.new w 56 #[.slice A (clos l n).length c]).alloc (.cells #[.int .u64 (numOf S n : Int)] 61)
  have g2 := Blk.new (w.alloc (.cells #[.slice A (clos l n).length c] 56)) 61 #[.int .u64 (numOf S n : Int)]
  rw [World.size_alloc] at g2
  have HG1 := Lib.hid g1
  have HG2 := Lib.hid g2
  have p2 : ((w.alloc (.cells #[.slice A (clos l n).length c] 56)).alloc (.cells #[.int .u64 (numOf S n : Int)] 61)).cell? ⟨w.heap.size + 1, 0, none⟩ = some (.int .u64 (numOf S n : Int)) := g2.cell 0
  have HND := Lib.hid (nodes_any (numOf S n) ((w.alloc (.cells #[.slice A (clos l n).length c] 56)).alloc (.cells #[.int .u64 (numOf S n : Int)] 61)) (by have := numOf_lt S hn; omega))
  rw [nodes_num hn] at HND
  have HV := Lib.hid (clique_any (S := S) hg)
  have HGD := Lib.hid hg
  have HN := Lib.hid h
  have hl8 : (nw S n).length ≤ 1048576 := by have := nw_len S n; omega
  clear h hg b1 b2 g1 g2
  go_enter Try.func56, Try.ntmps56
  go_wp2_with fail
  refine HND.out.mono ?_
  rintro e w3 ⟨A3, c3, rfl, o3, b3⟩
  have HB3 := Lib.hid (btrans HB2.out b3)
  have HCF := Lib.hid (containsFuncI_any (.slice A3 (nw S n).length c3) (nw S n) 87 #[.pointer (some ⟨w.heap.size + 1, 0, none⟩), .pointer (some ⟨w.heap.size, 0, none⟩)] (fun x => !allN n l S x.toNat) w3 (show Ints _ _ _ from Reads.of_own o3) hl8
    { enter := fun _ _ => by kernel_rfl
      call := fun W hW x hx => by
        obtain ⟨j, hj, hs, rfl⟩ := mem_nw.1 hx
        rw [Int.toNat_natCast]
        exact cliqueClo_any n j (w.heap.size + 1) w.heap.size S _ l W (((HG2.out.below b3 HG2.out.lt).below hW (HG2.out.below b3 HG2.out.lt).lt).cell 0) (((HG1.out.below b3 HG1.out.lt).below hW (HG1.out.below b3 HG1.out.lt).lt).cell 0) (HN.out.below (btrans HB3.out hW)) HGD.out hn hj })
  clear o3 b3 p2
  go_wp2_with fail
  refine HCF.out.mono ?_
  rintro e w4 ⟨rfl, b4⟩
  have HB4 := Lib.hid (btrans HB3.out b4)
  go_wp2_with fail
  go_ret
  rw [HV.out]
  exact ⟨rfl, HB4.out⟩
end Go.Proofs.Ytgfjdkjoeaghoaa.costs

/- CliqueOf: the contract of the program's function; num_bits. -/
namespace Go.Proofs.Ytgfjdkjoeaghoaa.ups
open Go.RowKit P2 words edges ints good adjs fns sets rets covs bags bitsI func costs
set_option linter.unusedVariables false

theorem numb {n g : Nat} (hg : g < 2 ^ n) : numOf (bitB g) n = g := by
  apply Nat.eq_of_testBit_eq
  intro i
  rw [numOf_bit]
  unfold bitB
  by_cases hi : i < n
  · simp [hi]
  · rw [decide_eq_false hi, Bool.false_and, Nat.testBit_lt_two_pow (Nat.lt_of_lt_of_le hg (Nat.pow_le_pow_right (by decide) (by omega)))]
noncomputable def clqC (n : Nat) (l : List Ed) (c : Nat) : Bool := cliqueB n l (bitB c)
theorem clq_zero (n : Nat) (l : List Ed) : clqC n l 0 = true := by
  unfold clqC
  rw [cliqueB_iff]
  intro a b ha hb hpa
  unfold bitB at hpa
  simp at hpa
noncomputable def clqN (n : Nat) (l : List Ed) : Nat := bestC (clqC n l) rkMax n
set_option maxHeartbeats 1000000 in
set_option maxRecDepth 100000 in
theorem clqClo_any (n d b1 : Nat) (v : Value) (l : List Ed) (w : World) (h1 : w.cell? ⟨b1, 0, none⟩ = some v) (h : Nums w v (clos l n)) (hg : P2.Good (n : Int) l) (hn : n ≤ 8) (hd : d < 2 ^ n) :
    Calls Try.prog 55 #[.int .u64 (d : Int), .pointer (some ⟨b1, 0, none⟩)] w fun e w' => e = .returned (.bool (clqC n l d)) ∧ Below w.heap.size w w' := by
  obtain ⟨A, c, rfl, -⟩ := h.form
  have h_ := isClique_any n (bitB d) _ l w h hg hn
  rw [numb hd] at h_
  have HF := Lib.hid h_
  clear h hg h_
  go_enter Try.func55, Try.ntmps55
  go_wp2_with fail
  refine HF.out.mono ?_
  rintro e w1 ⟨rfl, b1⟩
  go_wp2_with fail
  go_ret
  exact ⟨rfl, b1⟩
set_option maxHeartbeats 2000000 in
set_option maxRecDepth 100000 in
theorem implClq_any (s : Int) (v : Value) (l : List Ed) (w : World) (h : Edges w v l) (hl : l.length ≤ 1048576) :
    Calls Try.prog 20 #[.agg #[.int .i64 s, v]] w (RetI w (P2.Good s l) (ndN (clqN s.toNat l))) := by
  obtain ⟨A, c, rfl, -⟩ := h.form
  have hmf : ∀ (fn : Fn) (first cap : Array Value) (w : World), (Instr.makeFunc fn first cap).run Try.prog w = .ok (.func fn first cap) w := fun _ _ _ _ => rfl
  have H := Lib.hid h
  have b0 : Below w.heap.size w (w.alloc (.cells #[.int .i64 s, .slice A l.length c] 30)) := (Below.refl _ _).alloc (Nat.le_refl _) _
  have g0 := Blk.new w 30 #[.int .i64 s, .slice A l.length c]
  obtain ⟨p0, p1, -, -⟩ := g0.two
  have HN := Lib.hid (implIsGraph_any s _ l _ (h.below b0) hl)
  have HB0 := Lib.hid b0
  have HG0 := Lib.hid g0
  clear h b0 g0
  by_cases hgd : P2.Good s l
  · rw [goodB_yes hgd] at HN
    have HOK := Lib.hid hgd
    have h0 := hgd.1
    have h8 := hgd.2.1
    obtain ⟨n, rfl⟩ : ∃ n : Nat, s = (n : Int) := ⟨s.toNat, by omega⟩
    have hn : n ≤ 8 := by omega
    rw [Int.toNat_natCast]
    clear hgd
    go_enter Try.func20, Try.ntmps20
    go_wp2_with fail
    refine HN.out.mono ?_
    rintro e w1 ⟨rfl, b1⟩
    have HE1 := Lib.hid (btrans HB0.out b1)
    have HG1 := Lib.hid (HG0.out.below b1 HG0.out.lt)
    clear p0 p1 b1 HN HB0 HG0
    obtain ⟨p0, p1, -, -⟩ := HG1.out.two
    have HCB := Lib.hid (closedBits_any n (.slice A l.length c) l w1 (H.out.below HE1.out) hl HOK.out hn)
    go_wp2_with fail
    refine HCB.out.mono ?_
    rintro e w2 ⟨A3, c3, rfl, i3, b3⟩
    have d3 : Below w1.heap.size w1 (w2.alloc (.cells #[.slice A3 (clos l n).length c3] 56)) := b3.alloc b3.size _
    have HE3 := Lib.hid (btrans HE1.out d3)
    have HG3 := Lib.hid (HG1.out.below d3 HG1.out.lt)
    have HK3 := Lib.hid (Blk.new w2 56 #[.slice A3 (clos l n).length c3])
    have HI3 : Hid (Nums (w2.alloc (.cells #[.slice A3 (clos l n).length c3] 56)) (.slice A3 (clos l n).length c3) (clos l n)) := i3.below ((Below.refl _ _).alloc (Nat.le_refl _) _)
    obtain ⟨k0, k1, -, -⟩ := HG3.out.two
    have HFS := Lib.hid (largestSet_any n 55 #[.pointer (some ⟨w2.heap.size, 0, none⟩)] (clqC n l) (w2.alloc (.cells #[.slice A3 (clos l n).length c3] 56)) hn
      { enter := fun _ _ => by kernel_rfl
        call := fun W hW x hx => clqClo_any n x w2.heap.size _ l W ((HK3.out.below hW HK3.out.lt).cell 0) (HI3.out.below hW) HOK.out hn ((mem_all hn).1 hx) } (clq_zero n l))
    have HV : Hid (clqN n l = bestC (clqC n l) rkMax n) := rfl
    clear p0 p1 b3 i3 d3 HCB
    go_wp2_with fail
    refine HFS.out.mono ?_
    rintro e w6 ⟨hyn, rfl, b6⟩
    have HE6 := Lib.hid (btrans HE3.out b6)
    have hy64 : bestC (clqC n l) rkMax n < 18446744073709551616 := Nat.lt_of_lt_of_le hyn (Nat.le_trans (pow_le hn) (by decide))
    clear b6 k0 k1 hyn
    generalize bestC (clqC n l) rkMax n = y at *
    have HND := Lib.hid (nodes_any y w6 hy64)
    go_wp2_with fail
    refine HND.out.mono ?_
    rintro e w7 ⟨A8, c8, rfl, o8, b8⟩
    go_wp2_with fail
    go_ret2
    rw [HV.out]
    exact RetI.yes HOK.out (own_base o8 HE6.out.size) (btrans HE6.out b8)
  · rw [goodB_no hgd] at HN
    have HNO := Lib.hid hgd
    clear hgd
    go_enter Try.func20, Try.ntmps20
    go_wp2_with fail
    refine HN.out.mono ?_
    rintro e w1 ⟨rfl, b1⟩
    have HE1 := Lib.hid (btrans HB0.out b1)
    clear p0 p1 b1
    go_wp2_with fail
    go_ret2
    exact RetI.nil HNO.out HE1.out
end Go.Proofs.Ytgfjdkjoeaghoaa.ups

/- The contract of the model's l5Less over lists of the same length. -/
namespace Go.Proofs.Ytgfjdkjoeaghoaa.ups
open Go.RowKit P2 words edges ints good adjs fns sets rets covs bitsI
set_option linter.unusedVariables false

theorem drop5 {L : List Int} {i : Nat} {x : Int} (h : L[i]? = some x) : L.drop i = x :: L.drop (i + 1) := by
  obtain ⟨h1, h2⟩ := List.getElem?_eq_some_iff.1 h
  rw [List.drop_eq_getElem_cons h1, h2]
theorem lex5_same {a b : List Int} {i : Nat} {x : Int} (ha : a[i]? = some x) (hb : b[i]? = some x) : lexI (a.drop i) (b.drop i) = lexI (a.drop (i + 1)) (b.drop (i + 1)) := by
  rw [drop5 ha, drop5 hb]; show (if x = x then _ else _) = _; rw [if_pos rfl]
theorem lex5_diff {a b : List Int} {i : Nat} {x y : Int} (ha : a[i]? = some x) (hb : b[i]? = some y) (h : x ≠ y) : lexI (a.drop i) (b.drop i) = decide (x < y) := by
  rw [drop5 ha, drop5 hb]; show (if x = y then _ else _) = _; rw [if_neg h]
theorem lex5_end {a b : List Int} : lexI (a.drop a.length) b = false := by
  rw [List.drop_length]; cases b <;> rfl
set_option maxHeartbeats 2000000 in
set_option maxRecDepth 100000 in
theorem l5LessI_any (u v : Value) (a b : List Int) (w : World) (hu : Ints w u a) (hv : Ints w v b) (hl : a.length = b.length) (ha : a.length ≤ 1048576) :
    Calls Try.prog 51 #[u, v] w fun e w' => e = .returned (.bool (lexI a b)) ∧ Below w.heap.size w w' := by
  obtain ⟨A1, c1, rfl, hc1⟩ := hu.form
  obtain ⟨A2, c2, rfl, hc2⟩ := hv.form
  have HC1 := Lib.hid hc1
  have HC2 := Lib.hid hc2
  have HL := Lib.hid hl
  clear hu hv hc1 hc2 hl
  go_enter Try.func51, Try.ntmps51
  go_wp2_with fail
  go_loopg [5] a.length (fun g i wr => ∃ k : Nat, k + g = a.length ∧ i = .int .i64 (k : Int) ∧ Hid (lexI (a.drop k) (b.drop k) = lexI a b) ∧ Below w.heap.size w wr)
  case atStart => exact ⟨0, by omega, rfl, by show _ = _; rw [List.drop_zero, List.drop_zero], Below.refl _ _⟩
  case round =>
    obtain ⟨k, hkg, rfl, hr, hB⟩ := hrel
    cases gk with
    | zero =>
      obtain rfl : k = a.length := by omega
      have HV : Hid (lexI a b = false) := by show _ = _; rw [← hr.out, lex5_end]
      have hge : ¬ (a.length : Int) < (b.length : Int) := by rw [HL.out]; omega
      go_wp2_with fail
      go_ret
      rw [HV.out]
      refine ⟨?_, hB⟩
      have := HL.out
      first | rfl | simp [this]
    | succ gg =>
      have hlt : k < a.length := by omega
      have hlt' : (k : Int) < (a.length : Int) := by omega
      have hlb' : (k : Int) < (b.length : Int) := by rw [← HL.out]; omega
      obtain ⟨x, hx⟩ : ∃ x, a[k]? = some x := ⟨_, List.getElem?_eq_getElem hlt⟩
      obtain ⟨y, hy⟩ : ∃ y, b[k]? = some y := ⟨_, List.getElem?_eq_getElem (by have := HL.out; omega)⟩
      obtain ⟨g1, o1, rfl, q1⟩ := HC1.out k _ hx
      obtain ⟨g2, o2, rfl, q2⟩ := HC2.out k _ hy
      have r1 := nearv.cell_keep q1 hB
      have r2 := nearv.cell_keep q2 hB
      have HB := Lib.hid (fun nq => below_drewN hB nq)
      have HB2 := Lib.hid (fun n1 n2 => below_drewN (below_drewN hB n1) n2)
      by_cases hxy : x = y
      · subst hxy
        have HK : Hid (lexI (a.drop (k + 1)) (b.drop (k + 1)) = lexI a b) := (lex5_same hx hy).symm.trans hr.out
        have d0 : (x != x) = false := by simp
        clear hx hy q1 q2 hB
        go_wp2_with fail
        go_quiet (fail)
        go_wp2_with fail
        go_roundg gg
        case measure => omega
        case rel => exact ⟨k + 1, by omega, by go_num, HK, HB.out _⟩
      · have HV : Hid (decide (x < y) = lexI a b) := (lex5_diff hx hy hxy).symm.trans hr.out
        have d0 : (x != y) = true := by simpa using hxy
        clear hx hy q1 q2 hB
        go_wp2_with fail
        go_quiet (fail)
        go_wp2_with fail
        go_quiet (fail)
        go_wp2_with fail
        go_ret
        exact ⟨ret_bool HV.out, HB2.out _ _⟩
end Go.Proofs.Ytgfjdkjoeaghoaa.ups

/- The neighbors of a node that are not gone: the contract of the model's l5Among. -/
namespace Go.Proofs.Ytgfjdkjoeaghoaa.costs
open Go.RowKit P2 words edges ints good adjs fns sets rets covs reach bags balls
set_option linter.unusedVariables false

theorem nwf (p : Nat → Bool) (q : Int → Bool) (n : Nat) : (nw p n).filter q = nw (fun z => p z && q (z : Int)) n := by
  unfold nw
  rw [List.filter_map, List.filter_filter]
  congr 1
  exact List.filter_congr fun z _ => by simp [Bool.and_comm]
/-- the neighbors of a node that are not gone -/
def amgL (n : Nat) (l : List Ed) (gl : List Int) (x : Int) : List Int := nw (fun y => !goneB gl y && adj l x (y : Int)) n
def amgK (n : Nat) (l : List Ed) (gl : List Int) (x : Int) (k : Nat) : List Int := ((nw (fun y => adj l x (y : Int)) n).take k).filter fun y => !decide (y ∈ gl)
theorem amgK_len (n : Nat) (l : List Ed) (gl : List Int) (x : Int) (k : Nat) : (amgK n l gl x k).length ≤ n := by
  unfold amgK
  have h1 := List.length_filter_le (fun y => !decide (y ∈ gl)) ((nw (fun y => adj l x (y : Int)) n).take k)
  have h2 : ((nw (fun y => adj l x (y : Int)) n).take k).length ≤ (nw (fun y => adj l x (y : Int)) n).length := by rw [List.length_take]; omega
  have h3 := nw_len (fun y => adj l x (y : Int)) n
  omega
theorem amgK_yes {n : Nat} {l : List Ed} {gl : List Int} {x y : Int} {k : Nat} (hy : (nw (fun y => adj l x (y : Int)) n)[k]? = some y) (hg : decide (y ∈ gl) = false) : amgK n l gl x (k + 1) = amgK n l gl x k ++ [y] := by
  unfold amgK
  rw [List.take_add_one, hy, List.filter_append]
  simp only [Option.toList, List.filter_cons, List.filter_nil, hg]
  rfl
theorem amgK_no {n : Nat} {l : List Ed} {gl : List Int} {x y : Int} {k : Nat} (hy : (nw (fun y => adj l x (y : Int)) n)[k]? = some y) (hg : decide (y ∈ gl) = true) : amgK n l gl x (k + 1) = amgK n l gl x k := by
  unfold amgK
  rw [List.take_add_one, hy, List.filter_append]
  simp only [Option.toList, List.filter_cons, List.filter_nil, hg]
  simp
theorem amgK_all {n : Nat} {l : List Ed} {gl : List Int} {x : Int} : amgK n l gl x (nw (fun y => adj l x (y : Int)) n).length = amgL n l gl x := by
  unfold amgK amgL
  rw [List.take_length, nwf]
  exact reach.nw_congr fun z _ => Bool.and_comm _ _
end Go.Proofs.Ytgfjdkjoeaghoaa.costs

/- Cliques: the contract of the model's l5Clique. -/
namespace Go.Proofs.Ytgfjdkjoeaghoaa.costs
open Go.RowKit P2 words edges ints good adjs fns sets rets covs reach bags balls bitsI fronts
set_option linter.unusedVariables false

/-- any two numbers of a list are neighbors -/
def ClqL (l : List Ed) (xs : List Int) : Prop := ∀ (a b : Nat) (x y : Int), a < b → xs[a]? = some x → xs[b]? = some y → adj l x y = true
def ClqA (l : List Ed) (xs : List Int) (i : Nat) : Prop := ∀ (a b : Nat) (x y : Int), a < i → a < b → xs[a]? = some x → xs[b]? = some y → adj l x y = true
def ClqB (l : List Ed) (xs : List Int) (i k : Nat) : Prop := ClqA l xs i ∧ ∀ (b : Nat) (x y : Int), i < b → b < k → xs[i]? = some x → xs[b]? = some y → adj l x y = true
theorem ClqA.inner {l : List Ed} {xs : List Int} {i : Nat} (h : ClqA l xs i) : ClqB l xs i (i + 1) := ⟨h, fun b x y h1 h2 => by omega⟩
theorem ClqB.next {l : List Ed} {xs : List Int} {i k : Nat} {x y : Int} (h : ClqB l xs i k) (hx : xs[i]? = some x) (hy : xs[k]? = some y) (ha : adj l x y = true) : ClqB l xs i (k + 1) :=
  ⟨h.1, fun b x' y' h1 h2 h3 h4 => by
    by_cases e : b = k
    · subst e; rw [hx] at h3; rw [hy] at h4; cases h3; cases h4; exact ha
    · exact h.2 b x' y' h1 (by omega) h3 h4⟩
theorem ClqB.all {l : List Ed} {xs : List Int} {i k : Nat} (h : ClqB l xs i k) (hk : xs.length ≤ k) : ClqA l xs (i + 1) := fun a b x y h1 h2 h3 h4 => by
  have hb := (List.getElem?_eq_some_iff.1 h4).1
  by_cases e : a = i
  · subst e; exact h.2 b x y h2 (by omega) h3 h4
  · exact h.1 a b x y (by omega) h2 h3 h4
theorem ClqA.done {l : List Ed} {xs : List Int} {i : Nat} (h : ClqA l xs i) (hi : xs.length ≤ i) : ClqL l xs := fun a b x y h1 h2 h3 => by
  have ha := (List.getElem?_eq_some_iff.1 h2).1
  exact h a b x y (by omega) h1 h2 h3
theorem clq_nw {n : Nat} {l : List Ed} {P : Nat → Bool} : okG (ClqL l (nw P n)) = cliqueB n l P := by
  rw [Bool.eq_iff_iff, okG_iff, cliqueB_iff]
  constructor
  · intro h a b ha hb hpa hpb hne
    obtain ⟨i, hi⟩ := List.getElem?_of_mem (mem_nw.2 ⟨a, ha, hpa, rfl⟩)
    obtain ⟨j, hj⟩ := List.getElem?_of_mem (mem_nw.2 ⟨b, hb, hpb, rfl⟩)
    rcases Nat.lt_trichotomy i j with hh | hh | hh
    · exact h i j _ _ hh hi hj
    · subst hh
      rw [hi] at hj
      cases hj
      exact absurd rfl hne
    · rw [adj_comm]; exact h j i _ _ hh hj hi
  · intro h a b x y hab hx hy
    obtain ⟨i, rfl, hi, hpi⟩ := nw_at hx
    obtain ⟨j, rfl, hj, hpj⟩ := nw_at hy
    refine h i j hi hj hpi hpj fun e => ?_
    subst e
    have hasc := List.pairwise_iff_getElem.1 (nw_asc P n)
    obtain ⟨h1, e1⟩ := List.getElem?_eq_some_iff.1 hx
    obtain ⟨h2, e2⟩ := List.getElem?_eq_some_iff.1 hy
    have := hasc a b h1 h2 hab
    omega
set_option maxHeartbeats 4000000 in
set_option maxRecDepth 100000 in
theorem l5Clique_any (s : Int) (v u : Value) (l : List Ed) (xs : List Int) (w : World) (h : Edges w v l) (hl : l.length ≤ 1048576) (hu : Ints w u xs) (hxl : xs.length ≤ 1048576) :
    Calls Try.prog 50 #[.agg #[.int .i64 s, v], u] w fun e w' => e = .returned (.bool (okG (ClqL l xs))) ∧ Below w.heap.size w w' := by
  obtain ⟨A, c, rfl, -⟩ := h.form
  obtain ⟨A2, c2, rfl, hc2⟩ := hu.form
  have H := Lib.hid h
  have HC2 := Lib.hid hc2
  have HB0 : Hid (Below w.heap.size w (w.alloc (.cells #[.int .i64 s, .slice A l.length c] 30))) := (Below.refl _ _).alloc (Nat.le_refl _) _
  have HG0 := Lib.hid (Blk.new w 30 #[.int .i64 s, .slice A l.length c])
  clear h hu hc2
  go_enter Try.func50, Try.ntmps50
  go_wp2_with fail
  go_loopg [5] xs.length (fun g iv wr => ∃ i : Nat, i + g = xs.length ∧ iv = .int .i64 (i : Int) ∧ Hid (ClqA l xs i) ∧ Blk wr w.heap.size 30 #[.int .i64 s, .slice A l.length c] ∧ Below w.heap.size w wr)
  case atStart => exact ⟨0, by omega, rfl, fun a b x y h => by omega, HG0.out, HB0.out⟩
  case round =>
    clear HG0 HB0
    obtain ⟨i, hig, rfl, hcl, hgb, hB⟩ := hrel
    have HG := Lib.hid hgb
    have HB := Lib.hid hB
    cases gk with
    | zero =>
      have HV : Hid (okG (ClqL l xs) = true) := okG_yes (hcl.out.done (by omega))
      obtain rfl : i = xs.length := by omega
      clear hgb hB
      go_wp2_with fail
      go_ret
      rw [HV.out]
      exact ⟨rfl, HB.out⟩
    | succ g2 =>
      have hlt : i < xs.length := by omega
      have hlt' : (i : Int) < (xs.length : Int) := by omega
      obtain ⟨x, hx⟩ : ∃ x, xs[i]? = some x := ⟨_, List.getElem?_eq_getElem hlt⟩
      obtain ⟨g5, o5, rfl, c5⟩ := HC2.out i _ hx
      have HX := Lib.hid hx
      have HI := Lib.hid hcl.out.inner
      have HC5 := Lib.hid c5
      clear hx c5 hgb hB hcl
      go_wp2_with fail
      obtain ⟨wo, hwo⟩ : ∃ wo, wo = wr := ⟨_, rfl⟩
      subst hwo
      go_loopg [6] (xs.length - (i + 1)) (fun g kv wr => ∃ k : Nat, k + g = xs.length ∧ i < k ∧ kv = .int .i64 (k : Int) ∧ Hid (ClqB l xs i k) ∧ Blk wr w.heap.size 30 #[.int .i64 s, .slice A l.length c] ∧ Below w.heap.size w wr)
      case atStart => exact ⟨i + 1, by omega, by omega, by go_num, HI, HG.out, HB.out⟩
      case round =>
        clear HI HG HB
        obtain ⟨k, hkg, hik, rfl, hcl, hgb, hB⟩ := hrel
        obtain ⟨p0, p1, -, -⟩ := hgb.two
        have HG := Lib.hid hgb
        have HB := Lib.hid hB
        cases gk with
        | zero =>
          have HN := Lib.hid (hcl.out.all (by omega))
          obtain rfl : k = xs.length := by omega
          clear hgb hB hcl p0 p1
          obtain ⟨p0, p1, -, -⟩ := HG.out.two
          go_wp2_with fail
          go_roundg g2
          case measure => omega
          case rel => exact ⟨i + 1, by omega, by go_num, HN, HG.out, HB.out⟩
        | succ g4 =>
          have hklt : k < xs.length := by omega
          have hklt' : (k : Int) < (xs.length : Int) := by omega
          obtain ⟨y, hy⟩ : ∃ y, xs[k]? = some y := ⟨_, List.getElem?_eq_getElem hklt⟩
          obtain ⟨_, _, hf, c6⟩ := HC2.out k _ hy
          cases hf
          have q5 := nearv.cell_keep HC5.out hB
          have q6 := nearv.cell_keep c6 hB
          have HNR := Lib.hid (l2Near_any s x y (.slice A l.length c) l wr.drew (H.out.below hB.drew) hl)
          have HIJ : Hid (i < k) := by
            show _ < _
            omega
          cases hj : adj l x y with
          | true =>
            have HN := Lib.hid (hcl.out.next HX.out hy hj)
            rw [hj] at HNR
            clear hy c6 hgb hB hcl hj HIJ
            go_wp2_with fail
            refine wp_region_held_drew (S := (fun w' : World => w'.cell? ⟨w.heap.size, 0, none⟩ = some (.int .i64 s) ∧ w'.cell? ⟨w.heap.size, 1, none⟩ = some (.slice A l.length c) ∧ w'.cell? ⟨g5, o5 + i, none⟩ = some (.int .i64 x) ∧ w'.cell? ⟨g5, o5 + k, none⟩ = some (.int .i64 y))) (by kernel_rfl) (by (try dsimp only); simp [*]) (fun hHeld => ?_)
            change wpAnyH _ _ _ _ _ _ #[false, false, false, false, false, false, false, false, false, false, false] _ _
            refine wpAnyH_take (i := 0) (oi := ⟨some 21, _, _, _, _, _⟩) (v := ?_) rfl (by kernel_rfl) (by kernel_rfl) (by kernel_rfl) (fun _ _ _ h => h) (Or.inl ⟨by rfl, ?_⟩) (by assumption) ?_
            rotate_left
            · (intro w hSw; (try dsimp only at hSw); go_simp; (try (with_reducible rfl)))
            try simp only [Act.put, List.setIfInBounds_toArray, List.set_cons_zero, List.set_cons_succ]
            refine wpAnyH_take (i := 1) (oi := ⟨some 22, _, _, _, _, _⟩) (v := ?_) rfl (by kernel_rfl) (by kernel_rfl) (by kernel_rfl) (fun _ _ _ h => h) (Or.inl ⟨by rfl, ?_⟩) (by assumption) ?_
            rotate_left
            · (intro w hSw; (try dsimp only at hSw); go_simp; (try (with_reducible rfl)))
            try simp only [Act.put, List.setIfInBounds_toArray, List.set_cons_zero, List.set_cons_succ]
            refine wpAnyH_take (i := 2) (oi := ⟨some 23, _, _, _, _, _⟩) (v := ?_) rfl (by kernel_rfl) (by kernel_rfl) (by kernel_rfl) (fun _ _ _ h => h) (Or.inl ⟨by rfl, ?_⟩) (by assumption) ?_
            rotate_left
            · (intro w hSw; (try dsimp only at hSw); go_simp; (try (with_reducible rfl)))
            try simp only [Act.put, List.setIfInBounds_toArray, List.set_cons_zero, List.set_cons_succ]
            refine wpAnyH_take (i := 3) (oi := ⟨some 24, _, _, _, _, _⟩) (v := ?_) rfl (by kernel_rfl) (by kernel_rfl) (by kernel_rfl) (fun _ _ _ h => h) (Or.inl ⟨by rfl, ?_⟩) (by assumption) ?_
            rotate_left
            · (intro w hSw; (try dsimp only at hSw); go_simp; (try (with_reducible rfl)))
            try simp only [Act.put, List.setIfInBounds_toArray, List.set_cons_zero, List.set_cons_succ]
            refine wpAnyH_take (i := 4) (oi := ⟨some 25, _, _, _, _, _⟩) (v := ?_) rfl (by kernel_rfl) (by kernel_rfl) (by kernel_rfl) (fun _ _ _ h => h) (Or.inl ⟨by rfl, ?_⟩) (by assumption) ?_
            rotate_left
            · (intro w hSw; (try dsimp only at hSw); go_simp; (try (with_reducible rfl)))
            try simp only [Act.put, List.setIfInBounds_toArray, List.set_cons_zero, List.set_cons_succ]
            refine wpAnyH_take (i := 5) (oi := ⟨some 26, _, _, _, _, _⟩) (v := ?_) rfl (by kernel_rfl) (by kernel_rfl) (by kernel_rfl) (fun _ _ _ h => h) (Or.inl ⟨by rfl, ?_⟩) (by assumption) ?_
            rotate_left
            · (intro w hSw; (try dsimp only at hSw); go_simp; (try (with_reducible rfl)))
            try simp only [Act.put, List.setIfInBounds_toArray, List.set_cons_zero, List.set_cons_succ]
            refine wpAnyH_take (i := 6) (oi := ⟨some 27, _, _, _, _, _⟩) (v := ?_) rfl (by kernel_rfl) (by kernel_rfl) (by kernel_rfl) (fun _ _ _ h => h) (Or.inl ⟨by rfl, ?_⟩) (by assumption) ?_
            rotate_left
            · (intro w hSw; (try dsimp only at hSw); go_simp; (try (with_reducible rfl)))
            try simp only [Act.put, List.setIfInBounds_toArray, List.set_cons_zero, List.set_cons_succ]
            refine wpAnyH_take (i := 7) (oi := ⟨some 28, _, _, _, _, _⟩) (v := ?_) rfl (by kernel_rfl) (by kernel_rfl) (by kernel_rfl) (fun _ _ _ h => h) (Or.inl ⟨by rfl, ?_⟩) (by assumption) ?_
            rotate_left
            · (intro w hSw; (try dsimp only at hSw); go_simp; (try (with_reducible rfl)))
            try simp only [Act.put, List.setIfInBounds_toArray, List.set_cons_zero, List.set_cons_succ]
            refine wpAnyH_take (i := 8) (oi := ⟨some 29, _, _, _, _, _⟩) (v := ?_) rfl (by kernel_rfl) (by kernel_rfl) (by kernel_rfl) (fun _ _ _ h => h) (Or.inl ⟨by rfl, ?_⟩) (by assumption) ?_
            rotate_left
            · (intro w hSw; (try dsimp only at hSw); go_simp; (try (with_reducible rfl)))
            try simp only [Act.put, List.setIfInBounds_toArray, List.set_cons_zero, List.set_cons_succ]
            refine wpAnyH_ready (rs := [9]) (by kernel_rfl) (by simp) ?_
            refine AllReadyH.cons (o := ⟨some 30, _, _, _, _, _⟩) rfl (fun K hK => ?_) AllReadyH.nil
            go_simp
            refine HNR.out.mono ?_; rintro e w3 ⟨rfl, b3⟩; have d3 : Below wr.heap.size wr w3 := btrans (Below.refl _ _).drew b3; obtain ⟨k0, k1, -, -⟩ := (HG.out.below d3 HG.out.lt).two; have q7 := nearv.cell_keep q5 d3; have q8 := nearv.cell_keep q6 d3
            go_wp2_with fail
            refine hK.out _ _ (by (try dsimp only); simp [*]) (fun hHeld => ?_)
            clear hK K
            try simp only [List.setIfInBounds_toArray, List.set_cons_zero, List.set_cons_succ]
            refine wpAnyH_take (i := 10) (oi := ⟨some 31, _, _, _, _, _⟩) (v := ?_) rfl (by kernel_rfl) (by kernel_rfl) (by kernel_rfl) (fun _ _ _ h => h) (Or.inl ⟨by rfl, ?_⟩) (by assumption) ?_
            rotate_left
            · (intro w hSw; (try dsimp only at hSw); go_simp; (try (with_reducible rfl)))
            try simp only [Act.put, List.setIfInBounds_toArray, List.set_cons_zero, List.set_cons_succ]
            refine wpAnyH_done (by kernel_rfl) ?_ _
            have HG3 := Lib.hid (HG.out.below d3 HG.out.lt)
            have HB3 := Lib.hid (btrans HB.out d3)
            clear b3 d3 k0 k1 q7 q8 q5 q6 p0 p1 hHeld
            go_wp2_with fail
            go_roundg g4
            case measure => omega
            case rel => exact ⟨k + 1, by omega, by omega, by go_num, HN, HG3.out, HB3.out⟩
          | false =>
            have HV : Hid (okG (ClqL l xs) = false) := okG_no fun h_ => by
              have := h_ i k x y HIJ.out HX.out hy
              rw [hj] at this; cases this
            rw [hj] at HNR
            clear hy c6 hgb hB hcl hj HIJ
            go_wp2_with fail
            refine wp_region_held_drew (S := (fun w' : World => w'.cell? ⟨w.heap.size, 0, none⟩ = some (.int .i64 s) ∧ w'.cell? ⟨w.heap.size, 1, none⟩ = some (.slice A l.length c) ∧ w'.cell? ⟨g5, o5 + i, none⟩ = some (.int .i64 x) ∧ w'.cell? ⟨g5, o5 + k, none⟩ = some (.int .i64 y))) (by kernel_rfl) (by (try dsimp only); simp [*]) (fun hHeld => ?_)
            change wpAnyH _ _ _ _ _ _ #[false, false, false, false, false, false, false, false, false, false, false] _ _
            refine wpAnyH_take (i := 0) (oi := ⟨some 21, _, _, _, _, _⟩) (v := ?_) rfl (by kernel_rfl) (by kernel_rfl) (by kernel_rfl) (fun _ _ _ h => h) (Or.inl ⟨by rfl, ?_⟩) (by assumption) ?_
            rotate_left
            · (intro w hSw; (try dsimp only at hSw); go_simp; (try (with_reducible rfl)))
            try simp only [Act.put, List.setIfInBounds_toArray, List.set_cons_zero, List.set_cons_succ]
            refine wpAnyH_take (i := 1) (oi := ⟨some 22, _, _, _, _, _⟩) (v := ?_) rfl (by kernel_rfl) (by kernel_rfl) (by kernel_rfl) (fun _ _ _ h => h) (Or.inl ⟨by rfl, ?_⟩) (by assumption) ?_
            rotate_left
            · (intro w hSw; (try dsimp only at hSw); go_simp; (try (with_reducible rfl)))
            try simp only [Act.put, List.setIfInBounds_toArray, List.set_cons_zero, List.set_cons_succ]
            refine wpAnyH_take (i := 2) (oi := ⟨some 23, _, _, _, _, _⟩) (v := ?_) rfl (by kernel_rfl) (by kernel_rfl) (by kernel_rfl) (fun _ _ _ h => h) (Or.inl ⟨by rfl, ?_⟩) (by assumption) ?_
            rotate_left
            · (intro w hSw; (try dsimp only at hSw); go_simp; (try (with_reducible rfl)))
            try simp only [Act.put, List.setIfInBounds_toArray, List.set_cons_zero, List.set_cons_succ]
            refine wpAnyH_take (i := 3) (oi := ⟨some 24, _, _, _, _, _⟩) (v := ?_) rfl (by kernel_rfl) (by kernel_rfl) (by kernel_rfl) (fun _ _ _ h => h) (Or.inl ⟨by rfl, ?_⟩) (by assumption) ?_
            rotate_left
            · (intro w hSw; (try dsimp only at hSw); go_simp; (try (with_reducible rfl)))
            try simp only [Act.put, List.setIfInBounds_toArray, List.set_cons_zero, List.set_cons_succ]
            refine wpAnyH_take (i := 4) (oi := ⟨some 25, _, _, _, _, _⟩) (v := ?_) rfl (by kernel_rfl) (by kernel_rfl) (by kernel_rfl) (fun _ _ _ h => h) (Or.inl ⟨by rfl, ?_⟩) (by assumption) ?_
            rotate_left
            · (intro w hSw; (try dsimp only at hSw); go_simp; (try (with_reducible rfl)))
            try simp only [Act.put, List.setIfInBounds_toArray, List.set_cons_zero, List.set_cons_succ]
            refine wpAnyH_take (i := 5) (oi := ⟨some 26, _, _, _, _, _⟩) (v := ?_) rfl (by kernel_rfl) (by kernel_rfl) (by kernel_rfl) (fun _ _ _ h => h) (Or.inl ⟨by rfl, ?_⟩) (by assumption) ?_
            rotate_left
            · (intro w hSw; (try dsimp only at hSw); go_simp; (try (with_reducible rfl)))
            try simp only [Act.put, List.setIfInBounds_toArray, List.set_cons_zero, List.set_cons_succ]
            refine wpAnyH_take (i := 6) (oi := ⟨some 27, _, _, _, _, _⟩) (v := ?_) rfl (by kernel_rfl) (by kernel_rfl) (by kernel_rfl) (fun _ _ _ h => h) (Or.inl ⟨by rfl, ?_⟩) (by assumption) ?_
            rotate_left
            · (intro w hSw; (try dsimp only at hSw); go_simp; (try (with_reducible rfl)))
            try simp only [Act.put, List.setIfInBounds_toArray, List.set_cons_zero, List.set_cons_succ]
            refine wpAnyH_take (i := 7) (oi := ⟨some 28, _, _, _, _, _⟩) (v := ?_) rfl (by kernel_rfl) (by kernel_rfl) (by kernel_rfl) (fun _ _ _ h => h) (Or.inl ⟨by rfl, ?_⟩) (by assumption) ?_
            rotate_left
            · (intro w hSw; (try dsimp only at hSw); go_simp; (try (with_reducible rfl)))
            try simp only [Act.put, List.setIfInBounds_toArray, List.set_cons_zero, List.set_cons_succ]
            refine wpAnyH_take (i := 8) (oi := ⟨some 29, _, _, _, _, _⟩) (v := ?_) rfl (by kernel_rfl) (by kernel_rfl) (by kernel_rfl) (fun _ _ _ h => h) (Or.inl ⟨by rfl, ?_⟩) (by assumption) ?_
            rotate_left
            · (intro w hSw; (try dsimp only at hSw); go_simp; (try (with_reducible rfl)))
            try simp only [Act.put, List.setIfInBounds_toArray, List.set_cons_zero, List.set_cons_succ]
            refine wpAnyH_ready (rs := [9]) (by kernel_rfl) (by simp) ?_
            refine AllReadyH.cons (o := ⟨some 30, _, _, _, _, _⟩) rfl (fun K hK => ?_) AllReadyH.nil
            go_simp
            refine HNR.out.mono ?_; rintro e w3 ⟨rfl, b3⟩; have d3 : Below wr.heap.size wr w3 := btrans (Below.refl _ _).drew b3; obtain ⟨k0, k1, -, -⟩ := (HG.out.below d3 HG.out.lt).two; have q7 := nearv.cell_keep q5 d3; have q8 := nearv.cell_keep q6 d3
            go_wp2_with fail
            refine hK.out _ _ (by (try dsimp only); simp [*]) (fun hHeld => ?_)
            clear hK K
            try simp only [List.setIfInBounds_toArray, List.set_cons_zero, List.set_cons_succ]
            refine wpAnyH_take (i := 10) (oi := ⟨some 31, _, _, _, _, _⟩) (v := ?_) rfl (by kernel_rfl) (by kernel_rfl) (by kernel_rfl) (fun _ _ _ h => h) (Or.inl ⟨by rfl, ?_⟩) (by assumption) ?_
            rotate_left
            · (intro w hSw; (try dsimp only at hSw); go_simp; (try (with_reducible rfl)))
            try simp only [Act.put, List.setIfInBounds_toArray, List.set_cons_zero, List.set_cons_succ]
            refine wpAnyH_done (by kernel_rfl) ?_ _
            have HB3 := Lib.hid (btrans HB.out d3)
            clear b3 d3 k0 k1 q7 q8 q5 q6 p0 p1 hHeld
            go_wp2_with fail
            go_ret
            rw [HV.out]
            exact ⟨rfl, HB3.out⟩
end Go.Proofs.Ytgfjdkjoeaghoaa.costs

/- CliqueOf: the contracts of the model's l5Less over lists of the same length, and of CliqueOf. -/
namespace Go.Proofs.Ytgfjdkjoeaghoaa.ups
open Go.RowKit P2 words edges ints good adjs fns sets rets covs bags balls bitsI func costs
set_option linter.unusedVariables false

set_option maxHeartbeats 8000000 in
set_option maxRecDepth 100000 in
theorem specClq_any (s : Int) (v : Value) (l : List Ed) (w : World) (h : Edges w v l) (hl : l.length ≤ 1048576) (hs1 : -9223372036854775808 ≤ s) (hs2 : s ≤ 9223372036854775807) :
    Calls Try.prog 19 #[.agg #[.int .i64 s, v]] w (RetI w (P2.Good s l) (ndN (clqN s.toNat l))) := by
  obtain ⟨A, c, rfl, -⟩ := h.form
  have H := Lib.hid h
  have b0 : Below w.heap.size w ((w.alloc (.cells #[.int .i64 s, .slice A l.length c] 30)).alloc (.cells #[] 3)) := ((Below.refl _ _).alloc (Nat.le_refl _) _).alloc (by simp) _
  have g0 := (Blk.new w 30 #[.int .i64 s, .slice A l.length c]).alloc (.cells #[] 3)
  obtain ⟨p0, p1, -, -⟩ := g0.two
  have o0 := own_new0 (w.alloc (.cells #[.int .i64 s, .slice A l.length c] 30)) 3 1
  rw [World.size_alloc] at o0
  have HGD := Lib.hid (l2Good_any s _ l _ (h.below b0) hl hs1 hs2)
  have HB0 := Lib.hid b0
  have HG0 := Lib.hid g0
  have HO0 := Lib.hid (own_base (B' := w.heap.size) o0 (by omega))
  clear h b0 g0 o0
  by_cases hgd : P2.Good s l
  · rw [goodB_yes hgd] at HGD
    have h0 := hgd.1
    have h8 := hgd.2.1
    have HOK := Lib.hid hgd
    obtain ⟨n, rfl⟩ : ∃ n : Nat, s = (n : Int) := ⟨s.toNat, by omega⟩
    have hn : n ≤ 8 := by omega
    rw [Int.toNat_natCast]
    clear hgd
    have HM0 : Hid (MaxC (clqC n l) rkMax n 1 0) := ⟨Nat.pow_pos (by decide), clq_zero n l, fun c hc _ => by rw [show c = 0 from by omega]; exact Nat.le_refl _⟩
    have HPW := Lib.hid (pow_le hn)
    have HP1 : Hid (1 ≤ 2 ^ n) := Nat.one_le_two_pow
    have HBE := Lib.hid (fun (b : Nat) (hb : MaxC (clqC n l) rkMax n (2 ^ n) b) => (bestC_is hn rkMax_inj hb : clqN n l = b))
    have HTK : Hid (∀ k bst, MaxC (clqC n l) rkMax n k bst → k < 2 ^ n → clqC n l k = true → rkMax bst < rkMax k → MaxC (clqC n l) rkMax n (k + 1) k) := fun k bst h1 h2 h3 h4 => maxC_take h1 h2 h3 h4
    have HND : Hid (∀ c, c < 2 ^ n → nw (bitB c) n = ndN c) := fun c hc => nd_bits hn hc
    have HCQ := Lib.hid (fun (k : Nat) (W : World) (hW : Below w.heap.size w W) (u : Value) (hu : Ints W u (nw (bitB k) n)) => l5Clique_any (n : Int) (.slice A l.length c) u l (nw (bitB k) n) W (H.out.below hW) hl hu (by have := nw_len (bitB k) n; omega))
    have HBT := Lib.hid (fun (bst k : Nat) (hb : MaxC (clqC n l) rkMax n k bst) => hb.1)
    have hz0 : nw (bitB 0) n = [] := by rw [nd_bits hn (Nat.pow_pos (by decide))]; decide
    have HZ0 := Lib.hid hz0
    clear hz0
    have hsh : IntKind.i64.wrap ((2 : Int) ^ n) = ((2 ^ n : Nat) : Int) := by
      have hpn := pow_le hn
      rw [show ((2 : Int) ^ n) = ((2 ^ n : Nat) : Int) from by simp]
      generalize 2 ^ n = z at *
      exact Go.IntWalk.i64_in _ (by omega)
    have hN256 := HPW.out
    have hN1 := HP1.out
    generalize hNN : 2 ^ n = N at *
    clear hNN
    go_enter Try.func19, Try.ntmps19
    go_wp2_with fail
    refine HGD.out.mono ?_
    rintro e w2 ⟨rfl, b2⟩
    have HE2 := Lib.hid (btrans HB0.out b2)
    have HG2 := Lib.hid (HG0.out.below b2 HG0.out.lt)
    have HO2 : Hid (w2.ownsRow w.heap.size 3 1 (.slice (some ⟨w.heap.size + 1, 0, none⟩) 0 0) (nw (bitB 0) n).length (cellsI (nw (bitB 0) n))) := by
      show World.ownsRow _ _ _ _ _ _ _
      rw [HZ0.out]
      exact own_below HO0.out b2
    clear p0 p1 b2 HGD HB0 HG0 HO0 HZ0
    go_wp2_with fail
    go_loopg [4, 5] (N - 1) (fun g bv cv wr => ∃ (k bst : Nat) (ow : Value), ow = bv ∧ k + g = N ∧ cv = .int .i64 (k : Int) ∧ Hid (MaxC (clqC n l) rkMax n k bst) ∧ wr.ownsRow w.heap.size 3 1 ow (nw (bitB bst) n).length (cellsI (nw (bitB bst) n)) ∧ Blk wr w.heap.size 30 #[.int .i64 (n : Int), .slice A l.length c] ∧ Below w.heap.size w wr)
    case atStart => exact ⟨1, 0, _, rfl, by omega, rfl, HM0, HO2.out, HG2.out, HE2.out⟩
    case round =>
      clear HM0 HO2 HG2 HE2
      obtain ⟨k, bst, ow, rfl, hkg, rfl, hmx, hrow, hgb, hB⟩ := hrel
      obtain ⟨A4, c4, rfl⟩ := own_form hrow
      obtain ⟨p0, p1, -, -⟩ := hgb.two
      have HR := Lib.hid hrow
      have HG := Lib.hid hgb
      have HB := Lib.hid hB
      have hbl := nw_len (bitB bst) n
      have HBN := Lib.hid (HBT.out bst k hmx.out)
      have HB2 := Lib.hid (HND.out bst HBN.out)
      clear hrow hgb hB
      cases gk with
      | zero =>
        obtain rfl : k = N := by omega
        have HV : Hid (clqN n l = bst) := HBE.out bst hmx.out
        go_wp2_with fail
        go_ret2
        have HR2 := HR.out
        rw [HB2.out] at HR2 ⊢
        rw [HV.out]
        exact RetI.yes HOK.out HR2 HB.out
      | succ g2 =>
        have hkN : k < N := by omega
        have hkN' : (k : Int) < (N : Int) := by omega
        have HBI := Lib.hid (l2Bits_any n k wr hn (by omega))
        have HNK := Lib.hid (HND.out k hkN)
        have hkl := nw_len (bitB k) n
        go_wp2_with fail
        refine HBI.out.mono ?_
        rintro e w3 ⟨A5, c5, rfl, o5, b5⟩
        have HB3 := Lib.hid (btrans HB.out b5)
        have HG3 := Lib.hid (HG.out.below b5 HG.out.lt)
        have HR3 := Lib.hid (own_below HR.out b5)
        have HO5 := Lib.hid (own_base (B' := w.heap.size) o5 HB.out.size)
        have hS3 := HCQ.out k w3 HB3.out (.slice A5 (nw (bitB k) n).length c5) (Reads.of_own o5)
        rw [clq_nw] at hS3
        have HS3 := Lib.hid hS3
        have h12 : Hid ((nw (bitB k) n).length = onesN k ∧ (nw (bitB bst) n).length = onesN bst) := ⟨by rw [HNK.out]; rfl, by rw [HB2.out]; rfl⟩
        have hbm := better_max (a := k) (b := bst) (by omega) (by have := HBN.out; omega)
        clear p0 p1 b5 o5 hS3
        obtain ⟨p0, p1, -, -⟩ := HG3.out.two
        cases hfb : clqC n l k with
        | false =>
          have HN := Lib.hid (maxC_skip hmx.out hfb)
          unfold clqC at hfb
          rw [hfb] at HS3
          clear hfb hbm
          go_wp2_with fail
          refine HS3.out.mono ?_
          rintro e w4 ⟨rfl, b6⟩
          have HB4 := Lib.hid (btrans HB3.out b6)
          have HG4 := Lib.hid (HG3.out.below b6 HG3.out.lt)
          have HR4 := Lib.hid (own_below HR3.out b6)
          clear b6 p0 p1
          go_wp2_with fail
          go_roundg g2
          case measure => omega
          case rel => exact ⟨k + 1, bst, _, rfl, by omega, by go_num, HN, HR4.out, HG4.out, HB4.out⟩
        | true =>
          have HTT := Lib.hid (fun (h : rkMax bst < rkMax k) => HTK.out k bst hmx.out hkN hfb h)
          have HLL := Lib.hid (fun (h : ¬ rkMax bst < rkMax k) => maxC_less hmx.out h)
          unfold clqC at hfb
          rw [hfb] at HS3
          clear hfb
          go_wp2_with fail
          refine HS3.out.mono ?_
          rintro e w4 ⟨rfl, b6⟩
          have HB4 := Lib.hid (btrans HB3.out b6)
          have HG4 := Lib.hid (HG3.out.below b6 HG3.out.lt)
          have HR4 := Lib.hid (own_below HR3.out b6)
          have HO4 := Lib.hid (own_below HO5.out b6)
          clear b6 p0 p1
          by_cases c1 : onesN bst < onesN k
          · have c2 : (nw (bitB bst) n).length < (nw (bitB k) n).length := by rw [h12.out.1, h12.out.2]; exact c1
            have c3 : ((nw (bitB bst) n).length : Int) < ((nw (bitB k) n).length : Int) := by omega
            have HN := Lib.hid (HTT.out (by rw [decide_eq_true c1, Bool.true_or] at hbm; exact of_decide_eq_true hbm.symm))
            clear hbm c1
            go_wp2_with fail
            go_roundg g2
            case measure => omega
            case rel => exact ⟨k + 1, k, _, rfl, by omega, by go_num, HN, HO4.out, HG4.out, HB4.out⟩
          · have c2 : ¬ (nw (bitB bst) n).length < (nw (bitB k) n).length := by rw [h12.out.1, h12.out.2]; exact c1
            have c3 : ¬ ((nw (bitB bst) n).length : Int) < ((nw (bitB k) n).length : Int) := by omega
            rw [decide_eq_false c1, Bool.false_or] at hbm
            by_cases c4 : onesN k = onesN bst
            · have c5 : Hid ((nw (bitB k) n).length = (nw (bitB bst) n).length) := by show _ = _; rw [h12.out.1, h12.out.2]; exact c4
              have c6 : (((nw (bitB k) n).length : Int) == ((nw (bitB bst) n).length : Int)) = true := by rw [c5.out]; simp
              have c7 : ((nw (bitB k) n).length == (nw (bitB bst) n).length) = true := by rw [c5.out]; simp
              rw [decide_eq_true c4, Bool.true_and] at hbm
              have HLS := Lib.hid (l5LessI_any _ _ (nw (bitB k) n) (nw (bitB bst) n) w4 (show Ints _ _ _ from Reads.of_own HO4.out) (show Ints _ _ _ from Reads.of_own HR4.out) c5.out (by omega))
              rw [HNK.out, HB2.out, hbm] at HLS
              rw [← HNK.out, ← HB2.out] at HLS
              clear c1 c4 hbm
              by_cases hlx : rkMax bst < rkMax k
              · rw [decide_eq_true hlx] at HLS
                have HN := Lib.hid (HTT.out hlx)
                clear hlx
                go_wp2_with fail
                refine HLS.out.mono ?_
                rintro e w5 ⟨rfl, b7⟩
                have HB5 := Lib.hid (btrans HB4.out b7)
                have HG5 := Lib.hid (HG4.out.below b7 HG4.out.lt)
                have HO7 := Lib.hid (own_below HO4.out b7)
                clear b7
                go_wp2_with fail
                go_roundg g2
                case measure => omega
                case rel => exact ⟨k + 1, k, _, rfl, by omega, by go_num, HN, HO7.out, HG5.out, HB5.out⟩
              · rw [decide_eq_false hlx] at HLS
                have HN := Lib.hid (HLL.out hlx)
                clear hlx
                go_wp2_with fail
                refine HLS.out.mono ?_
                rintro e w5 ⟨rfl, b7⟩
                have HB5 := Lib.hid (btrans HB4.out b7)
                have HG5 := Lib.hid (HG4.out.below b7 HG4.out.lt)
                have HR7 := Lib.hid (own_below HR4.out b7)
                clear b7
                go_wp2_with fail
                go_roundg g2
                case measure => omega
                case rel => exact ⟨k + 1, bst, _, rfl, by omega, by go_num, HN, HR7.out, HG5.out, HB5.out⟩
            · have c5 : (nw (bitB k) n).length ≠ (nw (bitB bst) n).length := by rw [h12.out.1, h12.out.2]; exact c4
              have c6 : (((nw (bitB k) n).length : Int) == ((nw (bitB bst) n).length : Int)) = false := by rw [beq_eq_false_iff_ne]; omega
              have c7 : ((nw (bitB k) n).length == (nw (bitB bst) n).length) = false := by rw [beq_eq_false_iff_ne]; exact c5
              rw [decide_eq_false c4, Bool.false_and] at hbm
              have HN := Lib.hid (HLL.out (of_decide_eq_false hbm.symm))
              clear c1 c4 hbm
              go_wp2_with fail
              go_roundg g2
              case measure => omega
              case rel => exact ⟨k + 1, bst, _, rfl, by omega, by go_num, HN, HR4.out, HG4.out, HB4.out⟩
  · rw [goodB_no hgd] at HGD
    have HNO := Lib.hid hgd
    clear hgd
    go_enter Try.func19, Try.ntmps19
    go_wp2_with fail
    refine HGD.out.mono ?_
    rintro e w1 ⟨rfl, b1⟩
    have HE1 := Lib.hid (btrans HB0.out b1)
    have HO1 := Lib.hid (own_below HO0.out b1)
    clear p0 p1 b1
    go_wp2_with fail
    go_ret2
    exact RetI.no HNO.out HO1.out HE1.out
theorem clq_len (s : Int) (l : List Ed) : (inG (P2.Good s l) (ndN (clqN s.toNat l))).length ≤ 1048576 := inG_len fun _ => by
  unfold ndN
  have := nw_len (bitB (clqN s.toNat l)) 8
  omega
end Go.Proofs.Ytgfjdkjoeaghoaa.ups
