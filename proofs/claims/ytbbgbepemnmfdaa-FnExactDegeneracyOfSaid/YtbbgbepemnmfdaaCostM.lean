/- Least costs over all orders, forwards and backwards: plain mathematics. -/
import Derived.Handy
import Derived.Test.YtbbgbepemnmfdaaFrontM
import Derived.Test.YtbbgbepemnmfdaaOnes
namespace Go.Proofs.Ytbbgbepemnmfdaa.costs
open Go.RowKit P2 words edges ints good adjs fns sets rets covs reach bags bitsI fronts
set_option linter.unusedVariables false

theorem or_all : ∀ (d : Fin 256) (x : Fin 8), d.1.testBit x.1 = false → (d.1 ||| 2 ^ x.1) = d.1 + 2 ^ x.1 ∧ (d.1 ||| 2 ^ x.1).testBit x.1 = true := by decide +kernel
theorem sub_all : ∀ (d : Fin 256) (x : Fin 8), d.1.testBit x.1 = true → 2 ^ x.1 ≤ d.1 ∧ (d.1 - 2 ^ x.1).testBit x.1 = false := by decide +kernel
theorem bit_out : ∀ (n : Fin 9) (c : Fin 256), c.1 < 2 ^ n.1 - 1 → ∃ x : Fin 8, x.1 < n.1 ∧ c.1.testBit x.1 = false := by decide +kernel
theorem bit_in : ∀ (n : Fin 9) (c : Fin 256), c.1 < 2 ^ n.1 → c.1 ≠ 0 → ∃ x : Fin 8, x.1 < n.1 ∧ c.1.testBit x.1 = true := by decide +kernel
theorem pow8 {n : Nat} (hn : n ≤ 8) : 2 ^ n ≤ 256 := by have := Nat.pow_le_pow_right (show 0 < 2 by decide) hn; simpa using this
theorem or_is {d x : Nat} (hd : d < 256) (hx : x < 8) (h : d.testBit x = false) : d ||| 2 ^ x = d + 2 ^ x := (or_all ⟨d, hd⟩ ⟨x, hx⟩ h).1
theorem or_bit {d x : Nat} (hd : d < 256) (hx : x < 8) (h : d.testBit x = false) : (d ||| 2 ^ x).testBit x = true := (or_all ⟨d, hd⟩ ⟨x, hx⟩ h).2
theorem sub_le {d x : Nat} (hd : d < 256) (hx : x < 8) (h : d.testBit x = true) : 2 ^ x ≤ d := (sub_all ⟨d, hd⟩ ⟨x, hx⟩ h).1
theorem sub_bit {d x : Nat} (hd : d < 256) (hx : x < 8) (h : d.testBit x = true) : (d - 2 ^ x).testBit x = false := (sub_all ⟨d, hd⟩ ⟨x, hx⟩ h).2
theorem or_lt {n d x : Nat} (hd : d < 2 ^ n) (hx : x < n) : d ||| 2 ^ x < 2 ^ n := Nat.or_lt_two_pow hd (Nat.pow_lt_pow_right (by decide) hx)
theorem or_gt {d x : Nat} (hd : d < 256) (hx : x < 8) (h : d.testBit x = false) : d < d ||| 2 ^ x := by rw [or_is hd hx h]; have := Nat.two_pow_pos x; omega
theorem sub_or {d x : Nat} (hd : d < 256) (hx : x < 8) (h : d.testBit x = true) : (d - 2 ^ x) ||| 2 ^ x = d := by
  have := sub_le hd hx h
  rw [or_is (Nat.lt_of_le_of_lt (Nat.sub_le _ _) hd) hx (sub_bit hd hx h)]; exact Nat.sub_add_cancel this
theorem out_bit {n c : Nat} (hn : n ≤ 8) (hc : c < 2 ^ n - 1) : ∃ x, x < n ∧ c.testBit x = false := by
  have := pow8 hn
  obtain ⟨x, h1, h2⟩ := bit_out ⟨n, by omega⟩ ⟨c, by omega⟩ hc
  exact ⟨x.1, h1, h2⟩
theorem in_bit {n c : Nat} (hn : n ≤ 8) (hc : c < 2 ^ n) (h0 : c ≠ 0) : ∃ x, x < n ∧ c.testBit x = true := by
  have := pow8 hn
  obtain ⟨x, h1, h2⟩ := bit_in ⟨n, by omega⟩ ⟨c, by omega⟩ hc h0
  exact ⟨x.1, h1, h2⟩

/-- from one set to another one, node by node, each one at a cost of at most u -/
inductive Ch (n : Nat) (cost : Nat → Nat → Int) (u : Int) : Nat → Nat → Prop
  | refl (c : Nat) : Ch n cost u c c
  | step {c d x : Nat} : Ch n cost u c d → x < n → d.testBit x = false → cost d x ≤ u → Ch n cost u c (d ||| 2 ^ x)
theorem Ch.trans {n : Nat} {cost : Nat → Nat → Int} {u : Int} {a b c : Nat} (h1 : Ch n cost u a b) (h2 : Ch n cost u b c) : Ch n cost u a c := by
  induction h2 with
  | refl => exact h1
  | step _ hx hb hc ih => exact .step ih hx hb hc
theorem Ch.head {n : Nat} {cost : Nat → Nat → Int} {u : Int} {c d : Nat} (h : Ch n cost u c d) : c = d ∨ ∃ x, x < n ∧ c.testBit x = false ∧ cost c x ≤ u ∧ Ch n cost u (c ||| 2 ^ x) d := by
  induction h with
  | refl => exact .inl rfl
  | step _ hx hb hc ih =>
    refine .inr ?_
    rcases ih with rfl | ⟨y, h1, h2, h3, h4⟩
    · exact ⟨_, hx, hb, hc, .refl _⟩
    · exact ⟨y, h1, h2, h3, .step h4 hx hb hc⟩

/-- the least costs of what is left, for each set that is gone -/
def LcAt (n : Nat) (cost : Nat → Nat → Int) (C : Nat → Int) (c : Nat) : Prop :=
  (∃ x, x < n ∧ c.testBit x = false ∧ C c = max (cost c x) (C (c ||| 2 ^ x))) ∧ ∀ x, x < n → c.testBit x = false → C c ≤ max (cost c x) (C (c ||| 2 ^ x))
theorem lc_ch {n : Nat} {cost : Nat → Nat → Int} {C : Nat → Int} {nil : Int} (hn : n ≤ 8) (hfull : C (2 ^ n - 1) = nil) (h : ∀ c, c < 2 ^ n - 1 → LcAt n cost C c) {u : Int} (hu : nil ≤ u) :
    ∀ k c, c < 2 ^ n → 2 ^ n - 1 - c ≤ k → (C c ≤ u ↔ Ch n cost u c (2 ^ n - 1)) := by
  have hp := pow8 hn
  have hp0 := Nat.two_pow_pos n
  intro k
  induction k with
  | zero =>
    intro c hc hk
    obtain rfl : c = 2 ^ n - 1 := by omega
    rw [hfull]
    exact ⟨fun _ => .refl _, fun _ => hu⟩
  | succ k ih =>
    intro c hc hk
    by_cases e : c = 2 ^ n - 1
    · subst e
      rw [hfull]
      exact ⟨fun _ => .refl _, fun _ => hu⟩
    · obtain ⟨⟨x, hx, hb, hC⟩, hle⟩ := h c (by omega)
      have hstep : ∀ y, y < n → c.testBit y = false → (C (c ||| 2 ^ y) ≤ u ↔ Ch n cost u (c ||| 2 ^ y) (2 ^ n - 1)) := fun y hy hby =>
        ih _ (or_lt hc hy) (by have := or_gt (x := y) (by omega : c < 256) (by omega) hby; omega)
      constructor
      · intro hcu
        rw [hC] at hcu
        have h1 : cost c x ≤ u := by omega
        have h2 : C (c ||| 2 ^ x) ≤ u := by omega
        exact (Ch.step (.refl c) hx hb h1).trans ((hstep x hx hb).1 h2)
      · intro hch
        rcases hch.head with rfl | ⟨y, hy, hby, hcy, h4⟩
        · exact absurd rfl e
        · have := hle y hy hby
          have := (hstep y hy hby).2 h4
          omega
/-- the least costs up to each set -/
def WAt (n : Nat) (cost : Nat → Nat → Int) (W : Nat → Int) (d : Nat) : Prop :=
  (∃ x, x < n ∧ d.testBit x = true ∧ W d = max (cost (d - 2 ^ x) x) (W (d - 2 ^ x))) ∧ ∀ x, x < n → d.testBit x = true → W d ≤ max (cost (d - 2 ^ x) x) (W (d - 2 ^ x))
theorem w_ch {n : Nat} {cost : Nat → Nat → Int} {W : Nat → Int} {nil : Int} (hn : n ≤ 8) (h0 : W 0 = nil) (h : ∀ d, d < 2 ^ n → d ≠ 0 → WAt n cost W d) {u : Int} (hu : nil ≤ u) :
    ∀ k d, d < 2 ^ n → d ≤ k → (W d ≤ u ↔ Ch n cost u 0 d) := by
  have hp := pow8 hn
  intro k
  induction k with
  | zero =>
    intro d hd hk
    obtain rfl : d = 0 := by omega
    rw [h0]
    exact ⟨fun _ => .refl _, fun _ => hu⟩
  | succ k ih =>
    intro d hd hk
    by_cases e : d = 0
    · subst e
      rw [h0]
      exact ⟨fun _ => .refl _, fun _ => hu⟩
    · obtain ⟨⟨x, hx, hb, hW⟩, hle⟩ := h d hd e
      have hstep : ∀ y, y < n → d.testBit y = true → (W (d - 2 ^ y) ≤ u ↔ Ch n cost u 0 (d - 2 ^ y)) := fun y hy hby =>
        ih _ (Nat.lt_of_le_of_lt (Nat.sub_le _ _) hd) (by have := Nat.sub_lt (Nat.pos_of_ne_zero e) (Nat.two_pow_pos y); omega)
      constructor
      · intro hdu
        rw [hW] at hdu
        have h1 : cost (d - 2 ^ x) x ≤ u := by omega
        have h2 : W (d - 2 ^ x) ≤ u := by omega
        have h3 := Ch.step ((hstep x hx hb).1 h2) hx (sub_bit (by omega) (by omega) hb) h1
        rwa [sub_or (by omega) (by omega) hb] at h3
      · intro hch
        generalize hz : (0 : Nat) = z at hch
        cases hch with
        | refl => exact absurd hz.symm e
        | @step e2 y hc hy hby hcy =>
          subst hz
          have he : e2 < 256 := by
            have : e2 ≤ e2 ||| 2 ^ y := Nat.left_le_or
            omega
          have h1 : (e2 ||| 2 ^ y) - 2 ^ y = e2 := by rw [or_is he (by omega) hby]; exact Nat.add_sub_cancel _ _
          have h2 := or_bit he (by omega) hby
          have h3 := hle y hy h2
          have h4 := hstep y hy h2
          rw [h1] at h3 h4
          have := h4.2 hc
          omega
/-- the least cost of all orders: what each search for it finds -/
def Least (n : Nat) (cost : Nat → Nat → Int) (nil v : Int) : Prop := nil ≤ v ∧ ∀ u, nil ≤ u → (v ≤ u ↔ Ch n cost u 0 (2 ^ n - 1))
theorem Least.one {n : Nat} {cost : Nat → Nat → Int} {nil a b : Int} (ha : Least n cost nil a) (hb : Least n cost nil b) : a = b := by
  have h1 := (ha.2 b hb.1).2 ((hb.2 b hb.1).1 (Int.le_refl _))
  have h2 := (hb.2 a ha.1).2 ((ha.2 a ha.1).1 (Int.le_refl _))
  omega
theorem lc_least {n : Nat} {cost : Nat → Nat → Int} {C : Nat → Int} {nil : Int} (hn : n ≤ 8) (hfull : C (2 ^ n - 1) = nil) (h : ∀ c, c < 2 ^ n - 1 → LcAt n cost C c) (h0 : nil ≤ C 0) : Least n cost nil (C 0) :=
  ⟨h0, fun u hu => lc_ch hn hfull h hu _ 0 (Nat.two_pow_pos n) (Nat.le_refl _)⟩
theorem w_least {n : Nat} {cost : Nat → Nat → Int} {W : Nat → Int} {nil : Int} (hn : n ≤ 8) (h0 : W 0 = nil) (h : ∀ d, d < 2 ^ n → d ≠ 0 → WAt n cost W d) (h1 : nil ≤ W (2 ^ n - 1)) : Least n cost nil (W (2 ^ n - 1)) :=
  ⟨h1, fun u hu => w_ch hn h0 h hu _ _ (by have := Nat.two_pow_pos n; omega) (Nat.le_refl _)⟩
/-- the costs of a layout: how many nodes are in the front -/
noncomputable def frontN (l : List Ed) (n d : Nat) : Int := ((nw (frontB l n (bitB d)) n).length : Int)
noncomputable def frontC (l : List Ed) (n d x : Nat) : Int := frontN l n (d ||| 2 ^ x)
noncomputable def leastV (n : Nat) (cost : Nat → Nat → Int) (nil : Int) : Int := open Classical in if h : ∃ v, Least n cost nil v then h.choose else 0
theorem Least.is {n : Nat} {cost : Nat → Nat → Int} {nil v : Int} (h : Least n cost nil v) : leastV n cost nil = v := by
  have hex : ∃ v, Least n cost nil v := ⟨v, h⟩
  unfold leastV
  rw [dif_pos hex]
  exact Least.one hex.choose_spec h
end Go.Proofs.Ytbbgbepemnmfdaa.costs
