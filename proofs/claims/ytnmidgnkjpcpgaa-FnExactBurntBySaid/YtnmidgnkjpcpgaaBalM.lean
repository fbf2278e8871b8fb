/- Balls as sets of bits, and far sets: mathematics. -/
import Derived.Test.YtnmidgnkjpcpgaaUpsB
import Derived.Test.YtnmidgnkjpcpgaaBagM
import Derived.Test.YtnmidgnkjpcpgaaDistM
import Derived.Test.YtnmidgnkjpcpgaaDistS
namespace Go.Proofs.Ytnmidgnkjpcpgaa.ups
open Go.RowKit P2 words edges ints good adjs fns sets rets covs bitsI bags
set_option linter.unusedVariables false

/-- the nodes that are at most r steps away -/
def bN (l : List Ed) (n x : Nat) : Nat → Nat
  | 0 => 2 ^ x
  | r + 1 => arN l n (bN l n x r)
def Wk (l : List Ed) (n : Nat) : Nat → Nat → Nat → Prop
  | 0, x, y => x = y
  | r + 1, x, y => ∃ z, z < n ∧ Wk l n r x z ∧ (z = y ∨ adj l z y = true)
theorem bN_iff {l : List Ed} {n x : Nat} (hx : x < n) : ∀ {r y : Nat}, (bN l n x r).testBit y = true ↔ y < n ∧ Wk l n r x y
  | 0, y => by
    unfold bN Wk
    rw [Nat.testBit_two_pow, decide_eq_true_iff]
    exact ⟨fun h => ⟨by omega, h⟩, fun h => h.2⟩
  | r + 1, y => by
    unfold bN Wk arN
    rw [numOf_bit, Bool.and_eq_true, decide_eq_true_iff, arB_iff]
    constructor
    · rintro ⟨h1, z, h2, h3, h4⟩
      exact ⟨h1, z, h2, ((bN_iff hx).1 h3).2, h4⟩
    · rintro ⟨h1, z, h2, h3, h4⟩
      exact ⟨h1, z, h2, (bN_iff hx).2 ⟨h2, h3⟩, h4⟩
theorem Wk.node {l : List Ed} {n : Nat} (hg : P2.Good (n : Int) l) {x : Nat} (hx : x < n) : ∀ {r y : Nat}, Wk l n r x y → y < n
  | 0, y, h => by unfold Wk at h; omega
  | r + 1, y, ⟨z, h1, h2, h3⟩ => by
    rcases h3 with rfl | h3
    · exact h1
    · have := (adj_node hg h3).2; omega
theorem Wk.front {l : List Ed} {n : Nat} (hg : P2.Good (n : Int) l) : ∀ {r x y : Nat}, x < n → (∃ z, z < n ∧ (x = z ∨ adj l x z = true) ∧ Wk l n r z y) → Wk l n (r + 1) x y
  | 0, x, y, hx, ⟨z, h1, h2, h3⟩ => by
    unfold Wk at h3
    subst h3
    exact ⟨x, hx, rfl, h2⟩
  | r + 1, x, y, hx, ⟨z, h1, h2, h3⟩ => by
    obtain ⟨u, h4, h5, h6⟩ := h3
    exact ⟨u, h4, Wk.front hg hx ⟨z, h1, h2, h5⟩, h6⟩
theorem Wk.symm {l : List Ed} {n : Nat} (hg : P2.Good (n : Int) l) : ∀ {r x y : Nat}, x < n → Wk l n r x y → Wk l n r y x
  | 0, x, y, _, h => Eq.symm (show x = y from h)
  | r + 1, x, y, hx, h => by
    have hy := Wk.node hg hx h
    obtain ⟨z, h1, h2, h3⟩ := h
    refine Wk.front hg hy ⟨z, h1, ?_, Wk.symm hg hx h2⟩
    rcases h3 with rfl | h3
    · exact .inl rfl
    · exact .inr (by rw [adj_comm]; exact h3)
/-- the balls are those of the distances -/
theorem wk_dist {l : List Ed} {n x : Nat} (hx : x < n) : ∀ {r y : Nat}, y < n → (Wk l n r x y ↔ 0 ≤ fn (dist n (J2 l) x) y ∧ fn (dist n (J2 l) x) y ≤ (r : Int))
  | 0, y, hy => by
    have hd := (dist_spec (n := n) (J2 l) hx).2
    unfold Wk
    constructor
    · rintro rfl
      rw [hd.at0]; omega
    · intro h
      exact (hd.only y hy (by omega)).symm
  | r + 1, y, hy => by
    have hd := (dist_spec (n := n) (J2 l) hx).2
    unfold Wk
    constructor
    · rintro ⟨z, h1, h2, h3⟩
      have h4 := (wk_dist hx h1).1 h2
      rcases h3 with rfl | h3
      · omega
      · have := hd.step z y h1 hy h4.1 h3; omega
    · intro h
      by_cases e : fn (dist n (J2 l) x) y ≤ (r : Int)
      · exact ⟨y, hy, (wk_dist hx hy).2 ⟨h.1, e⟩, .inl rfl⟩
      · obtain ⟨z, h1, h2, h3⟩ := hd.back y hy (by omega)
        exact ⟨z, h1, (wk_dist hx h1).2 (by omega), .inr h3⟩
theorem bN_lt (l : List Ed) {n x : Nat} (hx : x < n) (hn : n ≤ 8) (r : Nat) : bN l n x r < 256 := by
  cases r with
  | zero =>
    have h1 := Nat.pow_lt_pow_right (show 1 < 2 by decide) (show x < 8 by omega)
    have h2 : 2 ^ 8 = 256 := by decide
    unfold bN; omega
  | succ r => exact numOf_lt _ hn
def balN (l : List Ed) (n r : Nat) : List Nat := (List.range n).map fun x => bN l n x r
theorem bal_len (l : List Ed) (n r : Nat) : (balN l n r).length = n := by simp [balN]
theorem bal_at {l : List Ed} {n r k : Nat} (h : k < n) : (balN l n r)[k]? = some (bN l n k r) := by simp [balN, h]
/-- the first k balls, then what stands there, then noughts -/
def balT (l : List Ed) (n r k : Nat) : List Nat := (List.range k).map (fun x => bN l n x r) ++ List.replicate (n - k) 0
theorem balT_len {l : List Ed} {n r k : Nat} (h : k ≤ n) : (balT l n r k).length = n := by simp [balT]; omega
theorem balT_all (l : List Ed) (n r : Nat) : balT l n r n = balN l n r := by simp [balT, balN]
theorem balT_set {l : List Ed} {n r k : Nat} (h : k < n) (a : Nat) : (balT l n r k).set k (bN l n k r) = balT l n r (k + 1) := by
  unfold balT
  rw [show n - k = (n - (k + 1)) + 1 from by omega, List.replicate_succ, List.set_append_right _ _ (by simp), List.length_map, List.length_range, Nat.sub_self, List.set_cons_zero, List.range_succ, List.map_append, List.append_assoc]
  rfl

/-- no node of a set has another one of them in its ball -/
def farB (l : List Ed) (n r c : Nat) : Bool := !(ndN c).any fun x => !(bN l n x.toNat r &&& c == 2 ^ x.toNat)
def FarP (l : List Ed) (n r c : Nat) : Prop := ∀ x y, x < n → y < x → c.testBit x = true → c.testBit y = true → ¬ Wk l n r x y
theorem Wk.self {l : List Ed} {n : Nat} {x : Nat} (hx : x < n) : ∀ r, Wk l n r x x
  | 0 => rfl
  | r + 1 => ⟨x, hx, Wk.self hx r, .inl rfl⟩
theorem far_iff {l : List Ed} {n r c : Nat} (hg : P2.Good (n : Int) l) (hn : n ≤ 8) (hc : c < 2 ^ n) : farB l n r c = true ↔ FarP l n r c := by
  unfold farB
  rw [Bool.not_eq_true', List.any_eq_false, ← nd_bits hn hc]
  have hbit : ∀ x, c.testBit x = true → x < n := fun x hx => by
    by_cases e : x < n
    · exact e
    · rw [Nat.testBit_lt_two_pow (Nat.lt_of_lt_of_le hc (Nat.pow_le_pow_right (by decide) (by omega)))] at hx
      cases hx
  constructor
  · intro h x y hx hyx hcx hcy hw
    have h1 := h (x : Int) (mem_nw.2 ⟨x, hx, hcx, rfl⟩)
    rw [Int.toNat_natCast] at h1
    have h2 : bN l n x r &&& c = 2 ^ x := by simpa using h1
    have h3 : (bN l n x r &&& c).testBit y = true := by
      rw [Nat.testBit_and, hcy, (bN_iff hx).2 ⟨by omega, hw⟩]; rfl
    rw [h2, Nat.testBit_two_pow, decide_eq_true_iff] at h3
    omega
  · intro h x hx
    obtain ⟨j, hj, hcj, rfl⟩ := mem_nw.1 hx
    have hcj : c.testBit j = true := hcj
    rw [Int.toNat_natCast]
    have : bN l n j r &&& c = 2 ^ j := by
      apply Nat.eq_of_testBit_eq
      intro i
      rw [Nat.testBit_and, Nat.testBit_two_pow, Bool.eq_iff_iff, Bool.and_eq_true, decide_eq_true_iff]
      constructor
      · rintro ⟨h1, h2⟩
        have hi := hbit i h2
        have hw := ((bN_iff hj).1 h1).2
        rcases Nat.lt_trichotomy i j with e | e | e
        · exact absurd hw (h j i hj e hcj h2)
        · exact e.symm
        · exact absurd (Wk.symm hg hj hw) (h i j hi e h2 hcj)
      · rintro rfl
        exact ⟨(bN_iff hj).2 ⟨hj, Wk.self hj r⟩, hcj⟩
    simp [this]
theorem far_zero (l : List Ed) (n r : Nat) : farB l n r 0 = true := by
  unfold farB
  have : ndN 0 = [] := by decide
  rw [this]; rfl
noncomputable def lfN (l : List Ed) (n k : Nat) : Nat := bestC (farB l n (2 * k - 2)) rkMax n
end Go.Proofs.Ytnmidgnkjpcpgaa.ups
