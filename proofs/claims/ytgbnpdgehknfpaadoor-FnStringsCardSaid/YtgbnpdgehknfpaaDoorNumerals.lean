/- Plain mathematics of decimals: a numeral is read back as its number; what a text spells. It imports nothing of the program. -/
import Derived.Lib.ItoaNum
import Derived.Lib.ItoaMem
import Derived.Lib.Atoi
import Derived.Lib.AtoiAllCases
import Derived.Lib.AtoiTie
namespace Go.Proofs.YtgbnpdgehknfpaaDoor.P2
open Go Go.Lib

theorem decDigits_big (u : Nat) (h : ¬ u < 10) : decDigits u = decDigits (u / 10) ++ [UInt8.ofNat (48 + u % 10)] := by
  rw [decDigits, dif_neg h]

theorem decFrom_append (l : List UInt8) : ∀ (acc : Nat) (c : UInt8), decFrom acc (l ++ [c]) = (decFrom acc l).bind fun a => (digitVal c).map fun d => a * 10 + d := by
  induction l with
  | nil =>
    intro acc c
    simp only [List.nil_append, decFrom]
    cases h : digitVal c <;> simp
  | cons b r ih =>
    intro acc c
    simp only [List.cons_append, decFrom]
    cases h : digitVal b with
    | none => simp
    | some d => simp [ih]

theorem digitVal_of (d : Nat) (h : d < 10) : digitVal (UInt8.ofNat (48 + d)) = some d := by
  have e : (UInt8.ofNat (48 + d)).toNat = 48 + d := by
    rw [UInt8.toNat_ofNat']
    omega
  unfold digitVal
  rw [e, if_pos (by omega)]
  congr 1
  omega

theorem decFrom_decDigits (u : Nat) : decFrom 0 (decDigits u) = some u := by
  induction u using Nat.strongRecOn with
  | _ u ih =>
    by_cases h : u < 10
    · rw [decDigits_one h]
      simp only [decFrom, digitVal_of u h]
      simp
    · rw [decDigits_big u h, decFrom_append, ih (u / 10) (by omega), digitVal_of (u % 10) (by omega)]
      simp
      omega

theorem nDigits_le (k : Nat) : ∀ u : Nat, u < 10 ^ (k + 1) → nDigits u ≤ k + 1 := by
  induction k with
  | zero => intro u h; rw [nDigits_small (by simpa using h)]; omega
  | succ k ih =>
    intro u h
    by_cases h10 : u < 10
    · rw [nDigits_small h10]; omega
    · rw [nDigits_big h10]
      have := ih (u / 10) (by rw [Nat.pow_succ] at h; omega)
      omega

theorem decDigits_len (u : Nat) (h : u ≤ 999999) : 1 ≤ (decDigits u).length ∧ (decDigits u).length ≤ 6 := by
  rw [decDigits_length]
  exact ⟨nDigits_pos u, nDigits_le 5 u (by omega)⟩

theorem decDigits_digit (u : Nat) (c : UInt8) (h : c ∈ decDigits u) : 48 ≤ c.toNat ∧ c.toNat ≤ 57 := by
  obtain ⟨k, hk⟩ := List.getElem?_of_mem h
  obtain ⟨d, hd⟩ := digit_of_decFrom _ _ _ (decFrom_decDigits u) k c hk
  have := digitVal_eq hd
  omega

/-- a numeral is read back -/
theorem atoiAll_itoa (n : Int) (h0 : -999999 ≤ n) (h1 : n ≤ 999999) : atoiAll (itoa n) = .ok n := by
  by_cases hn : n < 0
  · obtain ⟨u, rfl⟩ : ∃ u : Nat, n = -(u : Int) := ⟨n.natAbs, by omega⟩
    have hl := decDigits_len u (by omega)
    rw [itoa_neg u (by omega), atoiAll_minus, signed_short (by omega)]
    unfold decNat
    rw [if_neg (by simp; intro e; simp [e] at hl), decFrom_decDigits]
    rfl
  · obtain ⟨u, rfl⟩ : ∃ u : Nat, n = (u : Int) := ⟨n.toNat, by omega⟩
    have hl := decDigits_len u (by omega)
    rw [itoa_nonneg]
    cases hd : decDigits u with
    | nil => rw [hd] at hl; simp at hl
    | cons c r =>
      have hc := decDigits_digit u c (by rw [hd]; simp)
      rw [atoiAll_plain c r (by omega) (by omega), signless_short (by rw [← hd]; omega)]
      unfold decNat
      rw [if_neg (by simp), ← hd, decFrom_decDigits]
      rfl

/-- what a text spells: the number within the bounds whose numeral it is -/
def Spells (l : List UInt8) (n : Int) : Prop := -999999 ≤ n ∧ n ≤ 999999 ∧ itoa n = l
theorem Spells.eq {l : List UInt8} {n m : Int} (h : Spells l n) (k : Spells l m) : n = m := by
  have h1 := atoiAll_itoa n h.1 h.2.1
  have h2 := atoiAll_itoa m k.1 k.2.1
  rw [h.2.2] at h1
  rw [k.2.2, h1] at h2
  injection h2
theorem Spells.atoi {l : List UInt8} {n : Int} (h : Spells l n) : atoiAll l = .ok n := by
  rw [← h.2.2]; exact atoiAll_itoa n h.1 h.2.1

/-- whether a text has a minus ahead of something, and what stands behind it -/
def minusB (s : ByteArray) : Bool := decide (1 < s.size) && (s.data.toList.head? == some 45)
def tailOf (s : ByteArray) : ByteArray := if minusB s then s.extract 1 s.size else s

theorem minusB_no1 (s : ByteArray) (h : ¬ 1 < s.size) : minusB s = false := by simp [minusB, h]
theorem head_eq (s : ByteArray) (h : 0 < s.size) : s.data.toList.head? = some (s[0]'h) := by
  obtain ⟨⟨l⟩⟩ := s
  cases l with
  | nil => exact absurd h (by show ¬ (0 : Nat) < 0; omega)
  | cons c r => rfl
theorem minusB_no2 (s : ByteArray) (h : 0 < s.size) (hc : s[0]'h ≠ 45) : minusB s = false := by
  simp [minusB, head_eq s h, hc]
theorem minusB_yes (s : ByteArray) (h : 1 < s.size) (hc : s[0]'(by omega) = 45) : minusB s = true := by
  simp [minusB, head_eq s (by omega), hc, h]
theorem tailOf_no (s : ByteArray) (h : minusB s = false) : tailOf s = s := by simp [tailOf, h]
theorem tailOf_yes (s : ByteArray) (h : minusB s = true) : tailOf s = s.extract 1 s.size := by simp [tailOf, h]
theorem size_list (s : ByteArray) : s.size = s.data.toList.length := Array.length_toList.symm
theorem tail_size_yes (s : ByteArray) (h : minusB s = true) : (tailOf s).size + 1 = s.size := by
  rw [tailOf_yes s h, ByteArray.size_extract]
  simp [minusB] at h
  omega
theorem tail_size_no (s : ByteArray) (h : minusB s = false) : (tailOf s).size = s.size := by rw [tailOf_no s h]

/-- of a text that spells a number: its tail is the digits, its sign the minus -/
theorem spells_tail {s : ByteArray} {n : Int} (h : Spells s.data.toList n) : ∃ u : Nat, u ≤ 999999 ∧ (tailOf s).data.toList = decDigits u ∧ ((minusB s = true ∧ n = -(u : Int)) ∨ (minusB s = false ∧ n = (u : Int))) := by
  obtain ⟨h0, h1, h2⟩ := h
  by_cases hn : n < 0
  · obtain ⟨u, rfl⟩ : ∃ u : Nat, n = -(u : Int) := ⟨n.natAbs, by omega⟩
    rw [itoa_neg u (by omega)] at h2
    have hl := decDigits_len u (by omega)
    have hs : s.size = (decDigits u).length + 1 := by rw [size_list, ← h2, List.length_cons]
    have hm : minusB s = true := by
      unfold minusB
      rw [← h2, decide_eq_true (by omega)]
      rfl
    refine ⟨u, by omega, ?_, .inl ⟨hm, rfl⟩⟩
    rw [tailOf_yes s hm, ByteArray.data_extract, Array.toList_extract, ← h2]
    simp [List.extract]
    rw [hs]; simp
  · obtain ⟨u, rfl⟩ : ∃ u : Nat, n = (u : Int) := ⟨n.toNat, by omega⟩
    rw [itoa_nonneg] at h2
    have hl := decDigits_len u (by omega)
    have hm : minusB s = false := by
      cases hd : decDigits u with
      | nil => rw [hd] at hl; simp at hl
      | cons c r =>
        have hc := decDigits_digit u c (by rw [hd]; simp)
        have : c ≠ 45 := by intro e; subst e; have e2 : (45 : UInt8).toNat = 45 := rfl; omega
        simp [minusB, ← h2, hd, this]
    exact ⟨u, by omega, by rw [tailOf_no s hm, h2], .inr ⟨hm, rfl⟩⟩
end Go.Proofs.YtgbnpdgehknfpaaDoor.P2
