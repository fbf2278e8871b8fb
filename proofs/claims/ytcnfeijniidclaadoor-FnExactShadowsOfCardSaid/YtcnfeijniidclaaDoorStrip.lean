/- The stripping: plain mathematics. -/
import Derived.Test.YtcnfeijniidclaaDoorDism
import Derived.Lib.TrailingZeros
namespace Go.Proofs.YtcnfeijniidclaaDoor.strip
open Go.RowKit P2 words edges fns sets covs dism
set_option linter.unusedVariables false

/-- the first number of a list -/
def hd (L : List Int) : Int := L.headD 0
/-- the sets that the stripping comes through, the nodes that it takes, and their covers -/
def sB (l : List Ed) (n : Nat) : Nat → Nat
  | 0 => 2 ^ n - 1
  | k + 1 => clr (sB l n k) (hd (nw (cornerB l n (sB l n k)) n)).toNat
def sX (l : List Ed) (n k : Nat) : Int := hd (nw (cornerB l n (sB l n k)) n)
def sY (l : List Ed) (n k : Nat) : Int := hd (nw (coverB l (sB l n k) (sX l n k).toNat) n)
def sL (l : List Ed) (n k : Nat) : List Ed := (List.range k).map fun j => (sX l n j, sY l n j)
theorem sL_len (l : List Ed) (n k : Nat) : (sL l n k).length = k := by simp [sL]
theorem sL_succ (l : List Ed) (n k : Nat) : sL l n (k + 1) = sL l n k ++ [(sX l n k, sY l n k)] := by unfold sL; rw [List.range_succ, List.map_append]; rfl
theorem sB_succ (l : List Ed) (n k : Nat) : sB l n (k + 1) = clr (sB l n k) (sX l n k).toNat := rfl
theorem sB_lt {l : List Ed} {n : Nat} (hn : n ≤ 8) (k : Nat) : sB l n k < 256 := by
  cases k with
  | zero => exact pow_lt hn
  | succ k => exact clr_lt _ _
theorem sB_bit {l : List Ed} {n : Nat} (hn : n ≤ 8) : ∀ k i, (sB l n k).testBit i = true → i < n
  | 0, i, h => by
    unfold sB at h
    rw [Nat.testBit_two_pow_sub_one] at h
    simpa using h
  | k + 1, i, h => by
    rw [sB_succ, clr_bit (sB_lt hn k)] at h
    exact sB_bit hn k i (Bool.and_eq_true_iff.1 h).1
theorem sB_code {l : List Ed} {n : Nat} (hn : n ≤ 8) (k : Nat) : codeL (nw (bitB (sB l n k)) n) = sB l n k := code_nw (sB_bit hn k)
/-- there is a corner -/
def More (l : List Ed) (n k : Nat) : Prop := cornersN l n (sB l n k) ≠ 0
theorem hd_mem {p : Nat → Bool} {n : Nat} (h : numOf p n ≠ 0) : ∃ z : Nat, hd (nw p n) = (z : Int) ∧ z < n ∧ p z = true ∧ (nw p n)[0]? = some (z : Int) := by
  cases hl : nw p n with
  | nil =>
    exfalso
    apply h
    rw [numOf_zero]
    intro k hk
    cases hp : p k with
    | false => rfl
    | true =>
      have := mem_nw.2 ⟨k, hk, hp, rfl⟩
      rw [hl] at this; cases this
  | cons a t =>
    obtain ⟨z, hz, hp, rfl⟩ := mem_nw.1 (show a ∈ nw p n by rw [hl]; simp)
    exact ⟨z, rfl, hz, hp, rfl⟩
theorem more_x {l : List Ed} {n k : Nat} (h : More l n k) : ∃ z : Nat, sX l n k = (z : Int) ∧ z < n ∧ (sB l n k).testBit z = true ∧ coversN l n (sB l n k) z ≠ 0 ∧ (nw (cornerB l n (sB l n k)) n)[0]? = some (z : Int) := by
  obtain ⟨z, h1, h2, h3, h4⟩ := hd_mem h
  unfold cornerB at h3
  have h5 := Bool.and_eq_true_iff.1 h3
  exact ⟨z, h1, h2, h5.1, by simpa using h5.2, h4⟩
theorem more_y {l : List Ed} {n k : Nat} (h : More l n k) : ∃ z : Nat, sY l n k = (z : Int) ∧ z < n ∧ coverB l (sB l n k) (sX l n k).toNat z = true := by
  obtain ⟨x, h1, h2, h3, h4, h5⟩ := more_x h
  obtain ⟨z, e1, e2, e3, e4⟩ := hd_mem (p := coverB l (sB l n k) x) (n := n) h4
  refine ⟨z, ?_, e2, ?_⟩
  · unfold sY; rw [h1, Int.toNat_natCast]; exact e1
  · rw [h1, Int.toNat_natCast]; exact e3
/-- the least digit is the first node of the set -/
theorem ctz_fin : ∀ c : Fin 256, c.val ≠ 0 → ((Lib.ctz 64 c.val : Nat) : Int) = (nw (bitB c.val) 8).headD 0 := by decide +kernel
theorem ctz_hd {c : Nat} (hc : c < 256) (h0 : c ≠ 0) : ((Lib.ctz 64 c : Nat) : Int) = hd (nw (bitB c) 8) := ctz_fin ⟨c, hc⟩ h0
theorem ctz_num {p : Nat → Bool} {n : Nat} (hn : n ≤ 8) (h0 : numOf p n ≠ 0) : ((Lib.ctz 64 (numOf p n) : Nat) : Int) = hd (nw p n) := by
  rw [ctz_hd (numOf_lt p hn) h0, nodes_num hn]
theorem ctz_x {l : List Ed} {n k : Nat} (hn : n ≤ 8) (h : More l n k) : ((Lib.ctz 64 (cornersN l n (sB l n k)) : Nat) : Int) = sX l n k := ctz_num hn h
theorem ctz_y {l : List Ed} {n k : Nat} (hn : n ≤ 8) (h : More l n k) : ((Lib.ctz 64 (coversN l n (sB l n k) (sX l n k).toNat) : Nat) : Int) = sY l n k := by
  obtain ⟨x, h1, h2, h3, h4, h5⟩ := more_x h
  unfold sY
  rw [h1, Int.toNat_natCast]
  exact ctz_num hn h4
/-- the model's least cover is it too -/
theorem find_hd {p : Int → Bool} {xs : List Int} {q : Nat → Bool} {n : Nat} (ha : Asc xs) (hx : ∀ x ∈ xs, 0 ≤ x ∧ x < (n : Int)) (hq : ∀ k : Nat, k < n → (q k = true ↔ (k : Int) ∈ xs ∧ p (k : Int) = true)) (h0 : numOf q n ≠ 0) :
    xs.find? p = some (hd (nw q n)) := by
  have e : xs.filter p = nw q n := asc_nw (List.Pairwise.filter _ ha) (fun x h => hx x (List.mem_filter.1 h).1) fun k hk => by rw [List.mem_filter]; exact hq k hk
  rw [← List.head?_filter, e]
  obtain ⟨z, h1, _, _, h4⟩ := hd_mem h0
  rw [h1, List.head?_eq_getElem?, h4]
theorem least_y {l : List Ed} {n k : Nat} (hg : P2.Good n l) (hn : n ≤ 8) (h : More l n k) : leastS n l (nw (bitB (sB l n k)) n) (sX l n k) = sY l n k := by
  have hin : ∀ y ∈ nw (bitB (sB l n k)) n, 0 ≤ y ∧ y < (n : Int) := fun y hy => by obtain ⟨i, hi, _, rfl⟩ := mem_nw.1 hy; omega
  obtain ⟨x, h1, h2, h3, h4, h5⟩ := more_x h
  unfold leastS sY
  rw [h1, Int.toNat_natCast, find_hd (q := coverB l (sB l n k) x) (nw_asc _ _) hin (fun j hj => ?_) h4]
  · rfl
  · rw [coverS_eq hg hin, sB_code hn k]
    constructor
    · intro hc
      exact ⟨mem_nw.2 ⟨j, hj, ((coverB_iff hg).1 hc).2.1, rfl⟩, hc⟩
    · exact fun hc => hc.2
theorem sB_but {l : List Ed} {n k : Nat} (hn : n ≤ 8) (h : More l n k) : but (nw (bitB (sB l n k)) n) (sX l n k) = nw (bitB (sB l n (k + 1))) n := by
  obtain ⟨x, h1, _⟩ := more_x h
  rw [sB_succ, h1, Int.toNat_natCast]
  refine asc_nw (List.Pairwise.filter _ (nw_asc _ _)) (fun y hy => ?_) fun i hi => ?_
  · obtain ⟨i, hi, _, rfl⟩ := mem_nw.1 (List.mem_filter.1 hy).1
    omega
  · unfold but
    rw [List.mem_filter, mem_nw]
    unfold bitB
    rw [clr_bit (sB_lt hn k)]
    simp only [Bool.and_eq_true, bne_iff_ne, ne_eq]
    constructor
    · rintro ⟨a, b⟩; exact ⟨⟨i, hi, a, rfl⟩, by omega⟩
    · rintro ⟨⟨j, _, a, e⟩, b⟩
      obtain rfl : i = j := by omega
      exact ⟨a, by omega⟩
/-- how often it takes a node away -/
def szn (n B : Nat) : Nat := (nw (bitB B) n).length
theorem szn_less {l : List Ed} {n k : Nat} (hn : n ≤ 8) (h : More l n k) : szn n (sB l n (k + 1)) < szn n (sB l n k) := by
  obtain ⟨x, h1, h2, h3, _⟩ := more_x h
  unfold szn
  rw [← sB_but hn h]
  unfold but
  rw [List.length_filter_lt_length_iff_exists]
  exact ⟨(x : Int), mem_nw.2 ⟨x, h2, h3, rfl⟩, by rw [h1]; simp⟩
theorem szn_le (n B : Nat) : szn n B ≤ n := nw_len _ _
theorem szn_sum {l : List Ed} {n : Nat} (hn : n ≤ 8) : ∀ k, (∀ j, j < k → More l n j) → szn n (sB l n k) + k ≤ n
  | 0, _ => by have := szn_le n (sB l n 0); omega
  | k + 1, h => by
    have ih := szn_sum hn k (fun j hj => h j (by omega))
    have := szn_less hn (h k (by omega))
    omega
noncomputable def kL (l : List Ed) (n : Nat) : Nat := ((List.range 9).find? fun k => cornersN l n (sB l n k) == 0).getD 0
theorem kL_eq {l : List Ed} {n k : Nat} (hn : n ≤ 8) (h : ∀ j, j < k → More l n j) (h0 : cornersN l n (sB l n k) = 0) : kL l n = k := by
  have hk := szn_sum hn k h
  unfold kL
  have : (List.range 9).find? (fun k => cornersN l n (sB l n k) == 0) = some k := by
    rw [List.find?_range_eq_some]
    exact ⟨by simp [h0], List.mem_range.2 (by omega), fun j hj => by have := h j hj; unfold More at this; simp [this]⟩
  rw [this]; rfl
/-- the stripping, and the core -/
noncomputable def stripL (l : List Ed) (n : Nat) : List Ed := sL l n (kL l n)
noncomputable def coreB (l : List Ed) (n : Nat) : Nat := sB l n (kL l n)
end Go.Proofs.YtcnfeijniidclaaDoor.strip
