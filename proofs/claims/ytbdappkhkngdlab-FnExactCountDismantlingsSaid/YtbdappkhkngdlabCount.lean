/- The number of dismantlings: plain mathematics, and the contract of the model's CountDismantlings. -/
import Derived.Test.YtbdappkhkngdlabDism
namespace Go.Proofs.Ytbdappkhkngdlab.count
open Go.RowKit P2 words edges ints good near adjs fns sets rets covs balls cors dism
set_option linter.unusedVariables false

/-- the corners of a set of digits -/
def cors (l : List Ed) (n c : Nat) : List Int := nw (cornerB l n c) n
def ini (n c : Nat) : Int := if (nw (bitB c) n).length = 1 then 1 else 0
def addF (L : List Int) (c : Nat) (a x : Int) : Int := a + L.getD (clr c x.toNat) 0
def pf (l : List Ed) (n : Nat) (L : List Int) (c j : Nat) : Int := ((cors l n c).take j).foldl (addF L c) (ini n c)
def next (l : List Ed) (n : Nat) (L : List Int) (c : Nat) : Int := pf l n L c (cors l n c).length
def cl (l : List Ed) (n : Nat) : Nat → List Int
  | 0 => []
  | k + 1 => cl l n k ++ [next l n (cl l n k) k]
theorem cl_len (l : List Ed) (n k : Nat) : (cl l n k).length = k := by
  induction k with
  | zero => rfl
  | succ k ih => rw [cl, List.length_append, ih]; rfl
theorem pf_zero (l : List Ed) (n : Nat) (L : List Int) (c : Nat) : pf l n L c 0 = ini n c := by simp [pf]
theorem pf_succ {l : List Ed} {n : Nat} {L : List Int} {c j : Nat} {x : Int} (h : (cors l n c)[j]? = some x) : pf l n L c (j + 1) = pf l n L c j + L.getD (clr c x.toNat) 0 := by
  unfold pf
  rw [List.take_add_one, h, List.foldl_append]; rfl
theorem cors_len (l : List Ed) (n c : Nat) : (cors l n c).length ≤ n := nw_len _ _
theorem cors_mem {l : List Ed} {n c : Nat} {x : Int} (h : x ∈ cors l n c) : ∃ z : Nat, x = (z : Int) ∧ z < n ∧ c.testBit z = true := by
  obtain ⟨z, hz, hc, rfl⟩ := mem_nw.1 h
  unfold cornerB at hc
  exact ⟨z, rfl, hz, (Bool.and_eq_true_iff.1 hc).1⟩
/-- a digit less -/
def sz (c : Nat) : Nat := (nw (bitB c) 8).length
theorem sz_le (c : Nat) : sz c ≤ 8 := nw_len _ _
theorem clr_but {c z : Nat} (hc : c < 256) : nw (bitB (clr c z)) 8 = but (nw (bitB c) 8) (z : Int) := by
  symm
  refine asc_nw (List.Pairwise.filter _ (nw_asc _ _)) (fun y hy => ?_) fun k hk => ?_
  · obtain ⟨i, hi, _, rfl⟩ := mem_nw.1 (List.mem_filter.1 hy).1
    omega
  · unfold but
    rw [List.mem_filter, mem_nw]
    unfold bitB
    rw [clr_bit hc]
    simp only [Bool.and_eq_true, bne_iff_ne, ne_eq]
    constructor
    · rintro ⟨h1, h2⟩; exact ⟨⟨k, hk, h1, rfl⟩, by omega⟩
    · rintro ⟨⟨i, _, h1, e⟩, h2⟩
      obtain rfl : k = i := by omega
      exact ⟨h1, by omega⟩
theorem sz_clr {c z : Nat} (hc : c < 256) (hz : z < 8) (hb : c.testBit z = true) : sz (clr c z) < sz c := by
  unfold sz
  rw [clr_but hc]
  unfold but
  rw [List.length_filter_lt_length_iff_exists]
  exact ⟨(z : Int), mem_nw.2 ⟨z, hz, hb, rfl⟩, by simp⟩
theorem clr_lt' {c z : Nat} (hc : c < 256) (hb : c.testBit z = true) : clr c z < c := by
  have hne : clr c z ≠ c := fun e => by
    have := clr_bit hc z z
    rw [e, hb] at this; simp at this
  have hle : clr c z ≤ c := by
    have e : clr c z = clr c z &&& c := by
      apply Nat.eq_of_testBit_eq
      intro i
      rw [Nat.testBit_and, clr_bit hc]
      cases c.testBit i <;> simp
    rw [e]; exact Nat.and_le_right
  omega
theorem fold_le {L : List Int} {c : Nat} {M : Int} (hM : 0 ≤ M) : ∀ (xs : List Int) (a : Int), 0 ≤ a → (∀ x ∈ xs, 0 ≤ L.getD (clr c x.toNat) 0 ∧ L.getD (clr c x.toNat) 0 ≤ M) → 0 ≤ xs.foldl (addF L c) a ∧ xs.foldl (addF L c) a ≤ a + xs.length * M
  | [], a, ha, _ => by simp [ha]
  | x :: xs, a, ha, h => by
    have h1 := h x (by simp)
    have ih := fold_le hM xs (addF L c a x) (by unfold addF; omega) (fun y hy => h y (by simp [hy]))
    rw [List.foldl_cons]
    refine ⟨ih.1, Int.le_trans ih.2 ?_⟩
    unfold addF
    rw [List.length_cons, Int.natCast_succ, Int.add_mul]
    omega
theorem ini_le (n c : Nat) : 0 ≤ ini n c ∧ ini n c ≤ 1 := by unfold ini; split <;> omega
theorem pow9 {s : Nat} (h : s ≤ 8) : ((9 : Int) ^ s) ≤ 43046721 := by
  have : (9 : Nat) ^ s ≤ 9 ^ 8 := Nat.pow_le_pow_right (by decide) h
  have e : ((9 : Int) ^ s) = ((9 ^ s : Nat) : Int) := by simp
  rw [e]; have h2 : (9 : Nat) ^ 8 = 43046721 := by decide
  omega
theorem cl_bound {l : List Ed} {n : Nat} (hn : n ≤ 8) : ∀ k, k ≤ 256 → ∀ c, c < k → 0 ≤ (cl l n k).getD c 0 ∧ (cl l n k).getD c 0 ≤ 9 ^ sz c
  | 0, _, c, hc => by omega
  | k + 1, hk, c, hc => by
    have ih := cl_bound (l := l) hn k (by omega)
    by_cases e : c = k
    · subst e
      have hat : (cl l n (c + 1)).getD c 0 = next l n (cl l n c) c := by
        rw [cl, List.getD_eq_getElem?_getD, List.getElem?_append_right (by rw [cl_len]; exact Nat.le_refl _), cl_len, Nat.sub_self]; rfl
      rw [hat]
      unfold next pf
      rw [List.take_length]
      have hi := ini_le n c
      have hx : ∀ x ∈ cors l n c, 0 ≤ (cl l n c).getD (clr c x.toNat) 0 ∧ (cl l n c).getD (clr c x.toNat) 0 ≤ 9 ^ (sz c - 1) := fun x hx => by
        obtain ⟨z, rfl, hz, hb⟩ := cors_mem hx
        rw [Int.toNat_natCast]
        have h1 := ih (clr c z) (clr_lt' (by omega) hb)
        have h2 := sz_clr (by omega) (by omega) hb
        have h3 : (9 : Nat) ^ sz (clr c z) ≤ 9 ^ (sz c - 1) := Nat.pow_le_pow_right (by decide) (by omega)
        have h4 : ((9 : Int) ^ sz (clr c z)) = ((9 ^ sz (clr c z) : Nat) : Int) := by simp
        have h5 : ((9 : Int) ^ (sz c - 1)) = ((9 ^ (sz c - 1) : Nat) : Int) := by simp
        rw [h4] at h1
        rw [h5]
        omega
      have h9 : (0 : Int) ≤ 9 ^ (sz c - 1) := by
        have h5 : ((9 : Int) ^ (sz c - 1)) = ((9 ^ (sz c - 1) : Nat) : Int) := by simp
        rw [h5]; exact Int.natCast_nonneg _
      have hf := fold_le h9 (cors l n c) (ini n c) hi.1 hx
      refine ⟨hf.1, Int.le_trans hf.2 ?_⟩
      have hlen := cors_len l n c
      rcases Nat.eq_zero_or_pos (cors l n c).length with h0 | h0
      · rw [h0]
        have h5 : ((9 : Int) ^ sz c) = ((9 ^ sz c : Nat) : Int) := by simp
        have h6 : 1 ≤ 9 ^ sz c := Nat.one_le_pow _ _ (by decide)
        rw [h5]
        omega
      · obtain ⟨x, hxm⟩ : ∃ x, x ∈ cors l n c := List.exists_mem_of_length_pos h0
        obtain ⟨z, rfl, hz, hb⟩ := cors_mem hxm
        have h2 := sz_clr (c := c) (z := z) (by omega) (by omega) hb
        have h5 : ((9 : Int) ^ sz c) = 9 * 9 ^ (sz c - 1) := by
          have : sz c = (sz c - 1) + 1 := by omega
          rw [this, Int.pow_succ, Nat.add_sub_cancel, Int.mul_comm]
        rw [h5]
        have h7 : (1 : Int) ≤ 9 ^ (sz c - 1) := by
          have h5 : ((9 : Int) ^ (sz c - 1)) = ((9 ^ (sz c - 1) : Nat) : Int) := by simp
          have h6 : 1 ≤ 9 ^ (sz c - 1) := Nat.one_le_pow _ _ (by decide)
          rw [h5]; omega
        have h8 : ((cors l n c).length : Int) * 9 ^ (sz c - 1) ≤ 8 * 9 ^ (sz c - 1) := Int.mul_le_mul_of_nonneg_right (by omega) h9
        omega
    · have := ih c (by omega)
      rw [cl, List.getD_eq_getElem?_getD, List.getElem?_append_left (by rw [cl_len]; omega), ← List.getD_eq_getElem?_getD]
      exact this
theorem cl_small {l : List Ed} {n k c : Nat} (hn : n ≤ 8) (hk : k ≤ 256) (hc : c < k) : 0 ≤ (cl l n k).getD c 0 ∧ (cl l n k).getD c 0 ≤ 43046721 := by
  have := cl_bound (l := l) hn k hk c hc
  have := pow9 (sz_le c)
  omega
theorem pf_small {l : List Ed} {n c j : Nat} (hn : n ≤ 8) (hc : c < 256) : 0 ≤ pf l n (cl l n c) c j ∧ pf l n (cl l n c) c j ≤ 400000000 := by
  have hi := ini_le n c
  have hf := fold_le (L := cl l n c) (c := c) (M := 43046721) (by decide) ((cors l n c).take j) (ini n c) hi.1 (fun x hx => by
    obtain ⟨z, rfl, hz, hb⟩ := cors_mem (List.mem_of_mem_take hx)
    rw [Int.toNat_natCast]
    exact cl_small hn (by omega) (clr_lt' (by omega) hb))
  refine ⟨hf.1, Int.le_trans hf.2 ?_⟩
  have h1 : ((cors l n c).take j).length ≤ 8 := by
    rw [List.length_take]; have := cors_len l n c; omega
  have h2 : (((cors l n c).take j).length : Int) * 43046721 ≤ 8 * 43046721 := Int.mul_le_mul_of_nonneg_right (by omega) (by decide)
  omega
theorem cl_one (l : List Ed) (n : Nat) : cl l n 1 = [0] := by
  have hz : ∀ m, nw (bitB 0) m = [] := fun m => by
    rw [List.eq_nil_iff_forall_not_mem]
    intro e he
    obtain ⟨k, _, hk, _⟩ := mem_nw.1 he
    simp [bitB] at hk
  have hc : cors l n 0 = [] := by
    rw [List.eq_nil_iff_forall_not_mem]
    intro e he
    obtain ⟨z, _, _, hb⟩ := cors_mem he
    simp at hb
  show [] ++ [next l n [] 0] = [0]
  unfold next pf
  rw [hc]
  simp [ini, hz]
theorem clr_fin : ∀ c : Fin 256, ∀ z : Fin 8, c.val.testBit z.val = true → clr c.val z.val = c.val - 2 ^ z.val ∧ 2 ^ z.val ≤ c.val := by decide +kernel
theorem clr_sub {c z : Nat} (hc : c < 256) (hz : z < 8) (hb : c.testBit z = true) : clr c z = c - 2 ^ z ∧ 2 ^ z ≤ c := clr_fin ⟨c, hc⟩ ⟨z, hz⟩ hb
noncomputable def cntV (s : Int) (l : List Ed) : Int := szG (SomeP s l) ((cl l s.toNat (2 ^ s.toNat)).getD (2 ^ s.toNat - 1) 0)
end Go.Proofs.Ytbdappkhkngdlab.count
