/- The pathwidth: plain mathematics. -/
import Derived.Test.YtbbgbepemnmfdaaCostI
import Derived.Test.YtbbgbepemnmfdaaFrontI
namespace Go.Proofs.Ytbbgbepemnmfdaa.costs
open Go.RowKit P2 words edges ints good adjs fns sets rets covs reach bags bitsI fronts
set_option linter.unusedVariables false

theorem frontC_le (l : List Ed) (n : Nat) (hn : n ≤ 8) (g x : Nat) : frontC l n g x ≤ 100 := by
  unfold frontC frontN
  have := nw_len (frontB l n (bitB (g ||| 2 ^ x))) n
  omega
theorem frontC_pos (l : List Ed) (n g x : Nat) : 0 ≤ frontC l n g x := by unfold frontC frontN; omega
theorem num_code {n g : Nat} (hg : g < 2 ^ n) : numOf (bitB g) n = g := by
  apply Nat.eq_of_testBit_eq
  intro i
  rw [numOf_bit]
  unfold bitB
  by_cases hi : i < n
  · simp [hi]
  · simp only [hi, decide_false, Bool.false_and]
    exact (Nat.testBit_lt_two_pow (Nat.lt_of_lt_of_le hg (Nat.pow_le_pow_right (by decide) (by omega)))).symm
theorem put_code (g x z : Nat) : pput (bitB g) x z = bitB (g ||| 2 ^ x) z := by
  unfold pput bitB
  rw [Nat.testBit_or, Nat.testBit_two_pow]
  by_cases h : z = x
  · subst h; simp
  · have h2 : ¬ x = z := fun e => h e.symm
    simp [h, h2]
theorem front_put (l : List Ed) (n g x : Nat) : ((nw (frontB l n (pput (bitB g) x)) n).length : Int) = frontC l n g x := by
  unfold frontC frontN
  rw [reach.nw_congr fun z hz => frontB_congr (fun y hy => put_code g x y) hz]
theorem LcUp.pos {n : Nat} {cost : Nat → Nat → Int} {C : Nat → Int} (hn : n ≤ 8) (h : LcUp n cost 0 0 C) (hc : ∀ g x, 0 ≤ cost g x) : 0 ≤ C 0 := by
  by_cases e : 2 ^ n - 1 = 0
  · have := h.1; rw [e] at this; omega
  · obtain ⟨⟨x, _, _, hC⟩, _⟩ := h.2.1 0 (by omega) (by omega)
    have := hc 0 x
    omega
noncomputable def pwV (s : Int) (l : List Ed) : Int := leastV s.toNat (frontC l s.toNat) 0
theorem pw_lc {n : Nat} {l : List Ed} {C : Nat → Int} (hn : n ≤ 8) (h : LcUp n (frontC l n) 0 0 C) : pwV (n : Int) l = C 0 := by
  have e : pwV (n : Int) l = leastV n (frontC l n) 0 := rfl
  rw [e]
  exact Least.is (lc_least hn h.1 (fun c hc => h.2.1 c (by omega) hc) (h.pos hn (frontC_pos l n)))

/-- the model's table: the least separations of the sets below a number -/
def WUp (n : Nat) (cost : Nat → Nat → Int) (k : Nat) (W : Nat → Int) : Prop :=
  W 0 = 0 ∧ (∀ d, d < k → d ≠ 0 → WAt n cost W d) ∧ ∀ d, d < k → 0 ≤ W d ∧ W d ≤ 100
/-- the least of those below a set, so far -/
def BtAt (n : Nat) (W : Nat → Int) (d x : Nat) (b : Int) : Prop :=
  (b = -1 ∧ (∀ y, y < x → d.testBit y = false)) ∨ ((∃ y, y < x ∧ y < n ∧ d.testBit y = true ∧ b = W (d - 2 ^ y)) ∧ ∀ y, y < x → d.testBit y = true → b ≤ W (d - 2 ^ y))
theorem BtAt.start (n : Nat) (W : Nat → Int) (d : Nat) : BtAt n W d 0 (-1) := .inl ⟨rfl, fun y h => by omega⟩
theorem BtAt.skip {n : Nat} {W : Nat → Int} {d x : Nat} {b : Int} (h : BtAt n W d x b) (hb : d.testBit x = false) : BtAt n W d (x + 1) b := by
  rcases h with ⟨h1, h2⟩ | ⟨⟨y, h1, h2⟩, h3⟩
  · refine .inl ⟨h1, fun y hy => ?_⟩
    by_cases e : y = x
    · subst e; exact hb
    · exact h2 y (by omega)
  · refine .inr ⟨⟨y, by omega, h2⟩, fun z hz hzb => ?_⟩
    by_cases e : z = x
    · subst e; rw [hb] at hzb; cases hzb
    · exact h3 z (by omega) hzb
/-- it is less, or the first one -/
theorem BtAt.take {n : Nat} {W : Nat → Int} {d x : Nat} {b : Int} (h : BtAt n W d x b) (hx : x < n) (hb : d.testBit x = true) (hl : b < 0 ∨ W (d - 2 ^ x) < b) (hp : ∀ y, d.testBit y = true → y < n → 0 ≤ W (d - 2 ^ y)) : BtAt n W d (x + 1) (W (d - 2 ^ x)) := by
  refine .inr ⟨⟨x, by omega, hx, hb, rfl⟩, fun z hz hzb => ?_⟩
  by_cases e : z = x
  · subst e; exact Int.le_refl _
  · rcases h with ⟨_, h2⟩ | ⟨⟨y, h1, h2, h4, h5⟩, h3⟩
    · rw [h2 z (by omega)] at hzb; cases hzb
    · have := h3 z (by omega) hzb
      have := hp y h4 h2
      omega
/-- it is not -/
theorem BtAt.keep {n : Nat} {W : Nat → Int} {d x : Nat} {b : Int} (h : BtAt n W d x b) (hl0 : ¬ b < 0) (hl : ¬ W (d - 2 ^ x) < b) : BtAt n W d (x + 1) b := by
  rcases h with ⟨h1, _⟩ | ⟨⟨y, h1, h2⟩, h3⟩
  · omega
  · refine .inr ⟨⟨y, by omega, h2⟩, fun z hz hzb => ?_⟩
    by_cases e : z = x
    · subst e; omega
    · exact h3 z (by omega) hzb
theorem WUp.start (n : Nat) (cost : Nat → Nat → Int) : WUp n cost 1 (fun _ => 0) := ⟨rfl, fun d h1 h2 => by omega, fun d _ => ⟨by show (0 : Int) ≤ 0; omega, by show (0 : Int) ≤ 100; omega⟩⟩
theorem WUp.succ {n : Nat} {l : List Ed} {k : Nat} {W : Nat → Int} {b : Int} (hn : n ≤ 8) (h : WUp n (frontC l n) k W) (hk0 : 1 ≤ k) (hk : k < 2 ^ n) (hb : BtAt n W k n b) : WUp n (frontC l n) (k + 1) (upd W k (max b (frontN l n k))) := by
  have hp := pow8 hn
  obtain ⟨h1, h2, h3⟩ := h
  have hF : frontN l n k ≤ 8 := by unfold frontN; have := nw_len (frontB l n (bitB k)) n; omega
  have hF0 : 0 ≤ frontN l n k := by unfold frontN; omega
  have hfc : ∀ d y, d < 256 → y < 8 → d.testBit y = true → frontC l n (d - 2 ^ y) y = frontN l n d := fun d y hd hy hbt => by unfold frontC; rw [sub_or hd hy hbt]
  have hlt : ∀ d y, d ≠ 0 → d - 2 ^ y < d := fun d y hd => Nat.sub_lt (Nat.pos_of_ne_zero hd) (Nat.two_pow_pos y)
  have hdn : ∀ d y, d ≠ 0 → d ≤ k → d - 2 ^ y ≠ k := fun d y hd hdk => by have := hlt d y hd; omega
  obtain ⟨⟨y, _, hy, hyb, hbv⟩, hle⟩ : (∃ y, y < n ∧ y < n ∧ k.testBit y = true ∧ b = W (k - 2 ^ y)) ∧ ∀ y, y < n → k.testBit y = true → b ≤ W (k - 2 ^ y) := by
    rcases hb with ⟨_, h4⟩ | h4
    · obtain ⟨x, hx, hxb⟩ := in_bit hn hk (by omega)
      rw [h4 x hx] at hxb; cases hxb
    · exact h4
  have hb1 := h3 (k - 2 ^ y) (by have := hlt k y (by omega); omega)
  refine ⟨by rw [upd_ne W _ (by omega)]; exact h1, fun d hd hd0 => ?_, fun d hd => ?_⟩
  · by_cases e : d = k
    · subst e
      refine ⟨⟨y, hy, hyb, ?_⟩, fun z hz hzb => ?_⟩
      · rw [upd_at, upd_ne W _ (hdn d y hd0 (Nat.le_refl _)), hfc d y (by omega) (by omega) hyb, hbv]; omega
      · rw [upd_at, upd_ne W _ (hdn d z hd0 (Nat.le_refl _)), hfc d z (by omega) (by omega) hzb]
        have := hle z hz hzb
        omega
    · obtain ⟨⟨z, hz, hzb, hW⟩, hl2⟩ := h2 d (by omega) hd0
      refine ⟨⟨z, hz, hzb, ?_⟩, fun q hq hqb => ?_⟩
      · rw [upd_ne W _ e, upd_ne W _ (hdn d z hd0 (by omega))]; exact hW
      · rw [upd_ne W _ e, upd_ne W _ (hdn d q hd0 (by omega))]; exact hl2 q hq hqb
  · by_cases e : d = k
    · subst e; rw [upd_at]; omega
    · rw [upd_ne W _ e]; exact h3 d (by omega)
theorem pw_w {n : Nat} {l : List Ed} {W : Nat → Int} (hn : n ≤ 8) (h : WUp n (frontC l n) (2 ^ n) W) : pwV (n : Int) l = W (2 ^ n - 1) := by
  have e : pwV (n : Int) l = leastV n (frontC l n) 0 := rfl
  rw [e]
  exact Least.is (w_least hn h.1 (fun d hd hd0 => h.2.1 d hd hd0) (h.2.2 _ (by have := Nat.two_pow_pos n; omega)).1)
theorem rowF_app (k : Nat) (W : Nat → Int) (v : Int) : rowF (k + 1) (upd W k v) = rowF k W ++ [v] := by
  unfold rowF
  rw [List.range_succ, List.map_append, List.map_singleton, upd_at]
  congr 1
  exact List.map_congr_left fun d hd => upd_ne W v (by have := List.mem_range.1 hd; omega)
theorem gone_code {n d z : Nat} (hz : z < n) : goneB (nw (bitB d) n) z = bitB d z := by
  unfold goneB
  rw [Bool.eq_iff_iff, decide_eq_true_iff, mem_nw]
  constructor
  · rintro ⟨j, _, hj, e⟩
    have e2 : z = j := by omega
    rw [e2]; exact hj
  · intro h; exact ⟨z, hz, h, rfl⟩
theorem fro_code (l : List Ed) (n d : Nat) : (((froL n l (nw (bitB d) n)).length : Nat) : Int) = frontN l n d := by
  unfold froL frontN
  rw [reach.nw_congr fun z hz => frontB_congr (fun y hy => gone_code hy) hz]
end Go.Proofs.Ytbbgbepemnmfdaa.costs
