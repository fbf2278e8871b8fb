/- Dismantlings: the contracts of the program's isFilled and IsDismantling and of the model's l3Some, l3Order and IsDismantling. -/
import Derived.Test.YtcnfeijniidclaaDoorEach
import Derived.Test.YtcnfeijniidclaaDoorCorI
namespace Go.Proofs.YtcnfeijniidclaaDoor.dism
open Go.RowKit P2 words edges ints good near adjs fns sets rets covs balls cors each
set_option linter.unusedVariables false

/-- a valid Graph with nodes -/
def SomeP (s : Int) (l : List Ed) : Prop := P2.Good s l ∧ 0 < s
theorem isFilled_any (s : Int) (v : Value) (l : List Ed) (w : World) (h : Edges w v l) (hl : l.length ≤ 1048576) :
    Calls Tryd.prog 27 #[.agg #[.int .i64 s, v]] w fun e w' => e = .returned (.bool (okG (SomeP s l))) ∧ Below w.heap.size w w' := by
  obtain ⟨A, c, rfl, -⟩ := h.form
  have b0 : Below w.heap.size w (w.alloc (.cells #[.int .i64 s, .slice A l.length c] 29)) := (Below.refl _ _).alloc (Nat.le_refl _) _
  have g0 := Blk.new w 29 #[.int .i64 s, .slice A l.length c]
  have HG := Lib.hid (implIsGraph_any s _ l _ (h.below b0) hl)
  clear h
  by_cases hg : P2.Good s l
  · rw [goodB_yes hg] at HG
    have HV : Hid (okG (SomeP s l) = decide (0 < s)) := by
      show _ = _
      rw [Bool.eq_iff_iff, okG_iff, decide_eq_true_iff]
      exact ⟨fun h => h.2, fun h => ⟨hg, h⟩⟩
    clear hg
    go_enter Tryd.func27, Tryd.ntmps27
    go_wp2_with fail
    refine HG.out.mono ?_
    rintro e w1 ⟨rfl, b1⟩
    have g1 := g0.below b1 g0.lt
    have e1 := btrans b0 b1
    obtain ⟨p0, p1, -, -⟩ := g1.two
    clear HG g0 b0 b1
    go_wp2_with fail
    go_ret
    exact ⟨ret_bool HV.out.symm, e1⟩
  · rw [goodB_no hg] at HG
    have HV : Hid (okG (SomeP s l) = false) := okG_no (fun h => hg h.1)
    clear hg
    go_enter Tryd.func27, Tryd.ntmps27
    go_wp2_with fail
    refine HG.out.mono ?_
    rintro e w1 ⟨rfl, b1⟩
    go_wp2_with fail
    go_ret
    exact ⟨ret_bool HV.out.symm, btrans b0 b1⟩
theorem l3Some_any (s : Int) (v : Value) (l : List Ed) (w : World) (h : Edges w v l) (hl : l.length ≤ 1048576) (hs1 : -9223372036854775808 ≤ s) (hs2 : s ≤ 9223372036854775807) :
    Calls Tryd.prog 25 #[.agg #[.int .i64 s, v]] w fun e w' => e = .returned (.bool (okG (SomeP s l))) ∧ Below w.heap.size w w' := by
  obtain ⟨A, c, rfl, -⟩ := h.form
  have b0 : Below w.heap.size w (w.alloc (.cells #[.int .i64 s, .slice A l.length c] 29)) := (Below.refl _ _).alloc (Nat.le_refl _) _
  have g0 := Blk.new w 29 #[.int .i64 s, .slice A l.length c]
  have HG := Lib.hid (l2Good_any s _ l _ (h.below b0) hl hs1 hs2)
  clear h
  by_cases hg : P2.Good s l
  · rw [goodB_yes hg] at HG
    have HV : Hid (okG (SomeP s l) = decide (0 < s)) := by
      show _ = _
      rw [Bool.eq_iff_iff, okG_iff, decide_eq_true_iff]
      exact ⟨fun h => h.2, fun h => ⟨hg, h⟩⟩
    clear hg
    go_enter Tryd.func25, Tryd.ntmps25
    go_wp2_with fail
    refine HG.out.mono ?_
    rintro e w1 ⟨rfl, b1⟩
    have g1 := g0.below b1 g0.lt
    have e1 := btrans b0 b1
    obtain ⟨p0, p1, -, -⟩ := g1.two
    clear HG g0 b0 b1
    go_wp2_with fail
    go_ret
    exact ⟨ret_bool HV.out.symm, e1⟩
  · rw [goodB_no hg] at HG
    have HV : Hid (okG (SomeP s l) = false) := okG_no (fun h => hg h.1)
    clear hg
    go_enter Tryd.func25, Tryd.ntmps25
    go_wp2_with fail
    refine HG.out.mono ?_
    rintro e w1 ⟨rfl, b1⟩
    go_wp2_with fail
    go_ret
    exact ⟨ret_bool HV.out.symm, btrans b0 b1⟩

/-- a set without a node, as digits -/
def clr (B x : Nat) : Nat := numOf (fun k => B.testBit k && k != x) 8
theorem clr_bit {B : Nat} (hB : B < 256) (x k : Nat) : (clr B x).testBit k = (B.testBit k && k != x) := by
  unfold clr
  rw [numOf_bit]
  by_cases hk : k < 8
  · simp [hk]
  · rw [Nat.testBit_lt_two_pow (Nat.lt_of_lt_of_le (show B < 2 ^ 8 by omega) (Nat.pow_le_pow_right (by decide) (by omega)))]
    simp [hk]
theorem clr_lt (B x : Nat) : clr B x < 256 := numOf_lt _ (Nat.le_refl _)
theorem andNot_walk (a m : Nat) (ha : a < 256) (hm : m ≤ 8) : bits .andNot .u64 (a : Int) (IntKind.u64.wrap ((2 : Int) ^ m)) = ((clr a m : Nat) : Int) := by
  have hp : 2 ^ m ≤ 256 := by have := Nat.pow_le_pow_right (show 0 < 2 by decide) hm; simpa using this
  have h1 : (BitVec.ofInt 64 (a : Int)).toNat = a := by
    rw [BitVec.ofInt_natCast, BitVec.toNat_ofNat]; exact Nat.mod_eq_of_lt (by omega)
  have h2 : (BitVec.ofInt 64 ((2 ^ m : Nat) : Int)).toNat = 2 ^ m := by
    rw [BitVec.ofInt_natCast, BitVec.toNat_ofNat]; exact Nat.mod_eq_of_lt (by omega)
  rw [bitsI.wrap_pow hm]
  have hlt : a &&& (2 ^ 64 - (2 ^ m + 1)) < 2 ^ 64 := Nat.lt_of_le_of_lt Nat.and_le_left (by omega)
  have key : bits .andNot .u64 (a : Int) ((2 ^ m : Nat) : Int) = ((a &&& (2 ^ 64 - (2 ^ m + 1)) : Nat) : Int) := by
    show IntKind.u64.wrap ((BitVec.ofInt 64 (a : Int) &&& ~~~ BitVec.ofInt 64 ((2 ^ m : Nat) : Int)).toNat : Int) = _
    rw [BitVec.toNat_and, BitVec.toNat_not, h1, h2, IntKind.wrap_u64]
    rw [show (2 ^ 64 - 1 - 2 ^ m : Nat) = 2 ^ 64 - (2 ^ m + 1) from by omega]
    generalize (a &&& (2 ^ 64 - (2 ^ m + 1)) : Nat) = z at *
    omega
  rw [key]
  congr 1
  apply Nat.eq_of_testBit_eq
  intro i
  rw [Nat.testBit_and, Nat.testBit_two_pow_sub_succ (by omega), clr_bit ha, Nat.testBit_two_pow]
  by_cases hi : i < 64
  · simp only [hi, decide_true, Bool.true_and]
    congr 1
    rw [Bool.eq_iff_iff]
    simp only [Bool.not_eq_true', decide_eq_false_iff_not, bne_iff_ne, ne_eq]
    exact ⟨fun h e => h e.symm, fun h e => h e.symm⟩
  · rw [Nat.testBit_lt_two_pow (Nat.lt_of_lt_of_le (show a < 2 ^ 64 by omega) (Nat.pow_le_pow_right (by decide) (by omega)))]
    simp

/-- what is left of all nodes behind the first j of a list -/
def stB (n : Nat) (tl : List Int) (j : Nat) : Nat := (tl.take j).foldl (fun B x => clr B x.toNat) (2 ^ n - 1)
theorem stB_succ {n : Nat} {tl : List Int} {j : Nat} {x : Int} (h : tl[j]? = some x) : stB n tl (j + 1) = clr (stB n tl j) x.toNat := by
  unfold stB
  rw [List.take_add_one, h, List.foldl_append]; rfl
theorem pow_lt {n : Nat} (hn : n ≤ 8) : 2 ^ n - 1 < 256 := by
  have := Nat.pow_le_pow_right (show 0 < 2 by decide) hn
  have h1 : (2 : Nat) ^ 8 = 256 := rfl
  have h2 : 1 ≤ 2 ^ n := Nat.one_le_two_pow
  omega
theorem fold_clr (k : Nat) : ∀ (xs : List Int) (B : Nat), B < 256 → (∀ x ∈ xs, 0 ≤ x) → (xs.foldl (fun B x => clr B x.toNat) B < 256 ∧ (xs.foldl (fun B x => clr B x.toNat) B).testBit k = (B.testBit k && decide ((k : Int) ∉ xs)))
  | [], B, h, _ => ⟨h, by simp⟩
  | x :: xs, B, h, hx => by
    have ih := fold_clr k xs (clr B x.toNat) (clr_lt _ _) (fun y hy => hx y (by simp [hy]))
    have hx0 := hx x (by simp)
    rw [List.foldl_cons]
    refine ⟨ih.1, ?_⟩
    rw [ih.2, clr_bit h, Bool.and_assoc]
    congr 1
    rw [Bool.eq_iff_iff]
    simp only [Bool.and_eq_true, bne_iff_ne, ne_eq, decide_eq_true_eq, List.mem_cons, not_or]
    constructor
    · rintro ⟨h1, h2⟩; exact ⟨by omega, h2⟩
    · rintro ⟨h1, h2⟩; exact ⟨by omega, h2⟩
theorem stB_lt {n : Nat} {tl : List Int} (hn : n ≤ 8) (hx : ∀ x ∈ tl, 0 ≤ x) (j : Nat) : stB n tl j < 256 := (fold_clr 0 (tl.take j) (2 ^ n - 1) (pow_lt hn) (fun x h => hx x (List.mem_of_mem_take h))).1
theorem stB_bit {n : Nat} {tl : List Int} (hn : n ≤ 8) (hx : ∀ x ∈ tl, 0 ≤ x) (j k : Nat) : (stB n tl j).testBit k = (decide (k < n) && decide ((k : Int) ∉ tl.take j)) := by
  unfold stB
  rw [(fold_clr k (tl.take j) (2 ^ n - 1) (pow_lt hn) (fun x h => hx x (List.mem_of_mem_take h))).2, Nat.testBit_two_pow_sub_one]
theorem code_nw {B n : Nat} (h : ∀ k, B.testBit k = true → k < n) : codeL (nw (bitB B) n) = B := by
  apply Nat.eq_of_testBit_eq
  intro i
  rw [code_bit (fun x hx => by obtain ⟨j, _, _, rfl⟩ := mem_nw.1 hx; omega), Bool.eq_iff_iff, decide_eq_true_iff, mem_nw]
  constructor
  · rintro ⟨j, _, hj, e⟩
    obtain rfl : i = j := by omega
    exact hj
  · intro hi; exact ⟨i, h i hi, hi, rfl⟩
theorem stB_code {n : Nat} {tl : List Int} (hn : n ≤ 8) (hx : ∀ x ∈ tl, 0 ≤ x) (j : Nat) : codeL (nw (bitB (stB n tl j)) n) = stB n tl j :=
  code_nw fun k hk => by rw [stB_bit hn hx] at hk; simp at hk; exact hk.1
theorem stB_zero (n : Nat) (tl : List Int) : nw (bitB (stB n tl 0)) n = allN n := bits_all n
theorem stB_but {n : Nat} {tl : List Int} {j : Nat} {x : Int} (hn : n ≤ 8) (hx : ∀ x ∈ tl, 0 ≤ x ∧ x < (n : Int)) (h : tl[j]? = some x) : but (nw (bitB (stB n tl j)) n) x = nw (bitB (stB n tl (j + 1))) n := by
  have hx0 : ∀ x ∈ tl, 0 ≤ x := fun x hh => (hx x hh).1
  have hx1 := hx x (List.mem_of_getElem? h)
  refine asc_nw (List.Pairwise.filter _ (nw_asc _ _)) (fun y hy => ?_) fun k hk => ?_
  · obtain ⟨i, hi, _, rfl⟩ := mem_nw.1 (List.mem_filter.1 hy).1
    omega
  · unfold but
    rw [List.mem_filter, mem_nw, stB_succ h]
    unfold bitB
    rw [clr_bit (stB_lt hn hx0 j)]
    simp only [Bool.and_eq_true, bne_iff_ne, ne_eq]
    constructor
    · rintro ⟨h1, h2⟩; exact ⟨⟨k, hk, h1, rfl⟩, by omega⟩
    · rintro ⟨⟨i, _, h1, e⟩, h2⟩
      obtain rfl : k = i := by omega
      exact ⟨h1, by omega⟩
theorem each_code {n : Nat} {tl : List Int} (h : EachS n tl) : codeL tl = stB n tl 0 := by
  apply Nat.eq_of_testBit_eq
  intro i
  rw [code_bit (fun x hx => (h.range x hx).1)]
  unfold stB
  rw [List.take_zero, List.foldl_nil, Nat.testBit_two_pow_sub_one, decide_eq_decide]
  exact ⟨fun hm => by have := h.range _ hm; omega, fun hi => h.2 i hi⟩

def CovTo (n : Nat) (l : List Ed) (tl : List Int) (k : Nat) : Prop := ∀ j x, j < k → tl[j]? = some x → coversN l n (stB n tl j) x.toNat ≠ 0
/-- a list is a dismantling -/
def DismP (n : Nat) (l : List Ed) (tl : List Int) : Prop := EachS n tl ∧ CovTo n l tl (n - 1)
theorem cov_succ {n : Nat} {l : List Ed} {tl : List Int} {k : Nat} {x : Int} (h : CovTo n l tl k) (hx : tl[k]? = some x) (hc : coversN l n (stB n tl k) x.toNat ≠ 0) : CovTo n l tl (k + 1) := fun j y hj hy => by
  by_cases e : j = k
  · subst e; rw [hx] at hy; cases hy; exact hc
  · exact h j y (by omega) hy
noncomputable def dismV (s : Int) (l : List Ed) (tl : List Int) : Bool := okG (SomeP s l ∧ DismP s.toNat l tl)


end Go.Proofs.YtcnfeijniidclaaDoor.dism
