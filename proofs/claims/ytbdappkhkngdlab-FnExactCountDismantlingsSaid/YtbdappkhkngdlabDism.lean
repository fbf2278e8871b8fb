/- Dismantlings: the contracts of the program's isFilled and IsDismantling and of the model's l3Some, l3Order and IsDismantling. -/
import Derived.Test.YtbdappkhkngdlabEach
import Derived.Test.YtbdappkhkngdlabCorI
namespace Go.Proofs.Ytbdappkhkngdlab.dism
open Go.RowKit P2 words edges ints good near adjs fns sets rets covs balls cors each
set_option linter.unusedVariables false

/-- a valid Graph with nodes -/
def SomeP (s : Int) (l : List Ed) : Prop := P2.Good s l ∧ 0 < s
theorem isFilled_any (s : Int) (v : Value) (l : List Ed) (w : World) (h : Edges w v l) (hl : l.length ≤ 1048576) :
    Calls Try.prog 103 #[.agg #[.int .i64 s, v]] w fun e w' => e = .returned (.bool (okG (SomeP s l))) ∧ Below w.heap.size w w' := by
  obtain ⟨A, c, rfl, -⟩ := h.form
  have b0 : Below w.heap.size w (w.alloc (.cells #[.int .i64 s, .slice A l.length c] 29)) := (Below.refl _ _).alloc (Nat.le_refl _) _
  have g0 := Blk.new w 29 #[.int .i64 s, .slice A l.length c]
  have HG := Lib.hid (implIsGraph_any s _ l _ (h.below b0) hl)
  clear h
  by_cases hg : P2.Good s l
  · rw [goodB_yes hg] at HG
    have HV : Hid (okG (SomeP s l) = decide (0 < s)) := by
      show _ = _
      rw [Bool.eq_iff_iff, okG_iff, decide_eq_true_iff]
      exact ⟨fun h => h.2, fun h => ⟨hg, h⟩⟩
    clear hg
    go_enter Try.func103, Try.ntmps103
    go_wp2_with fail
    refine HG.out.mono ?_
    rintro e w1 ⟨rfl, b1⟩
    have g1 := g0.below b1 g0.lt
    have e1 := btrans b0 b1
    obtain ⟨p0, p1, -, -⟩ := g1.two
    clear HG g0 b0 b1
    go_wp2_with fail
    go_ret
    exact ⟨ret_bool HV.out.symm, e1⟩
  · rw [goodB_no hg] at HG
    have HV : Hid (okG (SomeP s l) = false) := okG_no (fun h => hg h.1)
    clear hg
    go_enter Try.func103, Try.ntmps103
    go_wp2_with fail
    refine HG.out.mono ?_
    rintro e w1 ⟨rfl, b1⟩
    go_wp2_with fail
    go_ret
    exact ⟨ret_bool HV.out.symm, btrans b0 b1⟩
theorem l3Some_any (s : Int) (v : Value) (l : List Ed) (w : World) (h : Edges w v l) (hl : l.length ≤ 1048576) (hs1 : -9223372036854775808 ≤ s) (hs2 : s ≤ 9223372036854775807) :
    Calls Try.prog 101 #[.agg #[.int .i64 s, v]] w fun e w' => e = .returned (.bool (okG (SomeP s l))) ∧ Below w.heap.size w w' := by
  obtain ⟨A, c, rfl, -⟩ := h.form
  have b0 : Below w.heap.size w (w.alloc (.cells #[.int .i64 s, .slice A l.length c] 29)) := (Below.refl _ _).alloc (Nat.le_refl _) _
  have g0 := Blk.new w 29 #[.int .i64 s, .slice A l.length c]
  have HG := Lib.hid (l2Good_any s _ l _ (h.below b0) hl hs1 hs2)
  clear h
  by_cases hg : P2.Good s l
  · rw [goodB_yes hg] at HG
    have HV : Hid (okG (SomeP s l) = decide (0 < s)) := by
      show _ = _
      rw [Bool.eq_iff_iff, okG_iff, decide_eq_true_iff]
      exact ⟨fun h => h.2, fun h => ⟨hg, h⟩⟩
    clear hg
    go_enter Try.func101, Try.ntmps101
    go_wp2_with fail
    refine HG.out.mono ?_
    rintro e w1 ⟨rfl, b1⟩
    have g1 := g0.below b1 g0.lt
    have e1 := btrans b0 b1
    obtain ⟨p0, p1, -, -⟩ := g1.two
    clear HG g0 b0 b1
    go_wp2_with fail
    go_ret
    exact ⟨ret_bool HV.out.symm, e1⟩
  · rw [goodB_no hg] at HG
    have HV : Hid (okG (SomeP s l) = false) := okG_no (fun h => hg h.1)
    clear hg
    go_enter Try.func101, Try.ntmps101
    go_wp2_with fail
    refine HG.out.mono ?_
    rintro e w1 ⟨rfl, b1⟩
    go_wp2_with fail
    go_ret
    exact ⟨ret_bool HV.out.symm, btrans b0 b1⟩

/-- a set without a node, as digits -/
def clr (B x : Nat) : Nat := numOf (fun k => B.testBit k && k != x) 8
theorem clr_bit {B : Nat} (hB : B < 256) (x k : Nat) : (clr B x).testBit k = (B.testBit k && k != x) := by
  unfold clr
  rw [numOf_bit]
  by_cases hk : k < 8
  · simp [hk]
  · rw [Nat.testBit_lt_two_pow (Nat.lt_of_lt_of_le (show B < 2 ^ 8 by omega) (Nat.pow_le_pow_right (by decide) (by omega)))]
    simp [hk]
theorem clr_lt (B x : Nat) : clr B x < 256 := numOf_lt _ (Nat.le_refl _)
theorem andNot_walk (a m : Nat) (ha : a < 256) (hm : m ≤ 8) : bits .andNot .u64 (a : Int) (IntKind.u64.wrap ((2 : Int) ^ m)) = ((clr a m : Nat) : Int) := by
  have hp : 2 ^ m ≤ 256 := by have := Nat.pow_le_pow_right (show 0 < 2 by decide) hm; simpa using this
  have h1 : (BitVec.ofInt 64 (a : Int)).toNat = a := by
    rw [BitVec.ofInt_natCast, BitVec.toNat_ofNat]; exact Nat.mod_eq_of_lt (by omega)
  have h2 : (BitVec.ofInt 64 ((2 ^ m : Nat) : Int)).toNat = 2 ^ m := by
    rw [BitVec.ofInt_natCast, BitVec.toNat_ofNat]; exact Nat.mod_eq_of_lt (by omega)
  rw [bitsI.wrap_pow hm]
  have hlt : a &&& (2 ^ 64 - (2 ^ m + 1)) < 2 ^ 64 := Nat.lt_of_le_of_lt Nat.and_le_left (by omega)
  have key : bits .andNot .u64 (a : Int) ((2 ^ m : Nat) : Int) = ((a &&& (2 ^ 64 - (2 ^ m + 1)) : Nat) : Int) := by
    show IntKind.u64.wrap ((BitVec.ofInt 64 (a : Int) &&& ~~~ BitVec.ofInt 64 ((2 ^ m : Nat) : Int)).toNat : Int) = _
    rw [BitVec.toNat_and, BitVec.toNat_not, h1, h2, IntKind.wrap_u64]
    rw [show (2 ^ 64 - 1 - 2 ^ m : Nat) = 2 ^ 64 - (2 ^ m + 1) from by omega]
    generalize (a &&& (2 ^ 64 - (2 ^ m + 1)) : Nat) = z at *
    omega
  rw [key]
  congr 1
  apply Nat.eq_of_testBit_eq
  intro i
  rw [Nat.testBit_and, Nat.testBit_two_pow_sub_succ (by omega), clr_bit ha, Nat.testBit_two_pow]
  by_cases hi : i < 64
  · simp only [hi, decide_true, Bool.true_and]
    congr 1
    rw [Bool.eq_iff_iff]
    simp only [Bool.not_eq_true', decide_eq_false_iff_not, bne_iff_ne, ne_eq]
    exact ⟨fun h e => h e.symm, fun h e => h e.symm⟩
  · rw [Nat.testBit_lt_two_pow (Nat.lt_of_lt_of_le (show a < 2 ^ 64 by omega) (Nat.pow_le_pow_right (by decide) (by omega)))]
    simp

/-- what is left of all nodes behind the first j of a list -/
def stB (n : Nat) (tl : List Int) (j : Nat) : Nat := (tl.take j).foldl (fun B x => clr B x.toNat) (2 ^ n - 1)
theorem stB_succ {n : Nat} {tl : List Int} {j : Nat} {x : Int} (h : tl[j]? = some x) : stB n tl (j + 1) = clr (stB n tl j) x.toNat := by
  unfold stB
  rw [List.take_add_one, h, List.foldl_append]; rfl
theorem pow_lt {n : Nat} (hn : n ≤ 8) : 2 ^ n - 1 < 256 := by
  have := Nat.pow_le_pow_right (show 0 < 2 by decide) hn
  have h1 : (2 : Nat) ^ 8 = 256 := rfl
  have h2 : 1 ≤ 2 ^ n := Nat.one_le_two_pow
  omega
theorem fold_clr (k : Nat) : ∀ (xs : List Int) (B : Nat), B < 256 → (∀ x ∈ xs, 0 ≤ x) → (xs.foldl (fun B x => clr B x.toNat) B < 256 ∧ (xs.foldl (fun B x => clr B x.toNat) B).testBit k = (B.testBit k && decide ((k : Int) ∉ xs)))
  | [], B, h, _ => ⟨h, by simp⟩
  | x :: xs, B, h, hx => by
    have ih := fold_clr k xs (clr B x.toNat) (clr_lt _ _) (fun y hy => hx y (by simp [hy]))
    have hx0 := hx x (by simp)
    rw [List.foldl_cons]
    refine ⟨ih.1, ?_⟩
    rw [ih.2, clr_bit h, Bool.and_assoc]
    congr 1
    rw [Bool.eq_iff_iff]
    simp only [Bool.and_eq_true, bne_iff_ne, ne_eq, decide_eq_true_eq, List.mem_cons, not_or]
    constructor
    · rintro ⟨h1, h2⟩; exact ⟨by omega, h2⟩
    · rintro ⟨h1, h2⟩; exact ⟨by omega, h2⟩
theorem stB_lt {n : Nat} {tl : List Int} (hn : n ≤ 8) (hx : ∀ x ∈ tl, 0 ≤ x) (j : Nat) : stB n tl j < 256 := (fold_clr 0 (tl.take j) (2 ^ n - 1) (pow_lt hn) (fun x h => hx x (List.mem_of_mem_take h))).1
theorem stB_bit {n : Nat} {tl : List Int} (hn : n ≤ 8) (hx : ∀ x ∈ tl, 0 ≤ x) (j k : Nat) : (stB n tl j).testBit k = (decide (k < n) && decide ((k : Int) ∉ tl.take j)) := by
  unfold stB
  rw [(fold_clr k (tl.take j) (2 ^ n - 1) (pow_lt hn) (fun x h => hx x (List.mem_of_mem_take h))).2, Nat.testBit_two_pow_sub_one]
theorem code_nw {B n : Nat} (h : ∀ k, B.testBit k = true → k < n) : codeL (nw (bitB B) n) = B := by
  apply Nat.eq_of_testBit_eq
  intro i
  rw [code_bit (fun x hx => by obtain ⟨j, _, _, rfl⟩ := mem_nw.1 hx; omega), Bool.eq_iff_iff, decide_eq_true_iff, mem_nw]
  constructor
  · rintro ⟨j, _, hj, e⟩
    obtain rfl : i = j := by omega
    exact hj
  · intro hi; exact ⟨i, h i hi, hi, rfl⟩
theorem stB_code {n : Nat} {tl : List Int} (hn : n ≤ 8) (hx : ∀ x ∈ tl, 0 ≤ x) (j : Nat) : codeL (nw (bitB (stB n tl j)) n) = stB n tl j :=
  code_nw fun k hk => by rw [stB_bit hn hx] at hk; simp at hk; exact hk.1
theorem stB_zero (n : Nat) (tl : List Int) : nw (bitB (stB n tl 0)) n = allN n := bits_all n
theorem stB_but {n : Nat} {tl : List Int} {j : Nat} {x : Int} (hn : n ≤ 8) (hx : ∀ x ∈ tl, 0 ≤ x ∧ x < (n : Int)) (h : tl[j]? = some x) : but (nw (bitB (stB n tl j)) n) x = nw (bitB (stB n tl (j + 1))) n := by
  have hx0 : ∀ x ∈ tl, 0 ≤ x := fun x hh => (hx x hh).1
  have hx1 := hx x (List.mem_of_getElem? h)
  refine asc_nw (List.Pairwise.filter _ (nw_asc _ _)) (fun y hy => ?_) fun k hk => ?_
  · obtain ⟨i, hi, _, rfl⟩ := mem_nw.1 (List.mem_filter.1 hy).1
    omega
  · unfold but
    rw [List.mem_filter, mem_nw, stB_succ h]
    unfold bitB
    rw [clr_bit (stB_lt hn hx0 j)]
    simp only [Bool.and_eq_true, bne_iff_ne, ne_eq]
    constructor
    · rintro ⟨h1, h2⟩; exact ⟨⟨k, hk, h1, rfl⟩, by omega⟩
    · rintro ⟨⟨i, _, h1, e⟩, h2⟩
      obtain rfl : k = i := by omega
      exact ⟨h1, by omega⟩
theorem each_code {n : Nat} {tl : List Int} (h : EachS n tl) : codeL tl = stB n tl 0 := by
  apply Nat.eq_of_testBit_eq
  intro i
  rw [code_bit (fun x hx => (h.range x hx).1)]
  unfold stB
  rw [List.take_zero, List.foldl_nil, Nat.testBit_two_pow_sub_one, decide_eq_decide]
  exact ⟨fun hm => by have := h.range _ hm; omega, fun hi => h.2 i hi⟩

def CovTo (n : Nat) (l : List Ed) (tl : List Int) (k : Nat) : Prop := ∀ j x, j < k → tl[j]? = some x → coversN l n (stB n tl j) x.toNat ≠ 0
/-- a list is a dismantling -/
def DismP (n : Nat) (l : List Ed) (tl : List Int) : Prop := EachS n tl ∧ CovTo n l tl (n - 1)
theorem cov_succ {n : Nat} {l : List Ed} {tl : List Int} {k : Nat} {x : Int} (h : CovTo n l tl k) (hx : tl[k]? = some x) (hc : coversN l n (stB n tl k) x.toNat ≠ 0) : CovTo n l tl (k + 1) := fun j y hj hy => by
  by_cases e : j = k
  · subst e; rw [hx] at hy; cases hy; exact hc
  · exact h j y (by omega) hy
noncomputable def dismV (s : Int) (l : List Ed) (tl : List Int) : Bool := okG (SomeP s l ∧ DismP s.toNat l tl)

set_option maxHeartbeats 4000000 in
set_option maxRecDepth 100000 in
theorem implIsDism_any (s : Int) (v u : Value) (l : List Ed) (tl : List Int) (w : World) (h : Edges w v l) (hl : l.length ≤ 1048576) (hu : Ints w u tl) (htl : tl.length ≤ 1048576) :
    Calls Try.prog 52 #[.agg #[.int .i64 s, v], u] w fun e w' => e = .returned (.tuple #[.bool (dismV s l tl), .bool (okG (SomeP s l))]) ∧ Below w.heap.size w w' := by
  obtain ⟨A, c, rfl, -⟩ := h.form
  have hu' := hu
  obtain ⟨A2, c2, rfl, hc2⟩ := hu.form
  have hcap : 0 < tl.length → tl.length ≤ c2 := fun h0 => by
    obtain ⟨A', c', e, hx⟩ := hu'
    cases e
    exact (hx h0).choose_spec.choose_spec.2.1
  have H := Lib.hid h
  have HU := Lib.hid hu
  have HC := Lib.hid hc2
  have b0 : Below w.heap.size w (w.alloc (.cells #[.int .i64 s, .slice A l.length c] 29)) := (Below.refl _ _).alloc (Nat.le_refl _) _
  have g0 := Blk.new w 29 #[.int .i64 s, .slice A l.length c]
  have HF := Lib.hid (isFilled_any s _ l _ (h.below b0) hl)
  have HOD := Lib.hid (fun (W : World) (hb : Below w.heap.size w W) => hasOrder_any s _ _ l tl W (h.below hb) hl (hu.below hb) htl)
  clear h hu hu' hc2
  by_cases hsm : SomeP s l
  · rw [okG_yes hsm] at HF
    obtain ⟨m, rfl⟩ : ∃ m : Nat, s = ((m + 1 : Nat) : Int) := ⟨s.toNat - 1, by have := hsm.2; omega⟩
    have hn : m + 1 ≤ 8 := by have := hsm.1.2.1; omega
    have HOK := Lib.hid (okG_yes hsm)
    have HGD := Lib.hid hsm.1
    have HV : Hid (dismV ((m + 1 : Nat) : Int) l tl = okG (DismP (m + 1) l tl)) := by
      show _ = _
      unfold dismV
      rw [Int.toNat_natCast, show (SomeP ((m + 1 : Nat) : Int) l ∧ DismP (m + 1) l tl) = DismP (m + 1) l tl from propext ⟨fun h => h.2, fun h => ⟨hsm, h⟩⟩]
    rw [HV.out]
    have hEq : okG (P2.Good ((m + 1 : Nat) : Int) l ∧ EachS (((m + 1 : Nat) : Int)).toNat tl) = okG (EachS (m + 1) tl) := by
      rw [Int.toNat_natCast, show (P2.Good ((m + 1 : Nat) : Int) l ∧ EachS (m + 1) tl) = EachS (m + 1) tl from propext ⟨fun h => h.2, fun h => ⟨hsm.1, h⟩⟩]
    rw [hEq] at HOD
    clear hsm hEq
    by_cases he : EachS (m + 1) tl
    · rw [okG_yes he] at HOD
      have HE := Lib.hid he
      have hlen := he.1
      have hc2 := hcap (by omega)
      have hcm : m ≤ c2 := by omega
      have hcm' : (m : Int) ≤ (c2 : Int) := by omega
      have HR := Lib.hid he.range
      have HX0 : Hid (∀ x ∈ tl, 0 ≤ x) := fun x hx => (he.range x hx).1
      have HLEN := Lib.hid hlen
      have HC0 := Lib.hid (each_code he)
      clear he hlen hcap hc2
      go_enter Try.func52, Try.ntmps52
      go_wp2_with fail
      refine HF.out.mono ?_
      rintro e w1 ⟨rfl, b1⟩
      have e1 := btrans b0 b1
      have g1 := g0.below b1 g0.lt
      clear HF b0 b1 g0
      obtain ⟨p0, p1, -, -⟩ := g1.two
      go_wp2_with fail
      refine (HOD.out w1 e1).mono ?_
      rintro e w2 ⟨rfl, b2⟩
      have e2 := btrans e1 b2
      have g2 := g1.below b2 g1.lt
      clear p0 p1 b2 g1
      obtain ⟨p0, p1, -, -⟩ := g2.two
      go_wp2_with fail
      refine (bitsI.closedBits_any (m + 1) _ l w2 (H.out.below e2) hl HGD.out hn).mono ?_
      rintro e w3 ⟨A3, c3, rfl, r3, b3⟩
      have e3 := btrans e2 b3
      have g3 := g2.below b3 g2.lt
      clear p0 p1 b3 g2
      go_wp2_with fail
      refine (bitsI.bitsOf_any _ tl w3 (HU.out.below e3) htl (fun y hy => by have := HR.out y hy; omega)).mono ?_
      rw [HC0.out]
      rintro e w4 ⟨rfl, rfl⟩
      obtain ⟨p0, p1, -, -⟩ := g3.two
      have HCI := Lib.hid (fun (W : World) (B x : Nat) (hb : Below w3.heap.size w3 W) (hB : B < 256) (hx : x < m + 1) => bitsI.coversIn_any (m + 1) B x _ l W (r3.below hb) HGD.out hn hB hx)
      clear r3
      go_wp2_with fail
      clear p0 p1
      go_loopg [7, 27] m (fun g bb i wr => ∃ k : Nat, k + g = m ∧ i = .int .i64 (k : Int) ∧ bb = .int .u64 (stB (m + 1) tl k : Int) ∧ Hid (CovTo (m + 1) l tl k) ∧ Below w3.heap.size w3 wr)
      case atStart => exact ⟨0, by omega, rfl, rfl, fun j x hj => by omega, Below.refl _ _⟩
      case round =>
        obtain ⟨k, hkg, rfl, rfl, hcov, hB⟩ := hrel
        cases gk with
        | zero =>
          obtain rfl : k = m := by omega
          have HY : Hid (okG (DismP (k + 1) l tl) = true) := okG_yes ⟨HE.out, hcov.out⟩
          go_wp2_with fail
          go_ret2
          exact ⟨retBB HY.out.symm HOK.out.symm, btrans e3 hB⟩
        | succ g2 =>
          have hlt : k < m := by omega
          have hlt' : (k : Int) < (m : Int) := by omega
          obtain ⟨x, hx⟩ : ∃ x, tl[k]? = some x := ⟨_, List.getElem?_eq_getElem (by have := HLEN.out; omega)⟩
          obtain ⟨g, o, rfl, c0⟩ := HC.out k x hx
          have q0 := each.cell_keep c0 (btrans e3 hB)
          have hx0 := HR.out x (List.mem_of_getElem? hx)
          obtain ⟨z, rfl⟩ : ∃ z : Nat, x = (z : Int) := ⟨x.toNat, by omega⟩
          have hz : z < m + 1 := by omega
          have hz8 : z ≤ 8 := by omega
          have HS := Lib.hid (stB_succ (n := m + 1) hx)
          have hlt256 := stB_lt (tl := tl) hn HX0.out k
          have HAN := Lib.hid (andNot_walk (stB (m + 1) tl k) z hlt256 hz8)
          have HCV := Lib.hid (HCI.out wr (stB (m + 1) tl k) z hB hlt256 hz)
          have HXX := Lib.hid hx
          clear hx c0 hx0
          by_cases hc : coversN l (m + 1) (stB (m + 1) tl k) z = 0
          · have HN : Hid (okG (DismP (m + 1) l tl) = false) := okG_no (fun h => h.2 k _ (by omega) HXX.out (by rw [Int.toNat_natCast]; exact hc))
            rw [hc] at HCV
            clear hc
            go_wp2_with fail
            refine HCV.out.mono ?_
            rintro e w5 ⟨rfl, b5⟩
            go_wp2_with fail
            go_ret2
            exact ⟨retBB HN.out.symm HOK.out.symm, btrans e3 (btrans hB b5)⟩
          · have HK := Lib.hid (cov_succ hcov.out HXX.out (by rw [Int.toNat_natCast]; exact hc))
            have dc : ((coversN l (m + 1) (stB (m + 1) tl k) z : Int) == 0) = false := by simp; omega
            have hcz : Int.toNat (z : Int) = z := Int.toNat_natCast z
            have HCZ := Lib.hid hcz
            clear hc hcz
            generalize coversN l (m + 1) (stB (m + 1) tl k) z = cv at *
            go_wp2_with fail
            refine HCV.out.mono ?_
            rintro e w5 ⟨rfl, b5⟩
            have hB5 := btrans hB b5
            clear b5 hB q0
            go_wp2_with fail
            clear dc
            go_roundg g2
            case measure => omega
            case rel => exact ⟨k + 1, by omega, by go_num, by rw [HS.out, HCZ.out, HAN.out], HK, hB5⟩
    · rw [okG_no he] at HOD
      have HN : Hid (okG (DismP (m + 1) l tl) = false) := okG_no (fun h => he h.1)
      clear he hcap
      go_enter Try.func52, Try.ntmps52
      go_wp2_with fail
      refine HF.out.mono ?_
      rintro e w1 ⟨rfl, b1⟩
      have e1 := btrans b0 b1
      have g1 := g0.below b1 g0.lt
      clear HF b0 b1 g0
      obtain ⟨p0, p1, -, -⟩ := g1.two
      go_wp2_with fail
      refine (HOD.out w1 e1).mono ?_
      rintro e w2 ⟨rfl, b2⟩
      go_wp2_with fail
      go_ret2
      exact ⟨retBB HN.out.symm HOK.out.symm, btrans e1 b2⟩
  · rw [okG_no hsm] at HF
    have HN : Hid (dismV s l tl = false) := okG_no (fun h => hsm h.1)
    have HOK := Lib.hid (okG_no hsm)
    clear hsm hcap
    go_enter Try.func52, Try.ntmps52
    go_wp2_with fail
    refine HF.out.mono ?_
    rintro e w1 ⟨rfl, b1⟩
    have e1 := btrans b0 b1
    go_wp2_with fail
    go_ret2
    exact ⟨retBB HN.out.symm HOK.out.symm, e1⟩

set_option maxHeartbeats 4000000 in
set_option maxRecDepth 100000 in
theorem l3Order_any (m : Nat) (v u : Value) (l : List Ed) (tl : List Int) (w : World) (h : Edges w v l) (hl : l.length ≤ 1048576) (hu : Ints w u tl) (htl : tl.length ≤ 1048576) (hg : P2.Good ((m + 1 : Nat) : Int) l) (hn : m + 1 ≤ 8) :
    Calls Try.prog 102 #[.agg #[.int .i64 ((m + 1 : Nat) : Int), v], u] w fun e w' => e = .returned (.bool (okG (DismP (m + 1) l tl))) ∧ Below w.heap.size w w' := by
  obtain ⟨A, c, rfl, -⟩ := h.form
  obtain ⟨A2, c2, rfl, hc2⟩ := hu.form
  have H := Lib.hid h
  have HU := Lib.hid hu
  have HC := Lib.hid hc2
  have HGD := Lib.hid hg
  have b0 : Below w.heap.size w (w.alloc (.cells #[.int .i64 ((m + 1 : Nat) : Int), .slice A l.length c] 29)) := (Below.refl _ _).alloc (Nat.le_refl _) _
  have g0 := Blk.new w 29 #[.int .i64 ((m + 1 : Nat) : Int), .slice A l.length c]
  have HAL := Lib.hid (fun (W : World) => l2All_any (m + 1) (.slice A l.length c) W hn)
  have HEA := Lib.hid (fun (W : World) (hb : Below w.heap.size w W) => l2Each_any (m + 1) _ _ l tl W (h.below hb) (hu.below hb) htl hn)
  clear h hu hc2 hg
  by_cases he : EachS (m + 1) tl
  · rw [okG_yes he] at HEA
    have HE := Lib.hid he
    have HR := Lib.hid he.range
    have HX0 : Hid (∀ x ∈ tl, 0 ≤ x) := fun x hx => (he.range x hx).1
    have hlen := he.1
    have hlt8 : tl.length ≤ 8 := by omega
    have hle : m + 1 ≤ tl.length := by omega
    have hge : tl.length ≤ m + 1 := by omega
    clear he hlen
    go_enter Try.func102, Try.ntmps102
    go_wp2_with fail
    refine (HAL.out _).mono ?_
    rintro e w1 ⟨A3, c3, rfl, o3, b1⟩
    have e1 := btrans b0 b1
    have g1 := g0.below b1 g0.lt
    clear b0 b1 g0
    obtain ⟨p0, p1, -, -⟩ := g1.two
    go_wp2_with fail
    refine (HEA.out w1 e1).mono ?_
    rintro e w2 ⟨rfl, b2⟩
    have e2 := btrans e1 b2
    have g2 := g1.below b2 g1.lt
    have r2 : Ints w2 (.slice A3 (allN (m + 1)).length c3) (allN (m + 1)) := (Reads.of_own o3).below b2
    clear p0 p1 b2 g1 o3
    rw [← stB_zero (m + 1) tl] at r2
    rw [← stB_zero (m + 1) tl]
    go_wp2_with fail
    go_loopg [5, 6] m (fun g sv i wr => ∃ (k : Nat) (v : Value), v = sv ∧ k + g = m ∧ i = .int .i64 (k : Int) ∧ Ints wr v (nw (bitB (stB (m + 1) tl k)) (m + 1)) ∧ Hid (CovTo (m + 1) l tl k) ∧ Blk wr w.heap.size 29 #[.int .i64 ((m + 1 : Nat) : Int), .slice A l.length c] ∧ Below w.heap.size w wr)
    case atStart => exact ⟨0, _, rfl, by omega, rfl, r2, fun j x hj => by omega, g2, e2⟩
    case round =>
      clear r2 g2
      obtain ⟨k, sv, rfl, hkg, rfl, hr, hcov, hgb, hB⟩ := hrel
      obtain ⟨p0, p1, -, -⟩ := hgb.two
      cases gk with
      | zero =>
        obtain rfl : k = m := by omega
        have HY : Hid (okG (DismP (k + 1) l tl) = true) := okG_yes ⟨HE.out, hcov.out⟩
        have dl : decide ((k : Int) + 1 < (tl.length : Int)) = false := decide_eq_false (by omega)
        go_wp2_with fail
        go_ret
        exact ⟨ret_bool HY.out.symm, hB⟩
      | succ g2 =>
        have hlt : k < m := by omega
        have hkl : k < tl.length := by omega
        have hlt' : (k : Int) < (tl.length : Int) := by omega
        have dl : decide ((k : Int) + 1 < (tl.length : Int)) = true := decide_eq_true (by omega)
        obtain ⟨x, hx⟩ : ∃ x, tl[k]? = some x := ⟨_, List.getElem?_eq_getElem hkl⟩
        obtain ⟨ga, oa, rfl, c0⟩ := HC.out k x hx
        have q0 := each.cell_keep c0 hB
        have hx0 := HR.out x (List.mem_of_getElem? hx)
        have hin : ∀ y ∈ nw (bitB (stB (m + 1) tl k)) (m + 1), 0 ≤ y ∧ y < ((m + 1 : Nat) : Int) := fun y hy => by obtain ⟨i, hi, _, rfl⟩ := mem_nw.1 hy; omega
        have hnl := nw_len (bitB (stB (m + 1) tl k)) (m + 1)
        have HLS := Lib.hid (leastS_int HGD.out hin hx0.1)
        have HCD := Lib.hid (stB_code (tl := tl) hn HX0.out k)
        have HBT := Lib.hid (stB_but hn HR.out hx)
        have HCV := Lib.hid (l3Cover_any (m + 1) x (.slice A l.length c) sv l _ wr.drew (H.out.below hB.drew) hl (hr.below (Below.refl _ _).drew) (by omega) hn hx0)
        have HWO := Lib.hid (fun (W : World) (hb : Below wr.drew.heap.size wr.drew W) => l2Without_any sv _ x W ((hr.below (Below.refl _ _).drew).below hb) (show (nw (bitB (stB (m + 1) tl k)) (m + 1)).length ≤ 1048576 by omega))
        rw [HBT.out] at HWO
        have HXX := Lib.hid hx
        have HG := Lib.hid (hgb.drewN 1)
        have HBD : Hid (Below w.heap.size w wr.drew) := hB.drew
        have HZ : Hid ((decide (leastS (m + 1) l (nw (bitB (stB (m + 1) tl k)) (m + 1)) x < 0) = true) ↔ coversN l (m + 1) (stB (m + 1) tl k) x.toNat = 0) := by
          have h1 := HLS.out
          rw [HCD.out] at h1
          show _ ↔ _
          rw [decide_eq_true_iff]
          constructor
          · intro hneg
            have : decide (0 ≤ leastS (m + 1) l (nw (bitB (stB (m + 1) tl k)) (m + 1)) x) = false := decide_eq_false (by omega)
            rw [this] at h1
            simpa using h1.symm
          · intro h0
            rw [h0] at h1
            have : ¬ 0 ≤ leastS (m + 1) l (nw (bitB (stB (m + 1) tl k)) (m + 1)) x := by
              intro hh; rw [decide_eq_true hh] at h1; simp at h1
            omega
        have hcl := HC.out
        obtain ⟨As, cs, hsv, -⟩ := Ints.form hr
        clear hx c0 hin hnl hr hgb hB hx0
        by_cases hc : coversN l (m + 1) (stB (m + 1) tl k) x.toNat = 0
        · have HN : Hid (okG (DismP (m + 1) l tl) = false) := okG_no (fun h => h.2 k _ (by omega) HXX.out hc)
          have dz := HZ.out.2 hc
          clear hc hcl
          generalize leastS (m + 1) l (nw (bitB (stB (m + 1) tl k)) (m + 1)) x = zz at *
          clear hsv
          go_wp2_with fail
          go_region_held3 (fun w' => w'.cell? ⟨w.heap.size, 0, none⟩ = some (.int .i64 ((m + 1 : Nat) : Int)) ∧ w'.cell? ⟨w.heap.size, 1, none⟩ = some (.slice A l.length c) ∧ w'.cell? ⟨ga, oa + k, none⟩ = some (.int .i64 x)) (go_keep)
            ((go_at_call 130; refine (keep4 HCV.out (p := ⟨w.heap.size, 0, none⟩) (q := ⟨w.heap.size, 1, none⟩) (r := ⟨ga, oa + k, none⟩) (s := ⟨ga, oa + k, none⟩) (a := .int .i64 ((m + 1 : Nat) : Int)) (b := .slice A l.length c) (c := .int .i64 x) (d := .int .i64 x) ?_ ?_ ?_ ?_).mono ?_; (simp [*]); (simp [*]); (simp [*]); (simp [*]); rintro e w4 ⟨rfl, k0, k1, k2, -, b4⟩))
          have HB4 := Lib.hid (btrans HBD.out b4)
          clear b4 p0 p1 q0 k0 k1 k2
          go_wp2_with fail
          go_ret
          exact ⟨ret_bool HN.out.symm, HB4.out⟩
        · have HK := Lib.hid (cov_succ hcov.out HXX.out hc)
          have dz : decide (leastS (m + 1) l (nw (bitB (stB (m + 1) tl k)) (m + 1)) x < 0) = false := by
            rw [Bool.eq_false_iff]; exact fun h => hc (HZ.out.1 h)
          clear hc hcl
          generalize leastS (m + 1) l (nw (bitB (stB (m + 1) tl k)) (m + 1)) x = zz at *
          clear hsv
          go_wp2_with fail
          go_region_held3 (fun w' => w'.cell? ⟨w.heap.size, 0, none⟩ = some (.int .i64 ((m + 1 : Nat) : Int)) ∧ w'.cell? ⟨w.heap.size, 1, none⟩ = some (.slice A l.length c) ∧ w'.cell? ⟨ga, oa + k, none⟩ = some (.int .i64 x)) (go_keep)
            ((go_at_call 130; refine (keep4 HCV.out (p := ⟨w.heap.size, 0, none⟩) (q := ⟨w.heap.size, 1, none⟩) (r := ⟨ga, oa + k, none⟩) (s := ⟨ga, oa + k, none⟩) (a := .int .i64 ((m + 1 : Nat) : Int)) (b := .slice A l.length c) (c := .int .i64 x) (d := .int .i64 x) ?_ ?_ ?_ ?_).mono ?_; (simp [*]); (simp [*]); (simp [*]); (simp [*]); rintro e w4 ⟨rfl, k0, k1, k2, -, b4⟩))
          have hg4 := HG.out.below b4 HG.out.lt
          have hb4 := btrans HBD.out b4
          have HWO4 := Lib.hid (HWO.out w4 b4)
          clear b4 p0 p1 q0 k0 k1
          go_wp2_with fail
          refine HWO4.out.mono ?_
          rintro e w5 ⟨A5, c5, rfl, o5, b5⟩
          have HG5 := Lib.hid (hg4.below b5 hg4.lt)
          have HB5 := Lib.hid (btrans hb4 b5)
          have HR5 := Lib.hid (Reads.of_own o5)
          clear hg4 hb4 b5 o5 k2 dl dz
          go_wp2_with fail
          go_roundg g2
          case measure => omega
          case rel => exact ⟨k + 1, _, rfl, by omega, by go_num, HR5.out, HK, HG5.out, HB5.out⟩
  · rw [okG_no he] at HEA
    have HN : Hid (okG (DismP (m + 1) l tl) = false) := okG_no (fun h => he h.1)
    clear he
    go_enter Try.func102, Try.ntmps102
    go_wp2_with fail
    refine (HAL.out _).mono ?_
    rintro e w1 ⟨A3, c3, rfl, o3, b1⟩
    have e1 := btrans b0 b1
    have g1 := g0.below b1 g0.lt
    clear b0 b1 g0
    obtain ⟨p0, p1, -, -⟩ := g1.two
    go_wp2_with fail
    refine (HEA.out w1 e1).mono ?_
    rintro e w2 ⟨rfl, b2⟩
    go_wp2_with fail
    go_ret
    exact ⟨ret_bool HN.out.symm, btrans e1 b2⟩

set_option maxHeartbeats 1000000 in
theorem specIsDism_any (s : Int) (v u : Value) (l : List Ed) (tl : List Int) (w : World) (h : Edges w v l) (hl : l.length ≤ 1048576) (hu : Ints w u tl) (htl : tl.length ≤ 1048576) (hs1 : -9223372036854775808 ≤ s) (hs2 : s ≤ 9223372036854775807) :
    Calls Try.prog 51 #[.agg #[.int .i64 s, v], u] w fun e w' => e = .returned (.tuple #[.bool (dismV s l tl), .bool (okG (SomeP s l))]) ∧ Below w.heap.size w w' := by
  obtain ⟨A, c, rfl, -⟩ := h.form
  obtain ⟨A2, c2, rfl, -⟩ := hu.form
  have H := Lib.hid h
  have HU := Lib.hid hu
  have b0 : Below w.heap.size w (w.alloc (.cells #[.int .i64 s, .slice A l.length c] 29)) := (Below.refl _ _).alloc (Nat.le_refl _) _
  have g0 := Blk.new w 29 #[.int .i64 s, .slice A l.length c]
  have HF := Lib.hid (l3Some_any s _ l _ (h.below b0) hl hs1 hs2)
  clear h hu
  by_cases hsm : SomeP s l
  · rw [okG_yes hsm] at HF
    obtain ⟨m, rfl⟩ : ∃ m : Nat, s = ((m + 1 : Nat) : Int) := ⟨s.toNat - 1, by have := hsm.2; omega⟩
    have hn : m + 1 ≤ 8 := by have := hsm.1.2.1; omega
    have HOK := Lib.hid (okG_yes hsm)
    have HGD := Lib.hid hsm.1
    have HV : Hid (dismV ((m + 1 : Nat) : Int) l tl = okG (DismP (m + 1) l tl)) := by
      show _ = _
      unfold dismV
      rw [Int.toNat_natCast, show (SomeP ((m + 1 : Nat) : Int) l ∧ DismP (m + 1) l tl) = DismP (m + 1) l tl from propext ⟨fun h => h.2, fun h => ⟨hsm, h⟩⟩]
    have HO := Lib.hid (fun (W : World) (hb : Below w.heap.size w W) => l3Order_any m _ _ l tl W (H.out.below hb) hl (HU.out.below hb) htl HGD.out hn)
    clear hsm
    go_enter Try.func51, Try.ntmps51
    go_wp2_with fail
    refine HF.out.mono ?_
    rintro e w1 ⟨rfl, b1⟩
    have e_w1 := btrans b0 b1
    have g1 := g0.below b1 g0.lt
    clear HF b0 b1 g0
    obtain ⟨p0, p1, -, -⟩ := g1.two
    go_wp2_with fail
    refine (HO.out w1 e_w1).mono ?_
    rintro e w2 ⟨rfl, b2⟩
    go_wp2_with fail
    go_ret2
    exact ⟨retBB HV.out.symm HOK.out.symm, btrans e_w1 b2⟩
  · rw [okG_no hsm] at HF
    have HN : Hid (dismV s l tl = false) := okG_no (fun h => hsm h.1)
    have HOK := Lib.hid (okG_no hsm)
    clear hsm
    go_enter Try.func51, Try.ntmps51
    go_wp2_with fail
    refine HF.out.mono ?_
    rintro e w1 ⟨rfl, b1⟩
    go_wp2_with fail
    go_ret2
    exact ⟨retBB HN.out.symm HOK.out.symm, btrans b0 b1⟩
end Go.Proofs.Ytbdappkhkngdlab.dism
