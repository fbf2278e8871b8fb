/- Lists of cops: slices.IsSorted, isCops, l4Field, l4Cops. -/
import Derived.Handy
import Derived.Test.YtphlpipbhaiijaaCopsM
import Derived.Test.YtphlpipbhaiijaaNearV
import Derived.Deep.DeepCutAuto
import Derived.Deep.QuietTactic
import Derived.BigQuiet
import Derived.Deep.RegionHeld3
namespace Go.Proofs.Ytphlpipbhaiijaa.cops
open Go.RowKit P2 words edges ints good adjs fns rets sets covs balls
set_option linter.unusedVariables false

theorem isNaN_any (x : Int) (w : World) : Calls Try.prog 171 #[.int .i64 x] w fun e w' => e = .returned (.bool false) ∧ w = w' := by
  have h : (x != x) = false := by simp
  go_enter Try.func171, Try.ntmps171
  go_wp2_with fail
  go_ret
  exact ⟨by simp, rfl⟩

def FieldP (s : Int) (l : List Ed) (k : Int) : Prop := P2.Good s l ∧ 0 < s ∧ 1 ≤ k ∧ k ≤ 3
theorem l4Field_any (s k : Int) (v : Value) (l : List Ed) (w : World) (h : Edges w v l) (hl : l.length ≤ 1048576) (hs1 : -9223372036854775808 ≤ s) (hs2 : s ≤ 9223372036854775807) :
    Calls Try.prog 90 #[.agg #[.int .i64 s, v], .int .i64 k] w fun e w' => e = .returned (.bool (okG (FieldP s l k))) ∧ Below w.heap.size w w' := by
  obtain ⟨A, c, rfl, -⟩ := h.form
  have b0 : Below w.heap.size w (w.alloc (.cells #[.int .i64 s, .slice A l.length c] 29)) := (Below.refl _ _).alloc (Nat.le_refl _) _
  have g0 := Blk.new w 29 #[.int .i64 s, .slice A l.length c]
  have HG := Lib.hid (l2Good_any s _ l _ (h.below b0) hl hs1 hs2)
  clear h
  by_cases hgd : P2.Good s l
  · rw [goodB_yes hgd] at HG
    by_cases hs : 0 < s
    · have HV : Hid (okG (FieldP s l k) = inB k 1 3) := by
        show _ = _
        by_cases hk : 1 ≤ k ∧ k ≤ 3
        · rw [okG_yes (show FieldP s l k from ⟨hgd, hs, hk⟩)]; simp [inB, hk]
        · rw [okG_no (show ¬ FieldP s l k from fun hh => hk hh.2.2)]; symm; simp [inB]; omega
      have d0 : decide (0 < s) = true := decide_eq_true hs
      rw [HV.out]
      clear hgd HV
      go_enter Try.func90, Try.ntmps90
      go_wp2_with fail
      refine HG.out.mono ?_
      rintro e w1 ⟨rfl, b1⟩
      have e1 := btrans b0 b1
      have g1 := g0.below b1 g0.lt
      obtain ⟨p0, p1, -, -⟩ := g1.two
      clear HG b0 b1 g0 g1
      go_wp2_with fail
      refine (l1In_any k 1 3 w1).mono ?_
      rintro e w' ⟨rfl, rfl⟩
      go_wp2_with fail
      go_ret
      exact ⟨rfl, e1⟩
    · have d0 : decide (0 < s) = false := decide_eq_false hs
      rw [okG_no (show ¬ FieldP s l k from fun hh => hs hh.2.1)]
      clear hgd
      go_enter Try.func90, Try.ntmps90
      go_wp2_with fail
      refine HG.out.mono ?_
      rintro e w1 ⟨rfl, b1⟩
      have e1 := btrans b0 b1
      have g1 := g0.below b1 g0.lt
      obtain ⟨p0, p1, -, -⟩ := g1.two
      clear HG b0 b1 g0 g1
      go_wp2_with fail
      go_ret
      exact ⟨rfl, e1⟩
  · rw [goodB_no hgd] at HG
    rw [okG_no (show ¬ FieldP s l k from fun hh => hgd hh.1)]
    clear hgd
    go_enter Try.func90, Try.ntmps90
    go_wp2_with fail
    refine HG.out.mono ?_
    rintro e w1 ⟨rfl, b1⟩
    have e1 := btrans b0 b1
    clear HG b0 b1 g0
    go_wp2_with fail
    go_ret
    exact ⟨rfl, e1⟩
/-- nodes in order -/
def CopP (n : Nat) (tl : List Int) : Prop := (∀ x ∈ tl, 0 ≤ x ∧ x < (n : Int)) ∧ Up tl
def CopTo (n : Nat) (tl : List Int) (k : Nat) : Prop := (∀ j x, j < k → tl[j]? = some x → 0 ≤ x ∧ x < (n : Int)) ∧ ∀ j x y, j + 1 < k → tl[j]? = some x → tl[j + 1]? = some y → x ≤ y
theorem CopTo.all {n : Nat} {tl : List Int} (h : CopTo n tl tl.length) : CopP n tl :=
  ⟨fun x hx => by
    obtain ⟨j, hj⟩ := List.mem_iff_getElem?.1 hx
    exact h.1 j x (List.getElem?_eq_some_iff.1 hj).1 hj,
   UpFrom.up fun j x y _ hx hy => h.2 j x y (List.getElem?_eq_some_iff.1 hy).1 hx hy⟩
theorem CopTo.succ {n : Nat} {tl : List Int} {k : Nat} {x : Int} (h : CopTo n tl k) (hx : tl[k]? = some x) (h1 : 0 ≤ x ∧ x < (n : Int)) (h2 : ∀ m y, k = m + 1 → tl[m]? = some y → y ≤ x) : CopTo n tl (k + 1) :=
  ⟨fun j y hj hy => by
    by_cases e : j = k
    · subst e; rw [hx] at hy; cases hy; exact h1
    · exact h.1 j y (by omega) hy,
   fun j a b hj ha hb => by
    by_cases e : j + 1 = k
    · subst e; rw [hx] at hb; cases hb; exact h2 j a rfl ha
    · exact h.2 j a b (by omega) ha hb⟩
end Go.Proofs.Ytphlpipbhaiijaa.cops
