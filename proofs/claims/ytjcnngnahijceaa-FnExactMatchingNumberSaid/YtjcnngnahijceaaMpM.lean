/- The greatest number of edges no two of which have a common node: mathematics. -/
import Derived.Test.YtjcnngnahijceaaCov
import Derived.Test.YtjcnngnahijceaaNearV
namespace Go.Proofs.Ytjcnngnahijceaa.mps
open Go.RowKit P2 words edges ints good adjs fns sets rets covs
set_option linter.unusedVariables false

def freeB (e : Ed) (u : Nat) : Bool := !u.testBit e.1.toNat && !u.testBit e.2.toNat
def pairN (e : Ed) : Nat := codeL [e.1, e.2]
def mpN : List Ed → Nat → Nat
  | [], _ => 0
  | e :: r, u => max (if freeB e u = true then 1 + mpN r (u ||| pairN e) else 0) (mpN r u)
theorem mpN_le : ∀ (l : List Ed) (u : Nat), mpN l u ≤ l.length
  | [], _ => Nat.le_refl _
  | e :: r, u => by
    unfold mpN
    have h1 := mpN_le r u
    have h2 := mpN_le r (u ||| pairN e)
    rw [List.length_cons]
    split <;> omega
theorem drop_cons {l : List Ed} {k : Nat} {e : Ed} (h : l[k]? = some e) : l.drop k = e :: l.drop (k + 1) := by
  obtain ⟨h1, h2⟩ := List.getElem?_eq_some_iff.1 h
  rw [List.drop_eq_getElem_cons h1, h2]
theorem mp_yes {l : List Ed} {k : Nat} {e : Ed} {u b t : Nat} (h : l[k]? = some e) (hf : freeB e u = true) (hb : max b (mpN (l.drop k) u) = t) : max (max b (1 + mpN (l.drop (k + 1)) (u ||| pairN e))) (mpN (l.drop (k + 1)) u) = t := by
  rw [drop_cons h, mpN, if_pos hf] at hb
  omega
theorem mp_no {l : List Ed} {k : Nat} {e : Ed} {u b t : Nat} (h : l[k]? = some e) (hf : freeB e u = false) (hb : max b (mpN (l.drop k) u) = t) : max b (mpN (l.drop (k + 1)) u) = t := by
  rw [drop_cons h, mpN, if_neg (by simp [hf])] at hb
  omega
theorem mp_end {l : List Ed} {u b t : Nat} (hb : max b (mpN (l.drop l.length) u) = t) : t = b := by
  rw [List.drop_length] at hb
  unfold mpN at hb
  omega
/-- the nodes of the edges are there -/
def EdOk (l : List Ed) : Prop := ∀ e ∈ l, 0 ≤ e.1 ∧ e.1 < 8 ∧ 0 ≤ e.2 ∧ e.2 < 8
theorem EdOk.drop {l : List Ed} (h : EdOk l) (k : Nat) : EdOk (l.drop k) := fun e he => h e (List.mem_of_mem_drop he)
theorem pair_bit {e : Ed} (h1 : 0 ≤ e.1) (h2 : 0 ≤ e.2) (k : Nat) : (pairN e).testBit k = (decide ((k : Int) = e.1) || decide ((k : Int) = e.2)) := by
  unfold pairN
  rw [code_bit (by intro x hx; simp at hx; rcases hx with rfl | rfl <;> omega)]
  rw [Bool.eq_iff_iff]
  simp
theorem pair_lt {e : Ed} (h : 0 ≤ e.1 ∧ e.1 < 8 ∧ 0 ≤ e.2 ∧ e.2 < 8) : pairN e < 256 := code_lt (m := 8) fun x hx => by
  simp at hx
  rcases hx with rfl | rfl <;> omega
theorem free_and {e : Ed} {u : Nat} (h : 0 ≤ e.1 ∧ e.1 < 8 ∧ 0 ≤ e.2 ∧ e.2 < 8) : (u &&& pairN e == 0) = freeB e u := by
  have hb := pair_bit h.1 h.2.2.1
  have e1 : ((e.1.toNat : Nat) : Int) = e.1 := by omega
  have e2 : ((e.2.toNat : Nat) : Int) = e.2 := by omega
  unfold freeB
  rw [Bool.eq_iff_iff, beq_iff_eq, Bool.and_eq_true, Bool.not_eq_true', Bool.not_eq_true']
  constructor
  · intro h0
    have key : ∀ k, (u.testBit k && (pairN e).testBit k) = false := fun k => by rw [← Nat.testBit_and, h0, Nat.zero_testBit]
    have k1 := key e.1.toNat
    have k2 := key e.2.toNat
    rw [hb, e1] at k1
    rw [hb, e2] at k2
    simp at k1 k2
    exact ⟨k1, k2⟩
  · rintro ⟨h1, h2⟩
    apply Nat.eq_of_testBit_eq
    intro k
    rw [Nat.testBit_and, hb, Nat.zero_testBit]
    by_cases ha : (k : Int) = e.1
    · have : k = e.1.toNat := by omega
      subst this; rw [h1]; rfl
    · by_cases hc : (k : Int) = e.2
      · have : k = e.2.toNat := by omega
        subst this; rw [h2]; rfl
      · simp [ha, hc]
noncomputable def mpV (l : List Ed) : Int := (mpN l 0 : Int)
end Go.Proofs.Ytjcnngnahijceaa.mps
