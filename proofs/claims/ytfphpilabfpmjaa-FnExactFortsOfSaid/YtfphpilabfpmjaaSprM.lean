/- Spreads: mathematics. -/
import Derived.Test.YtfphpilabfpmjaaUpsM
import Derived.Test.YtfphpilabfpmjaaBagM
namespace Go.Proofs.Ytfphpilabfpmjaa.ups
open Go.RowKit P2 words edges ints good adjs fns sets rets covs bitsI bags
set_option linter.unusedVariables false

theorem ones_mono {a b : Nat} (h : ∀ k, k < 8 → bitB a k = true → bitB b k = true) : onesN a ≤ onesN b := by
  unfold onesN nw
  rw [List.length_map, List.length_map, ← List.countP_eq_length_filter, ← List.countP_eq_length_filter]
  exact List.countP_mono_left fun k hk => h k (List.mem_range.1 hk)
theorem ones_put' : ∀ d : Fin 256, ∀ x : Fin 8, d.1.testBit x.1 = false → onesN (d.1 ||| 2 ^ x.1) = onesN d.1 + 1 := by decide +kernel
theorem ones_put {d x : Nat} (hd : d < 256) (hx : x < 8) (h : d.testBit x = false) : onesN (d ||| 2 ^ x) = onesN d + 1 := ones_put' ⟨d, hd⟩ ⟨x, hx⟩ h
theorem put_bit (d x k : Nat) : (d ||| 2 ^ x).testBit k = (d.testBit k || decide (x = k)) := by rw [Nat.testBit_or, Nat.testBit_two_pow]
theorem put_same {d x : Nat} (h : d.testBit x = true) : d ||| 2 ^ x = d := by
  apply Nat.eq_of_testBit_eq
  intro k
  rw [put_bit]
  by_cases e : x = k
  · subst e; simp [h]
  · simp [e]
/-- how many nodes of a set are in the closed neighborhood of a node -/
def insN (l : List Ed) (c x : Nat) : Nat := onesN (cloB l x &&& c)
theorem ins_mono {l : List Ed} {c d : Nat} (h : ∀ k, c.testBit k = true → d.testBit k = true) (x : Nat) : insN l c x ≤ insN l d x :=
  ones_mono fun k _ hk => by
    unfold bitB at hk ⊢
    rw [Nat.testBit_and, Bool.and_eq_true] at hk ⊢
    exact ⟨hk.1, h k hk.2⟩
def AddS (n : Nat) (l : List Ed) (r d x : Nat) : Prop := x < n ∧ d.testBit x = false ∧ r ≤ insN l d x
inductive Spr (n : Nat) (l : List Ed) (r c : Nat) : Nat → Prop
  | base : Spr n l r c c
  | step {d x : Nat} : Spr n l r c d → AddS n l r d x → Spr n l r c (d ||| 2 ^ x)
def Stops (n : Nat) (l : List Ed) (r d : Nat) : Prop := ∀ x, ¬ AddS n l r d x
theorem spr_sub {n : Nat} {l : List Ed} {r c d : Nat} (h : Spr n l r c d) : ∀ k, c.testBit k = true → d.testBit k = true := by
  induction h with
  | base => exact fun _ h => h
  | step _ _ ih => exact fun k hk => by rw [put_bit, ih k hk]; rfl
theorem spr_lt {n : Nat} {l : List Ed} {r c d : Nat} (h : Spr n l r c d) (hc : c < 2 ^ n) : d < 2 ^ n := by
  induction h with
  | base => exact hc
  | step _ ha ih => exact Nat.or_lt_two_pow ih (Nat.pow_lt_pow_right (by decide) ha.1)
theorem spr_in {n : Nat} {l : List Ed} {r c d e : Nat} (h : Spr n l r c d) (he : Stops n l r e) (hs : ∀ k, c.testBit k = true → e.testBit k = true) : ∀ k, d.testBit k = true → e.testBit k = true := by
  induction h with
  | base => exact hs
  | @step d x _ ha ih =>
    intro k hk
    rw [put_bit, Bool.or_eq_true, decide_eq_true_iff] at hk
    rcases hk with hk | rfl
    · exact ih k hk
    · cases hb : e.testBit x with
      | true => rfl
      | false => exact absurd ⟨ha.1, hb, Nat.le_trans ha.2.2 (ins_mono ih x)⟩ (he x)
theorem spr_same {n : Nat} {l : List Ed} {r c d e : Nat} (hd : Spr n l r c d) (sd : Stops n l r d) (he : Spr n l r c e) (se : Stops n l r e) : d = e := by
  apply Nat.eq_of_testBit_eq
  intro k
  rw [Bool.eq_iff_iff]
  exact ⟨spr_in hd se (spr_sub he) k, spr_in he sd (spr_sub hd) k⟩
/-- the spread -/
noncomputable def spN (n : Nat) (l : List Ed) (r c : Nat) : Nat := Classical.epsilon fun d => Spr n l r c d ∧ Stops n l r d
theorem spN_is {n : Nat} {l : List Ed} {r c d : Nat} (hd : Spr n l r c d) (sd : Stops n l r d) : spN n l r c = d := by
  have h := Classical.epsilon_spec (p := fun d => Spr n l r c d ∧ Stops n l r d) ⟨d, hd, sd⟩
  exact spr_same h.1 h.2 hd sd
/-- a set has all nodes -/
theorem ones_full : ∀ n : Fin 9, ∀ d : Fin 256, d.1 < 2 ^ n.1 → (onesN d.1 = n.1 ↔ d.1 = 2 ^ n.1 - 1) := by decide +kernel
theorem ones_top : ∀ n : Fin 9, ∀ d : Fin 256, d.1 < 2 ^ n.1 → onesN d.1 ≤ n.1 := by decide +kernel
theorem full_stops {n : Nat} {l : List Ed} {r d : Nat} (h : d = 2 ^ n - 1) : Stops n l r d := fun x hx => by
  have h2 := hx.2.1
  rw [h, Nat.testBit_two_pow_sub_one, decide_eq_false_iff_not] at h2
  exact h2 hx.1
/-- the neighbors of a node that are in a set without it -/
theorem ins_len {n : Nat} {l : List Ed} {d x : Nat} (hg : P2.Good (n : Int) l) (hn : n ≤ 8) (hd : d < 2 ^ n) (hx : d.testBit x = false) : (nw (fun y => bitB d y && adj l (y : Int) (x : Int)) n).length = insN l d x := by
  unfold insN onesN
  rw [nw_congr (q := bitB (cloB l x &&& d)) (n := n) (fun k hk => by
    unfold bitB
    rw [Nat.testBit_and, cloB_bit hg, adj_comm, Bool.and_comm]
    by_cases e : x = k
    · subst e; rw [hx]; simp
    · have : (x == k) = false := by simpa using e
      rw [this, Bool.false_or])]
  rw [nw_more hn fun k h1 _ => ?_]
  unfold bitB
  rw [Nat.testBit_and, Nat.testBit_lt_two_pow (Nat.lt_of_lt_of_le hd (Nat.pow_le_pow_right (by decide) h1)), Bool.and_false]
/-- neighbors of a node of a set that are not in it -/
theorem out_len {n : Nat} {l : List Ed} {d x : Nat} (hg : P2.Good (n : Int) l) (hn : n ≤ 8) (hx : d.testBit x = true) (q : Nat → Bool) (hq : ∀ z, z < n → q z = ((cloB l x).testBit z && !d.testBit z)) : (nw (fun y => adj l (x : Int) (y : Int)) n).length = (nw (fun y => bitB d y && adj l (y : Int) (x : Int)) n).length + onesN (numOf q n) := by
  rw [ones_num _ hn]
  rw [nw_congr (p := q) (q := fun y => !bitB d y && adj l (y : Int) (x : Int)) (fun k hk => by
    rw [hq k hk, cloB_bit hg, adj_comm, Bool.and_comm]
    unfold bitB
    by_cases e : x = k
    · subst e; rw [hx]; simp
    · have : (x == k) = false := by simpa using e
      rw [this, Bool.false_or])]
  unfold nw
  rw [List.length_map, List.length_map, List.length_map, ← List.countP_eq_length_filter, ← List.countP_eq_length_filter, ← List.countP_eq_length_filter]
  have h := List.countP_eq_countP_filter_add (List.range n) (fun y : Nat => adj l (x : Int) (y : Int)) (bitB d)
  rw [h, List.countP_filter, List.countP_filter]
  congr 1
  · congr 1; funext y; rw [adj_comm, Bool.and_comm]
  · congr 1; funext y; rw [adj_comm, Bool.and_comm]
end Go.Proofs.Ytfphpilabfpmjaa.ups
