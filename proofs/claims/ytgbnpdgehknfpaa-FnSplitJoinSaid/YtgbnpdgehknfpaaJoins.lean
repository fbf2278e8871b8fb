/- Plain mathematics of joining: texts with a byte between them. It imports nothing of the program. -/
import Derived.Below
namespace Go.Proofs.Ytgbnpdgehknfpaa.P4
open Go

def joinN (l : List ByteArray) (c : UInt8) : Nat → List UInt8
  | 0 => []
  | k + 1 => (joinN l c k ++ if k = 0 then [] else [c]) ++ ((l[k]?).map fun x => x.data.toList).getD []
def okJoin (l : List ByteArray) (c : UInt8) : Bool := decide ((∀ x ∈ l, c ∉ x.data.toList) ∧ (joinN l c l.length).length ≤ 4000)
def outJoin (l : List ByteArray) (c : UInt8) : List UInt8 := if okJoin l c then joinN l c l.length else []

theorem joinN_succ {l : List ByteArray} {c : UInt8} {k : Nat} {x : ByteArray} (h : l[k]? = some x) : joinN l c (k + 1) = (joinN l c k ++ if k = 0 then [] else [c]) ++ x.data.toList := by
  rw [joinN, h]; rfl
theorem joinN_mono (l : List ByteArray) (c : UInt8) (k j : Nat) : (joinN l c k).length ≤ (joinN l c (k + j)).length := by
  induction j with
  | zero => exact Nat.le_refl _
  | succ j ih =>
    have : (joinN l c (k + j)).length ≤ (joinN l c (k + (j + 1))).length := by
      rw [show k + (j + 1) = (k + j) + 1 from rfl, joinN]
      simp only [List.length_append]
      omega
    omega
theorem ok_mem {l : List ByteArray} {c : UInt8} {k : Nat} {x : ByteArray} (h : l[k]? = some x) (hc : c ∈ x.data.toList) : okJoin l c = false := by
  unfold okJoin
  rw [decide_eq_false_iff_not]
  rintro ⟨h1, _⟩
  exact h1 x (List.mem_of_getElem? h) hc
theorem ok_long {l : List ByteArray} {c : UInt8} {k : Nat} (hk : k ≤ l.length) (h : 4000 < (joinN l c k).length) : okJoin l c = false := by
  unfold okJoin
  rw [decide_eq_false_iff_not]
  rintro ⟨_, h1⟩
  have := joinN_mono l c k (l.length - k)
  rw [show k + (l.length - k) = l.length from by omega] at this
  omega
/-- the first k texts do not hold the byte -/
def NoSep (l : List ByteArray) (c : UInt8) (k : Nat) : Prop := ∀ j x, j < k → l[j]? = some x → c ∉ x.data.toList
theorem NoSep.zero (l : List ByteArray) (c : UInt8) : NoSep l c 0 := fun _ _ h => by omega
theorem NoSep.succ {l : List ByteArray} {c : UInt8} {k : Nat} {x : ByteArray} (h : NoSep l c k) (hx : l[k]? = some x) (hc : c ∉ x.data.toList) : NoSep l c (k + 1) := fun j y hj hy => by
  by_cases e : j = k
  · subst e; rw [hx] at hy; cases hy; exact hc
  · exact h j y (by omega) hy
theorem ok_all {l : List ByteArray} {c : UInt8} (h : NoSep l c l.length) (h2 : (joinN l c l.length).length ≤ 4000) : okJoin l c = true := by
  unfold okJoin
  rw [decide_eq_true_iff]
  refine ⟨fun x hx => ?_, h2⟩
  obtain ⟨j, hj⟩ := List.getElem?_of_mem hx
  exact h j x (List.getElem?_eq_some_iff.1 hj).1 hj
theorem out_no {l : List ByteArray} {c : UInt8} (h : okJoin l c = false) : outJoin l c = [] := by simp [outJoin, h]
theorem out_yes {l : List ByteArray} {c : UInt8} (h : okJoin l c = true) : outJoin l c = joinN l c l.length := by simp [outJoin, h]

/-- the bytes of a list of texts, all together -/
def total (l : List ByteArray) : Nat := (l.map (·.size)).sum
theorem total_take_succ {l : List ByteArray} {k : Nat} {x : ByteArray} (h : l[k]? = some x) : total (l.take (k + 1)) = total (l.take k) + x.size := by
  unfold total
  rw [List.take_add_one, h]
  simp
theorem total_at {l : List ByteArray} {k : Nat} {x : ByteArray} (h : l[k]? = some x) : x.size ≤ total l := by
  have h1 := total_take_succ h
  have h2 : total (l.take (k + 1)) ≤ total l := by
    unfold total
    have := List.take_append_drop (k + 1) l
    have e : (l.map (·.size)).sum = ((l.take (k + 1)).map (·.size)).sum + ((l.drop (k + 1)).map (·.size)).sum := by
      rw [← List.sum_append, ← List.map_append, this]
    omega
  omega
end Go.Proofs.Ytgbnpdgehknfpaa.P4
