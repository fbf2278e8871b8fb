/- Plain mathematics of splitting: the pieces of a text between a byte. It imports nothing of the program. -/
import Derived.Below
namespace Go.Proofs.YtgbnpdgehknfpaaDoor.P3
open Go

/-- behind k bytes: the pieces that are done, and where the open one begins -/
def cutN (s : ByteArray) (c : UInt8) : Nat → List ByteArray × Nat
  | 0 => ([], 0)
  | k + 1 => if s.data.toList[k]? = some c then ((cutN s c k).1 ++ [s.extract (cutN s c k).2 k], k + 1) else cutN s c k
def splitN (s : ByteArray) (c : UInt8) : List ByteArray := (cutN s c s.size).1 ++ [s.extract (cutN s c s.size).2 s.size]

theorem at_list (s : ByteArray) (k : Nat) (h : k < s.size) : s.data.toList[k]? = some s[k] := by
  rw [List.getElem?_eq_getElem (by simpa using h)]
  rfl
theorem cutN_hit (s : ByteArray) (c : UInt8) (k : Nat) (h : k < s.size) (hc : s[k] = c) : cutN s c (k + 1) = ((cutN s c k).1 ++ [s.extract (cutN s c k).2 k], k + 1) := by
  rw [cutN, if_pos (by rw [at_list s k h, hc])]
theorem cutN_miss (s : ByteArray) (c : UInt8) (k : Nat) (h : k < s.size) (hc : s[k] ≠ c) : cutN s c (k + 1) = cutN s c k := by
  rw [cutN, if_neg (by rw [at_list s k h]; intro e; exact hc (Option.some.inj e))]
theorem cutN_from (s : ByteArray) (c : UInt8) (k : Nat) : (cutN s c k).2 ≤ k := by
  induction k with
  | zero => exact Nat.le_refl _
  | succ k ih =>
    rw [cutN]
    split
    · exact Nat.le_refl _
    · omega
theorem cutN_len (s : ByteArray) (c : UInt8) (k : Nat) : (cutN s c k).1.length ≤ k := by
  induction k with
  | zero => exact Nat.le_refl _
  | succ k ih =>
    rw [cutN]
    split
    · simp; omega
    · omega
theorem splitN_len (s : ByteArray) (c : UInt8) : 1 ≤ (splitN s c).length ∧ (splitN s c).length ≤ s.size + 1 := by
  have := cutN_len s c s.size
  simp [splitN]; omega
end Go.Proofs.YtgbnpdgehknfpaaDoor.P3
