/- Shadows and retractions along the stripping, as sequences. -/
import Derived.Test.YtcnfeijniidclaaDoorCore
namespace Go.Proofs.YtcnfeijniidclaaDoor.shad
open Go.RowKit P2 words edges ints good adjs fns sets rets covs cors dism least strip core
set_option linter.unusedVariables false

def shX (l : List Ed) (n : Nat) (x : Int) : Nat → Int
  | 0 => x
  | k + 1 => if shX l n x k = sX l n k then sY l n k else shX l n x k
def shT (l : List Ed) (n : Nat) (x : Int) (k : Nat) : List Int := (List.range (k + 1)).map (shX l n x)
theorem shT_len (l : List Ed) (n : Nat) (x : Int) (k : Nat) : (shT l n x k).length = k + 1 := by simp [shT]
theorem shT_zero (l : List Ed) (n : Nat) (x : Int) : shT l n x 0 = [x] := rfl
theorem shT_succ (l : List Ed) (n : Nat) (x : Int) (k : Nat) : shT l n x (k + 1) = shT l n x k ++ [shX l n x (k + 1)] := by
  unfold shT; rw [List.range_succ (n := k + 1), List.map_append]; rfl
theorem shX_yes {l : List Ed} {n : Nat} {x : Int} {k : Nat} (h : shX l n x k = sX l n k) : shX l n x (k + 1) = sY l n k := by rw [shX, if_pos h]
theorem shX_no {l : List Ed} {n : Nat} {x : Int} {k : Nat} (h : ¬ shX l n x k = sX l n k) : shX l n x (k + 1) = shX l n x k := by rw [shX, if_neg h]
noncomputable def shL (l : List Ed) (n : Nat) (x : Int) : List Int := shT l n x (kL l n)
theorem sL_at {l : List Ed} {n k m : Nat} (h : k < m) : (sL l n m)[k]? = some (sX l n k, sY l n k) := by simp [sL, h]
theorem sh_len (s x : Int) (l : List Ed) : (inG (NodeOk s l x) (shL l s.toNat x)).length ≤ 1048576 := inG_len fun h => by
  unfold shL; rw [shT_len]; have := kL_le (l := l) (n := s.toNat); omega
/-- the last of so many steps is undone first -/
def reT (l : List Ed) (n m : Nat) : Nat → List Int
  | 0 => allN n
  | j + 1 => (reT l n m j).set (sX l n (m - 1 - j)).toNat ((reT l n m j).getD (sY l n (m - 1 - j)).toNat 0)
theorem reT_len (l : List Ed) (n m : Nat) : ∀ j, (reT l n m j).length = n
  | 0 => allN_len n
  | j + 1 => by rw [reT, List.length_set, reT_len l n m j]
noncomputable def reL (l : List Ed) (n : Nat) : List Int := reT l n (kL l n) (kL l n)
theorem re_len (s : Int) (l : List Ed) : (inG (SomeP s l) (reL l s.toNat)).length ≤ 1048576 := inG_len fun h => by
  unfold reL; rw [reT_len]; have := h.1.2.1; omega
end Go.Proofs.YtcnfeijniidclaaDoor.shad
