/- What layouts measure: the contracts of the program's cut.atEnd, stretch.atEnd and greatestOf. -/
import Derived.Handy
import Derived.Test.YtjcnngnahijceaaCutM
import Derived.Test.YtjcnngnahijceaaOnes
import Derived.Test.YtjcnngnahijceaaFunc
import Derived.Test.YtjcnngnahijceaaAround
namespace Go.Proofs.Ytjcnngnahijceaa.lays
open Go.RowKit P2 words edges ints good adjs fns sets rets covs reach bags each degs bitsI func
set_option linter.unusedVariables false

/-- the cut at the end of a list, by its first k nodes -/
def cutK (n : Nat) (l : List Ed) (xs : List Int) (k : Nat) : Nat := ((xs.take k).map fun x => outN n l (goneB xs) x.toNat).sum
theorem cutK_succ {n : Nat} {l : List Ed} {xs : List Int} {k : Nat} {x : Nat} (h : xs[k]? = some (x : Int)) : cutK n l xs (k + 1) = cutK n l xs k + outN n l (goneB xs) x := by
  unfold cutK
  rw [List.take_add_one, h]
  simp
theorem cutK_le {n : Nat} {l : List Ed} {xs : List Int} : ∀ k, cutK n l xs k ≤ k * n
  | 0 => by simp [cutK]
  | k + 1 => by
    have ih := cutK_le (n := n) (l := l) (xs := xs) k
    unfold cutK at *
    rw [List.take_add_one]
    cases h : xs[k]? with
    | none => simp only [Option.toList, List.append_nil]; rw [Nat.add_mul]; omega
    | some x =>
      have : outN n l (goneB xs) x.toNat ≤ n := nw_len _ _
      simp only [Option.toList, List.map_append, List.sum_append, List.map_cons, List.map_nil, List.sum_cons, List.sum_nil]
      rw [Nat.add_mul]; omega
theorem out_bits {n : Nat} {l : List Ed} (hg : P2.Good (n : Int) l) (hn : n ≤ 8) {xs : List Int} {x : Nat} (hx : x < n) (hm : (x : Int) ∈ xs) (hr : ∀ y ∈ xs, 0 ≤ y ∧ y < (n : Int)) :
    bits .andNot .u64 ((cloB l x : Nat) : Int) ((codeL xs : Nat) : Int) = ((numOf (fun y => !goneB xs y && adj l (x : Int) (y : Int)) n : Nat) : Int) := by
  have hc := cloB_lt' hg x (by omega)
  have hcode : codeL xs = numOf (goneB xs) n := by
    apply Nat.eq_of_testBit_eq
    intro i
    rw [code_bit (fun x hx => (hr x hx).1), numOf_bit]
    unfold goneB
    by_cases hi : i < n
    · simp [hi]
    · have : ¬ (i : Int) ∈ xs := fun hm => by have := hr _ hm; omega
      simp [hi, this]
  rw [hcode]
  refine andNot_num _ _ n (by omega) hn _ fun z _ => ?_
  rw [cloB_bit hg]
  by_cases hz : z < n
  · rw [decide_eq_true hz, Bool.true_and, Bool.true_and]
    by_cases e : x = z
    · subst e
      have : goneB xs x = true := decide_eq_true hm
      rw [this]; simp
    · rw [show (x == z) = false from by simpa using e, Bool.false_or, Bool.and_comm]
  · have h1 : adj l (x : Int) (z : Int) = false := by
      cases ha : adj l (x : Int) (z : Int) with
      | false => rfl
      | true => have := (adj_node hg ha).2; omega
    rw [h1]
    have e : ¬ x = z := by omega
    simp [hz, e]
theorem l7Greatest_any (u : Value) (xs : List Int) (w : World) (hu : Ints w u xs) (hxl : xs.length ≤ 1048576) :
    Calls Try.prog 51 #[u] w fun e w' => e = .returned (.int .i64 (grL xs)) ∧ w = w' := by
  obtain ⟨A2, c2, rfl, hc2⟩ := hu.form
  have HC2 := Lib.hid hc2
  clear hu hc2
  go_enter Try.func51, Try.ntmps51
  go_wp2_with fail
  go_loop [3, 4] (fun s i => ∃ k : Nat, k ≤ xs.length ∧ i = .int .i64 (k : Int) ∧ s = .int .i64 (grL (xs.take k))) (fun _ i => xs.length - (intOf i).toNat)
  case atStart => exact ⟨0, Nat.zero_le _, rfl, rfl⟩
  case round =>
    obtain ⟨k, hk, rfl, rfl⟩ := hrel
    by_cases hlt : k < xs.length
    · have hlt' : (k : Int) < (xs.length : Int) := by omega
      obtain ⟨x, hx⟩ : ∃ x, xs[k]? = some x := ⟨_, List.getElem?_eq_getElem hlt⟩
      obtain ⟨g5, o5, rfl, c5⟩ := HC2.out k _ hx
      have HS : Hid (grL (xs.take (k + 1)) = max (grL (xs.take k)) x) := by show _ = _; rw [List.take_add_one, hx]; exact grL_snoc _ _
      clear hx
      have HM := Lib.hid (fun (W : World) => minmax.l1Most_any (grL (xs.take k)) x W)
      generalize grL (xs.take k) = b at *
      go_wp2_with fail
      refine (HM.out _).mono ?_
      rintro e w' ⟨rfl, rfl⟩
      go_wp2_with fail
      go_round
      case rel => exact ⟨k + 1, by omega, by go_num, by rw [HS.out]⟩
      case measure => simp [intOf]; omega
    · obtain rfl : k = xs.length := by omega
      have HT : Hid (xs.take xs.length = xs) := List.take_length
      go_wp2_with fail
      go_ret
      exact ⟨ret_int (by first | rfl | rw [HT.out]), rfl⟩
end Go.Proofs.Ytjcnngnahijceaa.lays
