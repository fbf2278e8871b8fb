/- The contract of slices.Max over integers. -/
import Derived.Handy
import Derived.Test.YtbbgbepemnmfdaaInts
namespace Go.Proofs.Ytbbgbepemnmfdaa.maxi
open Go.RowKit P2 words ints
set_option linter.unusedVariables false

def MaxIs (xs : List Int) (M : Int) : Prop := (∀ y ∈ xs, y ≤ M) ∧ M ∈ xs
/-- the greatest so far -/
def MaxTo (xs : List Int) (k : Nat) (M : Int) : Prop := (∀ j y, j < k → xs[j]? = some y → y ≤ M) ∧ M ∈ xs
theorem MaxTo.succ {xs : List Int} {k : Nat} {M y : Int} (h : MaxTo xs k M) (hy : xs[k]? = some y) : MaxTo xs (k + 1) (if M < y then y else M) := by
  rw [show (if M < y then y else M) = max M y from by split <;> omega]
  refine ⟨fun j z hj hz => ?_, ?_⟩
  · by_cases e : j = k
    · subst e; rw [hy] at hz; cases hz; omega
    · have := h.1 j z (by omega) hz; omega
  · by_cases e : M ≤ y
    · rw [Int.max_eq_right e]; exact List.mem_of_getElem? hy
    · rw [Int.max_eq_left (by omega)]; exact h.2
theorem MaxTo.all {xs : List Int} {M : Int} (h : MaxTo xs xs.length M) : MaxIs xs M :=
  ⟨fun y hy => by
    obtain ⟨j, hj⟩ := List.mem_iff_getElem?.1 hy
    exact h.1 j y (List.getElem?_eq_some_iff.1 hj).1 hj, h.2⟩
set_option maxHeartbeats 1000000 in
theorem max_any (u : Value) (xs : List Int) (w : World) (hu : Ints w u xs) (hxl : xs.length ≤ 1048576) (h0 : 0 < xs.length) :
    Calls Try.prog 66 #[u] w fun e w' => ∃ M, e = .returned (.int .i64 M) ∧ MaxIs xs M ∧ w = w' := by
  obtain ⟨A2, c2, rfl, hc⟩ := hu.form
  have HC := Lib.hid hc
  obtain ⟨y0, hy0⟩ : ∃ y, xs[0]? = some y := ⟨_, List.getElem?_eq_getElem h0⟩
  obtain ⟨g0, o0, rfl, q0⟩ := hc 0 y0 hy0
  have HM0 : Hid (MaxTo xs 1 y0) := ⟨fun j y hj hy => by
    have : j = 0 := by omega
    subst this
    rw [hy0] at hy; cases hy; exact Int.le_refl _, List.mem_of_getElem? hy0⟩
  have h0' : ¬ ((xs.length : Int) < 1) := by omega
  have h1' : (0 : Int) < (xs.length : Int) := by omega
  clear hu hc hy0
  rw [Nat.add_zero] at q0
  go_enter Try.func66, Try.ntmps66
  go_wp2_with fail
  go_loop [3, 4] (fun m i => ∃ (k : Nat) (M : Int), k ≤ xs.length ∧ i = .int .i64 (k : Int) ∧ m = .int .i64 M ∧ Hid (MaxTo xs k M)) (fun _ i => xs.length - (intOf i).toNat)
  case atStart => exact ⟨1, y0, by omega, rfl, rfl, HM0⟩
  case round =>
    clear HM0
    obtain ⟨k, M, hk, rfl, rfl, hm⟩ := hrel
    by_cases hlt : k < xs.length
    · obtain ⟨y, hy⟩ : ∃ y, xs[k]? = some y := ⟨_, List.getElem?_eq_getElem hlt⟩
      obtain ⟨g, o, hgo, c0⟩ := HC.out k y hy
      obtain ⟨rfl, rfl⟩ : g0 = g ∧ o0 = o := by simpa using hgo
      have hlt' : (k : Int) < (xs.length : Int) := by omega
      have HM1 := Lib.hid (hm.out.succ hy)
      clear hy hm
      go_wp2_with fail
      go_round
      case rel => exact ⟨k + 1, _, by omega, by go_num, rfl, HM1⟩
      case measure => simp [intOf]; omega
    · obtain rfl : k = xs.length := by omega
      have HM1 : Hid (MaxIs xs M) := hm.out.all
      go_wp2_with fail
      go_ret
      exact ⟨M, rfl, HM1.out, rfl⟩
end Go.Proofs.Ytbbgbepemnmfdaa.maxi
