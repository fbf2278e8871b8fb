/- The contracts of slices.Index, slices.Contains over integers, and of slices.IndexFunc, slices.ContainsFunc over slices of integers. -/
import Derived.Handy
import Derived.Test.YtjcnngnahijceaaFunc
import Derived.Test.YtjcnngnahijceaaGridR
namespace Go.Proofs.Ytjcnngnahijceaa.idx
open Go.RowKit P2 words edges ints fns func gridr
set_option linter.unusedVariables false

def idxE (tl : List Int) (x : Int) : Int := idxF (fun y => y == x) tl
set_option maxHeartbeats 1000000 in
theorem index_any (u : Value) (xs : List Int) (x : Int) (w : World) (hu : Ints w u xs) (hxl : xs.length ≤ 1048576) :
    Calls Try.prog 136 #[u, .int .i64 x] w fun e w' => e = .returned (.int .i64 (idxE xs x)) ∧ w = w' := by
  obtain ⟨A2, c2, rfl, hc⟩ := hu.form
  have HC := Lib.hid hc
  clear hu hc
  go_enter Try.func136, Try.ntmps136
  go_wp2_with fail
  go_loop [8] (fun i => ∃ k : Nat, k ≤ xs.length ∧ i = .int .i64 (k : Int) ∧ Hid (∀ j y, j < k → xs[j]? = some y → (y == x) = false)) (fun i => xs.length - (intOf i).toNat)
  case atStart => exact ⟨0, by omega, rfl, fun j e h => by omega⟩
  case round =>
    obtain ⟨k, hk, rfl, hno⟩ := hrel
    by_cases hlt : k < xs.length
    · have hlt' : (k : Int) < (xs.length : Int) := by omega
      obtain ⟨y, hy⟩ : ∃ y, xs[k]? = some y := ⟨_, List.getElem?_eq_getElem hlt⟩
      obtain ⟨g, o, rfl, c0⟩ := HC.out k y hy
      cases hp : (y == x) with
      | true =>
        have HN := Lib.hid (idxF_at (p := fun y => y == x) hno.out hy hp)
        have hp2 : (x == y) = true := by rw [BEq.comm]; exact hp
        clear hy hp
        go_wp2_with fail
        go_ret
        exact ⟨ret_int HN.out.symm, rfl⟩
      | false =>
        have HK := Lib.hid (func.no_succ (p := fun y => y == x) hno.out hy hp)
        have hp2 : (x == y) = false := by rw [BEq.comm]; exact hp
        clear hy hp
        go_wp2_with fail
        go_round
        case rel => exact ⟨k + 1, by omega, by go_num, HK⟩
        case measure => simp [intOf]; omega
    · obtain rfl : k = xs.length := by omega
      have HN := Lib.hid (idxF_none hno.out)
      go_wp2_with fail
      go_ret
      exact ⟨ret_int HN.out.symm, rfl⟩
theorem idx_mem (xs : List Int) (x : Int) : decide (0 ≤ idxE xs x) = decide (x ∈ xs) := by
  unfold idxE
  rw [idxF_any]
  by_cases h : x ∈ xs
  · rw [decide_eq_true h, List.any_eq_true]; exact ⟨x, h, by simp⟩
  · rw [decide_eq_false h, Bool.eq_false_iff]
    intro hh
    obtain ⟨y, hy, e⟩ := List.any_eq_true.1 hh
    have : y = x := by simpa using e
    subst this
    exact h hy
theorem contains_any (u : Value) (xs : List Int) (x : Int) (w : World) (hu : Ints w u xs) (hxl : xs.length ≤ 1048576) :
    Calls Try.prog 89 #[u, .int .i64 x] w fun e w' => e = .returned (.bool (decide (x ∈ xs))) ∧ w = w' := by
  have HI := Lib.hid (index_any u xs x w hu hxl)
  have HM := Lib.hid (idx_mem xs x)
  clear hu
  generalize idxE xs x = k at *
  go_enter Try.func89, Try.ntmps89
  go_wp2_with fail
  refine HI.out.mono ?_
  rintro e w' ⟨rfl, rfl⟩
  go_wp2_with fail
  go_ret
  exact ⟨ret_bool HM.out, rfl⟩
/-- a function value that answers for the rows of a slice of slices, in every world that goes on from w -/
structure FnG (w : World) (f : FuncId) (caps : Array Value) (us : List Value) (xs : List (List Int)) (p : List Int → Bool) : Prop where
  enter : ∀ (args : Array Value) (W : World), (callFunc f args).run Try.prog W = .ok (.enter f args) W
  call : ∀ W, Below w.heap.size w W → ∀ (k : Nat) u x, us[k]? = some u → xs[k]? = some x → Calls Try.prog f (#[u] ++ caps) W fun e W' => e = .returned (.bool (p x)) ∧ Below W.heap.size W W'
set_option maxHeartbeats 1000000 in
theorem indexFuncG_any (u : Value) (us : List Value) (xs : List (List Int)) (f : FuncId) (caps : Array Value) (p : List Int → Bool) (w : World) (hu : ReadsG w u us xs) (hxl : xs.length ≤ 1048576) (h : FnG w f caps us xs p) :
    Calls Try.prog 114 #[u, .func (.func f) #[] caps] w fun e w' => e = .returned (.int .i64 (idxF p xs)) ∧ Below w.heap.size w w' := by
  obtain ⟨A2, c2, rfl, -⟩ := hu.1
  have HC := Lib.hid hu
  have hent := h.enter
  have HF := Lib.hid h.call
  clear hu h
  go_enter Try.func114, Try.ntmps114
  go_wp2_with fail
  go_loopg [8] xs.length (fun g i wr => ∃ k : Nat, k + g = xs.length ∧ i = .int .i64 (k : Int) ∧ Hid (∀ j y, j < k → xs[j]? = some y → p y = false) ∧ Below w.heap.size w wr)
  case atStart => exact ⟨0, by omega, rfl, fun j e h => by omega, Below.refl _ _⟩
  case round =>
    obtain ⟨k, hkg, rfl, hno, hB⟩ := hrel
    cases gk with
    | zero =>
      obtain rfl : k = xs.length := by omega
      have HN := Lib.hid (idxF_none hno.out)
      go_wp2_with fail
      go_ret
      exact ⟨ret_int (by rw [HN.out]), hB⟩
    | succ g2 =>
      have hlt : k < xs.length := by omega
      have hlt' : (k : Int) < (xs.length : Int) := by omega
      obtain ⟨y, hy⟩ : ∃ y, xs[k]? = some y := ⟨_, List.getElem?_eq_getElem hlt⟩
      obtain ⟨u, g, o, hu, rfl, c0, -⟩ := HC.out.row hy
      have q0 := nearv.cell_keep c0 hB
      have HP := Lib.hid (HF.out wr hB k u y hu hy)
      clear c0
      cases hp : p y with
      | true =>
        have HN := Lib.hid (idxF_at hno.out hy hp)
        rw [hp] at HP
        clear hy hp
        go_wp2_with fail
        refine HP.out.mono ?_
        rintro e w1 ⟨rfl, b1⟩
        go_wp2_with fail
        go_ret
        exact ⟨ret_int (by rw [HN.out]), btrans hB b1⟩
      | false =>
        have HK := Lib.hid (no_succ hno.out hy hp)
        rw [hp] at HP
        clear hy hp
        go_wp2_with fail
        refine HP.out.mono ?_
        rintro e w1 ⟨rfl, b1⟩
        have hB1 := btrans hB b1
        clear hB b1 q0
        go_wp2_with fail
        go_roundg g2
        case measure => omega
        case rel => exact ⟨k + 1, by omega, by go_num, HK, hB1⟩
theorem containsFuncG_any (u : Value) (us : List Value) (xs : List (List Int)) (f : FuncId) (caps : Array Value) (p : List Int → Bool) (w : World) (hu : ReadsG w u us xs) (hxl : xs.length ≤ 1048576) (h : FnG w f caps us xs p) :
    Calls Try.prog 132 #[u, .func (.func f) #[] caps] w fun e w' => e = .returned (.bool (xs.any p)) ∧ Below w.heap.size w w' := by
  have HI := Lib.hid (indexFuncG_any u us xs f caps p w hu hxl h)
  have HD := Lib.hid (idxF_any p xs)
  obtain ⟨A2, c2, rfl, -⟩ := hu.1
  clear hu h
  go_enter Try.func132, Try.ntmps132
  go_wp2_with fail
  refine HI.out.mono ?_
  rintro e w1 ⟨rfl, b1⟩
  go_wp2_with fail
  go_ret
  exact ⟨ret_bool HD.out, b1⟩
end Go.Proofs.Ytjcnngnahijceaa.idx
