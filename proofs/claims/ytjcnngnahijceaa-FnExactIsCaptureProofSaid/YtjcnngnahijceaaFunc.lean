/- The contracts of slices.IndexFunc and slices.ContainsFunc over integers and over pairs, for a function value that tests. -/
import Derived.Handy
import Derived.Test.YtjcnngnahijceaaNearV
import Derived.Test.YtjcnngnahijceaaSets
namespace Go.Proofs.Ytjcnngnahijceaa.func
open Go.RowKit P2 words edges ints fns
set_option linter.unusedVariables false

/-- a function value that answers for the elements of a list, in every world that goes on from w -/
structure FnI (w : World) (f : FuncId) (caps : Array Value) (xs : List Int) (p : Int → Bool) : Prop where
  enter : ∀ (args : Array Value) (W : World), (callFunc f args).run Try.prog W = .ok (.enter f args) W
  call : ∀ W, Below w.heap.size w W → ∀ x ∈ xs, Calls Try.prog f (#[.int .i64 x] ++ caps) W fun e W' => e = .returned (.bool (p x)) ∧ Below W.heap.size W W'
structure FnP (w : World) (f : FuncId) (caps : Array Value) (xs : List Ed) (p : Ed → Bool) : Prop where
  enter : ∀ (args : Array Value) (W : World), (callFunc f args).run Try.prog W = .ok (.enter f args) W
  call : ∀ W, Below w.heap.size w W → ∀ x ∈ xs, Calls Try.prog f (#[.agg #[.int .i64 x.1, .int .i64 x.2]] ++ caps) W fun e W' => e = .returned (.bool (p x)) ∧ Below W.heap.size W W'

/-- the place of the first element for which p holds, or -1 -/
def idxF {α : Type} (p : α → Bool) (xs : List α) : Int := match xs.findIdx? p with | some k => (k : Int) | none => -1
theorem idxF_at {α : Type} {p : α → Bool} {xs : List α} {k : Nat} {y : α} (hno : ∀ j z, j < k → xs[j]? = some z → p z = false) (hy : xs[k]? = some y) (hp : p y = true) : idxF p xs = (k : Int) := by
  unfold idxF
  have hk := (List.getElem?_eq_some_iff.1 hy)
  rw [List.findIdx?_eq_some_iff_getElem.2 ⟨hk.1, by rw [hk.2]; exact hp, fun j hj => by have := hno j _ hj (List.getElem?_eq_getElem (Nat.lt_trans hj hk.1)); simp [this]⟩]
theorem idxF_none {α : Type} {p : α → Bool} {xs : List α} (hno : ∀ j z, j < xs.length → xs[j]? = some z → p z = false) : idxF p xs = -1 := by
  unfold idxF
  rw [List.findIdx?_eq_none_iff.2 (fun x hx => by
    obtain ⟨j, hj⟩ := List.getElem?_of_mem hx
    exact hno j x (List.getElem?_eq_some_iff.1 hj).1 hj)]
theorem idxF_any {α : Type} (p : α → Bool) (xs : List α) : decide (0 ≤ idxF p xs) = xs.any p := by
  unfold idxF
  cases h : xs.findIdx? p with
  | none =>
    have := List.findIdx?_eq_none_iff.1 h
    rw [List.any_eq_false.2 (fun x hx => by simp [this x hx])]
    rfl
  | some k =>
    obtain ⟨hk, hp, _⟩ := List.findIdx?_eq_some_iff_getElem.1 h
    rw [List.any_eq_true.2 ⟨_, List.getElem_mem hk, hp⟩]
    simp
theorem no_succ {α : Type} {p : α → Bool} {xs : List α} {k : Nat} {y : α} (h : ∀ j z, j < k → xs[j]? = some z → p z = false) (hy : xs[k]? = some y) (hp : p y = false) : ∀ j z, j < k + 1 → xs[j]? = some z → p z = false := fun j z hj hz => by
  by_cases e : j = k
  · subst e; rw [hy] at hz; cases hz; exact hp
  · exact h j z (by omega) hz

set_option maxHeartbeats 1000000 in
theorem indexFuncI_any (u : Value) (xs : List Int) (f : FuncId) (caps : Array Value) (p : Int → Bool) (w : World) (hu : Ints w u xs) (hxl : xs.length ≤ 1048576) (h : FnI w f caps xs p) :
    Calls Try.prog 113 #[u, .func (.func f) #[] caps] w fun e w' => e = .returned (.int .i64 (idxF p xs)) ∧ Below w.heap.size w w' := by
  obtain ⟨A2, c2, rfl, hc⟩ := hu.form
  have HC := Lib.hid hc
  have hent := h.enter
  have HF := Lib.hid h.call
  clear hu hc h
  go_enter Try.func113, Try.ntmps113
  go_wp2_with fail
  go_loopg [8] xs.length (fun g i wr => ∃ k : Nat, k + g = xs.length ∧ i = .int .i64 (k : Int) ∧ Hid (∀ j y, j < k → xs[j]? = some y → p y = false) ∧ Below w.heap.size w wr)
  case atStart => exact ⟨0, by omega, rfl, fun j e h => by omega, Below.refl _ _⟩
  case round =>
    obtain ⟨k, hkg, rfl, hno, hB⟩ := hrel
    cases gk with
    | zero =>
      obtain rfl : k = xs.length := by omega
      have HN := Lib.hid (idxF_none hno.out)
      go_wp2_with fail
      go_ret
      exact ⟨ret_int (by rw [HN.out]), hB⟩
    | succ g2 =>
      have hlt : k < xs.length := by omega
      have hlt' : (k : Int) < (xs.length : Int) := by omega
      obtain ⟨y, hy⟩ : ∃ y, xs[k]? = some y := ⟨_, List.getElem?_eq_getElem hlt⟩
      obtain ⟨g, o, rfl, c0⟩ := HC.out k y hy
      have q0 := nearv.cell_keep c0 hB
      have HP := Lib.hid (HF.out wr hB y (List.mem_of_getElem? hy))
      clear c0
      cases hp : p y with
      | true =>
        have HN := Lib.hid (idxF_at hno.out hy hp)
        rw [hp] at HP
        clear hy hp
        go_wp2_with fail
        refine HP.out.mono ?_
        rintro e w1 ⟨rfl, b1⟩
        go_wp2_with fail
        go_ret
        exact ⟨ret_int (by rw [HN.out]), btrans hB b1⟩
      | false =>
        have HK := Lib.hid (no_succ hno.out hy hp)
        rw [hp] at HP
        clear hy hp
        go_wp2_with fail
        refine HP.out.mono ?_
        rintro e w1 ⟨rfl, b1⟩
        have hB1 := btrans hB b1
        clear hB b1 q0
        go_wp2_with fail
        go_roundg g2
        case measure => omega
        case rel => exact ⟨k + 1, by omega, by go_num, HK, hB1⟩
theorem containsFuncI_any (u : Value) (xs : List Int) (f : FuncId) (caps : Array Value) (p : Int → Bool) (w : World) (hu : Ints w u xs) (hxl : xs.length ≤ 1048576) (h : FnI w f caps xs p) :
    Calls Try.prog 65 #[u, .func (.func f) #[] caps] w fun e w' => e = .returned (.bool (xs.any p)) ∧ Below w.heap.size w w' := by
  have HI := Lib.hid (indexFuncI_any u xs f caps p w hu hxl h)
  have HD := Lib.hid (idxF_any p xs)
  obtain ⟨A2, c2, rfl, -⟩ := hu.form
  clear hu h
  go_enter Try.func65, Try.ntmps65
  go_wp2_with fail
  refine HI.out.mono ?_
  rintro e w1 ⟨rfl, b1⟩
  go_wp2_with fail
  go_ret
  exact ⟨ret_bool HD.out, b1⟩
end Go.Proofs.Ytjcnngnahijceaa.func
