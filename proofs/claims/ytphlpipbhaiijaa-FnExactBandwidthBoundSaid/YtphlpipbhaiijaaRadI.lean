/- The contract of the program's RadiusOf. -/
import Derived.Handy
import Derived.Test.YtphlpipbhaiijaaRadM
import Derived.Test.YtphlpipbhaiijaaRenI
import Derived.Test.YtphlpipbhaiijaaDistO
import Derived.Deep.DeepCutAuto
namespace Go.Proofs.Ytphlpipbhaiijaa.rad
open Go.RowKit P2 words edges ints owns good near adjs fns rets sets covs grid dists distf disto rens func
set_option linter.unusedVariables false

theorem idx_mem (xs : List Int) (x : Int) : decide (0 ≤ idxI xs x) = decide (x ∈ xs) := by
  unfold idxI
  rw [idxF_any]
  by_cases h : x ∈ xs
  · rw [decide_eq_true h, List.any_eq_true]; exact ⟨x, h, by simp⟩
  · rw [decide_eq_false h, Bool.eq_false_iff]
    intro hh
    obtain ⟨y, hy, e⟩ := List.any_eq_true.1 hh
    have : y = x := by simpa using e
    subst this
    exact h hy
theorem contains_any (u : Value) (xs : List Int) (x : Int) (w : World) (hu : Ints w u xs) (hxl : xs.length ≤ 1048576) :
    Calls Try.prog 105 #[u, .int .i64 x] w fun e w' => e = .returned (.bool (decide (x ∈ xs))) ∧ w = w' := by
  have HI := Lib.hid (index_any u xs x w hu hxl)
  have HM := Lib.hid (idx_mem xs x)
  clear hu
  generalize idxI xs x = k at *
  go_enter Try.func105, Try.ntmps105
  go_wp2_with fail
  refine HI.out.mono ?_
  rintro e w' ⟨rfl, rfl⟩
  go_wp2_with fail
  go_ret
  exact ⟨ret_bool HM.out, rfl⟩
/-- the greatest so far -/
def MaxTo (xs : List Int) (k : Nat) (M : Int) : Prop := (∀ j y, j < k → xs[j]? = some y → y ≤ M) ∧ M ∈ xs
theorem MaxTo.succ {xs : List Int} {k : Nat} {M y : Int} (h : MaxTo xs k M) (hy : xs[k]? = some y) : MaxTo xs (k + 1) (if M < y then y else M) := by
  rw [show (if M < y then y else M) = max M y from by split <;> omega]
  refine ⟨fun j z hj hz => ?_, ?_⟩
  · by_cases e : j = k
    · subst e; rw [hy] at hz; cases hz; omega
    · have := h.1 j z (by omega) hz; omega
  · by_cases e : M ≤ y
    · rw [Int.max_eq_right e]; exact List.mem_of_getElem? hy
    · rw [Int.max_eq_left (by omega)]; exact h.2
theorem MaxTo.all {xs : List Int} {M : Int} (h : MaxTo xs xs.length M) : MaxIs xs M :=
  ⟨fun y hy => by
    obtain ⟨j, hj⟩ := List.mem_iff_getElem?.1 hy
    exact h.1 j y (List.getElem?_eq_some_iff.1 hj).1 hj, h.2⟩
theorem grid_cell {w : World} {B i n c : Nat} {A : Option Addr} {us : List Value} {u : Value} (h : w.ownsRow B 25 1 (.slice A n c) n us) (hu : us[i]? = some u) :
    ∃ g, A = some ⟨g, 0, none⟩ ∧ w.cell? ⟨g, i, none⟩ = some u ∧ B ≤ g ∧ g < w.heap.size := by
  have hi := (List.getElem?_eq_some_iff.1 hu).1
  have hl := h.1
  rcases h.2 with ⟨hf, _⟩ | ⟨g, cap, cur, hf, _⟩
  · have := congrArg (fun v => match v with | .slice _ n _ => n | _ => 0) hf
    simp at this
    omega
  · obtain ⟨rfl, rfl⟩ : A = some ⟨g, 0, none⟩ ∧ c = cap := by simpa using hf
    have := h.cellAt i (by omega)
    rw [hu] at this
    exact ⟨g, rfl, this, (h.lt g rfl).1, (h.lt g rfl).2⟩
/-- the row of a node -/
theorem row_of {w : World} {B n x : Nat} {A : Option Addr} {c : Nat} {us : List Value} {l : List Ed} (h : OwnG w B (.slice A (distG n l).length c) us (distG n l)) (hx : x < n) :
    ∃ g A5 c5, A = some ⟨g, 0, none⟩ ∧ w.cell? ⟨g, x, none⟩ = some (.slice A5 n c5) ∧ Ints w (.slice A5 n c5) (dist n (J1 l) x) := by
  obtain ⟨u5, hu5, o5⟩ := h.row (distTo_at n l hx)
  obtain ⟨A5, c5, rfl⟩ := own_form o5
  obtain ⟨g, rfl, f5, _⟩ := grid_cell h.1 hu5
  have hd := dist_len (J1 l) hx
  have hi : Ints w (.slice A5 (dist n (J1 l) x).length c5) (dist n (J1 l) x) := Reads.of_own o5
  rw [hd] at f5 hi
  exact ⟨g, A5, c5, rfl, f5, hi⟩
def RadOk (s : Int) (l : List Ed) : Prop := P2.Good s l ∧ 0 < s ∧ Whole s.toNat (J1 l)
end Go.Proofs.Ytphlpipbhaiijaa.rad
