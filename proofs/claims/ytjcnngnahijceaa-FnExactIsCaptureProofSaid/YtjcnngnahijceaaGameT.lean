/- The contracts of slices.Clone and slices.Equal over words, and of the program's findTimes. -/
import Derived.Handy
import Derived.Test.YtjcnngnahijceaaGameI
import Derived.Test.YtjcnngnahijceaaApp
import Derived.Test.YtjcnngnahijceaaGridW
import Derived.Test.YtjcnngnahijceaaGridL
import Derived.Test.YtjcnngnahijceaaRepeat
import Derived.Test.YtjcnngnahijceaaIdx
import Derived.Deep.DeepCutAuto
import Derived.Laws.CopyOwn
import Derived.Laws.Cover3
import Derived.StillTailTactics
namespace Go.Proofs.Ytjcnngnahijceaa.times
open Go.RowKit P2 words edges ints good adjs fns sets rets covs bitsI bags gridr mids grid reps apps
set_option linter.unusedVariables false

theorem oneU (l : List Nat) : ∀ x ∈ cellsU l, x.oneCell' = true := fun x hx => by
  obtain ⟨a, _, rfl⟩ := List.mem_map.1 hx
  rfl
theorem run_eql_nil (w : World) (a : Option Addr) (n c : Nat) : (binOp .eql 63 (.slice a n c) (.slice none 0 0)).run Try.prog w = .ok (.bool a.isNone) w := by
  simp only [binOp]
  simp [run_equal_slice_nil w 63 _ a n c Try.underlying63]
theorem ownU_new0 (w : World) : (w.alloc (.cells #[] 67)).ownsRow w.heap.size 67 1 (.slice (some ⟨w.heap.size, 0, none⟩) 0 0) 0 [] := own_new0 w _ 1
set_option maxHeartbeats 1000000 in
set_option maxRecDepth 100000 in
theorem cloneU_any (u : Value) (xs : List Nat) (w : World) (hu : Nums w u xs) (hxl : xs.length ≤ 1048576) :
    Calls Try.prog 165 #[u] w fun e w' => ∃ A c, e = .returned (.slice A xs.length c) ∧ w'.ownsRow w.heap.size 67 1 (.slice A xs.length c) xs.length (cellsU xs) ∧ Below w.heap.size w w' := by
  obtain ⟨i0, hi, hz0, hz1, hz2⟩ := info_parts infoU
  obtain ⟨A2, c2, rfl, hx⟩ := hu
  cases A2 with
  | none =>
    have h0 : xs.length = 0 := by
      rcases Nat.eq_zero_or_pos xs.length with h | h
      · exact h
      · obtain ⟨g, o, e, _⟩ := hx h; cases e
    obtain rfl : xs = [] := List.eq_nil_of_length_eq_zero h0
    have hnil := run_eql_nil w none 0 c2
    clear hx h0
    go_enter Try.func165, Try.ntmps165
    go_wp2_with fail
    go_ret
    exact ⟨none, 0, rfl, World.ownsRow_nil _ _ _ _, Below.refl _ _⟩
  | some ad =>
    have hr : Reads w 1 (.slice (some ad) xs.length c2) xs.length (cellsU xs) := ⟨_, _, rfl, hx⟩
    have HR : Hid (Reads (w.alloc (.cells #[] 67)) 1 (.slice (some ad) xs.length c2) xs.length (cellsU xs)) := hr.below ((Below.refl _ _).alloc (Nat.le_refl _) _)
    have HO := Lib.hid (ownU_new0 w)
    have HB : Hid (Below w.heap.size w (w.alloc (.cells #[] 67))) := (Below.refl _ _).alloc (Nat.le_refl _) _
    have hcl : Hid ((cellsU xs).length = xs.length * 1) := by show _ = _; simp [cellsU]
    have hnil := run_eql_nil w (some ad) xs.length c2
    clear hx hr
    go_enter Try.func165, Try.ntmps165
    go_wp2_with (at_builtin; refine wpList_append_any _ rfl (.tmp 5) (.tmp 6) 63 rfl w.heap.size 67 i0 (.int .u64 0) 1 8 Try.underlying63 hi hz0 hz1 hz2 rfl (by decide) _ _ _ rfl HO.out (.slice (some ad) xs.length c2) xs.length (cellsU xs) rfl HR.out hcl.out (oneU _) (by unfold maxLen; omega) (by omega) (by simp) ?_; intro v2 w4 o4 gr4)
    rw [Nat.zero_add, List.nil_append] at o4
    obtain ⟨A4, c4, rfl⟩ := own_form o4
    have HB4 := Lib.hid (HB.out.grown gr4 (by simp) (fun j e => (HO.out.lt j e).1))
    have HO4 := Lib.hid o4
    clear gr4 o4
    go_wp2_with fail
    go_ret
    exact ⟨A4, c4, by simp, HO4.out, HB4.out⟩
set_option maxHeartbeats 1000000 in
set_option maxRecDepth 100000 in
theorem equalU_any (n : Nat) (u v : Value) (xs ys : List Nat) (w : World) (hu : Nums w u xs) (hv : Nums w v ys) (hx : xs.length = n) (hy : ys.length = n) (hn : n ≤ 1048576) :
    Calls Try.prog 166 #[u, v] w fun e w' => e = .returned (.bool (decide (xs = ys))) ∧ ∃ m, w' = w.drewN m := by
  obtain ⟨A1, c1, rfl, hc1⟩ := hu.form
  obtain ⟨A2, c2, rfl, hc2⟩ := hv.form
  rw [hx, hy]
  have HC1 := Lib.hid hc1
  have HC2 := Lib.hid hc2
  have HX := Lib.hid hx
  have HY := Lib.hid hy
  have hself : ((n : Int) != (n : Int)) = false := by simp
  clear hu hv hc1 hc2 hx hy
  go_enter Try.func166, Try.ntmps166
  go_wp2_with fail
  go_loopw [13] (fun i wr => ∃ k : Nat, k ≤ n ∧ i = .int .i64 (k : Int) ∧ Hid (∀ j, j < k → xs[j]? = ys[j]?) ∧ ∃ m, wr = w.drewN m) (fun i _ => n - (intOf i).toNat)
  case atStart => exact ⟨0, Nat.zero_le _, rfl, fun j hj => by omega, 0, rfl⟩
  case round =>
    obtain ⟨k, hk, rfl, hal, nd, rfl⟩ := hrel
    by_cases hlt : k < n
    · have hlt' : (k : Int) < (n : Int) := by omega
      obtain ⟨x, hxk⟩ : ∃ x, xs[k]? = some x := ⟨_, List.getElem?_eq_getElem (by rw [HX.out]; exact hlt)⟩
      obtain ⟨y, hyk⟩ : ∃ y, ys[k]? = some y := ⟨_, List.getElem?_eq_getElem (by rw [HY.out]; exact hlt)⟩
      obtain ⟨g1, o1, rfl, q1⟩ := HC1.out k x hxk
      obtain ⟨g2, o2, rfl, q2⟩ := HC2.out k y hyk
      by_cases he : x = y
      · have HK : Hid (∀ j, j < k + 1 → xs[j]? = ys[j]?) := fun j hj => by
          by_cases e : j = k
          · subst e; rw [hxk, hyk, he]
          · exact hal.out j (by omega)
        have d0 : (x != y) = false := by simpa using he
        have d1 : ((x : Int) != (y : Int)) = false := by simp; omega
        clear hxk hyk he
        go_wp2_with fail
        go_quiet (fail)
        go_wp2_with fail
        go_roundw
        case rel => exact ⟨k + 1, by omega, by go_num, HK, _, rfl⟩
        case measure => simp [intOf]; omega
      · have HN : Hid (decide (xs = ys) = false) := decide_eq_false fun e => by
          rw [e, hyk] at hxk
          exact he (by simpa using hxk.symm)
        have d0 : (x != y) = true := by simpa using he
        have d1 : ((x : Int) != (y : Int)) = true := by simp; omega
        clear hxk hyk he
        go_wp2_with fail
        go_quiet (fail)
        go_wp2_with fail
        go_ret
        exact ⟨ret_bool HN.out.symm, nd + nq, by first | rfl | rw [World.drewN_drewN]⟩
    · obtain rfl : k = n := by omega
      have HN : Hid (decide (xs = ys) = true) := decide_eq_true (List.ext_getElem? fun j => by
        by_cases hj : j < k
        · exact hal.out j hj
        · rw [List.getElem?_eq_none (by rw [HX.out]; omega), List.getElem?_eq_none (by rw [HY.out]; omega)])
      go_wp2_with fail
      go_ret
      exact ⟨ret_bool HN.out.symm, _, rfl⟩
end Go.Proofs.Ytjcnngnahijceaa.times
