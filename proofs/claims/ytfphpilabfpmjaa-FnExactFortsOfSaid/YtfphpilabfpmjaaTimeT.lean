/- The contracts of the model's l3Sign and l1Own. -/
import Derived.Handy
import Derived.Test.YtfphpilabfpmjaaSets
import Derived.Test.YtfphpilabfpmjaaApp
import Derived.Test.YtfphpilabfpmjaaNearV
namespace Go.Proofs.Ytfphpilabfpmjaa.times
open Go.RowKit P2 words edges ints good adjs fns sets rets apps
set_option linter.unusedVariables false

theorem l3Sign_any (b : Bool) (w : World) : Calls Try.prog 96 #[.bool b] w fun e w' => e = .returned (.int .i64 (if b = true then 0 else -1)) ∧ w = w' := by
  cases b
  · go_enter Try.func96, Try.ntmps96
    go_wp2_with fail
    go_ret
    exact ⟨rfl, rfl⟩
  · go_enter Try.func96, Try.ntmps96
    go_wp2_with fail
    go_ret
    exact ⟨rfl, rfl⟩
set_option maxHeartbeats 1000000 in
theorem l1Own_any (u : Value) (xs : List Int) (w : World) (hu : Ints w u xs) (hxl : xs.length ≤ 1048576) : Calls Try.prog 86 #[u] w (RowI w xs) := by
  obtain ⟨i0, hi, hz0, hz1, hz2⟩ := info_parts infoInt
  obtain ⟨A2, c2, rfl, -⟩ := hu.form
  have HR : Hid (Ints (w.alloc (.cells #[] 3)) (.slice A2 xs.length c2) xs) := hu.below ((Below.refl _ _).alloc (Nat.le_refl _) _)
  have HO := Lib.hid (own_new0 w 3 1)
  have HB : Hid (Below w.heap.size w (w.alloc (.cells #[] 3))) := (Below.refl _ _).alloc (Nat.le_refl _) _
  have hcl : Hid ((cellsI xs).length = xs.length * 1) := by show _ = _; simp [cellsI]
  clear hu
  go_enter Try.func86, Try.ntmps86
  go_wp2_with (at_builtin; refine wpList_append_any _ rfl (.tmp 3) (.tmp 4) 25 rfl w.heap.size 3 i0 (.int .i64 0) 1 8 Try.underlying25 hi hz0 hz1 hz2 rfl (by decide) _ _ _ rfl HO.out (.slice A2 xs.length c2) xs.length (cellsI xs) rfl HR.out hcl.out (oneI _) (by unfold maxLen; omega) (by omega) (by simp) ?_; intro v2 w4 o4 gr4)
  rw [Nat.zero_add, List.nil_append] at o4
  obtain ⟨A4, c4, rfl⟩ := own_form o4
  have HB4 := Lib.hid (HB.out.grown gr4 (by simp) (fun j e => (HO.out.lt j e).1))
  have HO4 := Lib.hid o4
  clear gr4 o4
  go_wp2_with fail
  go_ret
  exact ⟨A4, c4, by simp, HO4.out, HB4.out⟩
end Go.Proofs.Ytfphpilabfpmjaa.times
