/- Where the robber is safe: the sets, and the program's closure. -/
import Derived.Handy
import Derived.Test.YtpeobnmfndelhaaK25
namespace Go.Proofs.Ytpeobnmfndelhaa.lists
open Go.RowKit P2 words edges ints good adjs fns sets rets apps gridr grid trip covs bitsI times mids filled cops
set_option linter.unusedVariables false

/-- the nodes without times for a place -/
def safR (n : Nat) (T : Nat → Nat → Int) (p : Nat) : List Int := nw (fun y => decide (T p y < 0)) n
def safK (n : Nat) (T : Nat → Nat → Int) (k : Nat) : List (List Int) := (List.range k).map (safR n T)
theorem safK_len (n : Nat) (T : Nat → Nat → Int) (k : Nat) : (safK n T k).length = k := by simp [safK]
theorem safK_succ (n : Nat) (T : Nat → Nat → Int) (k : Nat) : safK n T (k + 1) = safK n T k ++ [safR n T k] := by simp [safK, List.range_succ]
def safP (m n : Nat) (T : Nat → Nat → Int) (k : Nat) : List (List Int) := safK n T k ++ List.replicate (m - k) []
theorem safP_zero (m n : Nat) (T : Nat → Nat → Int) : safP m n T 0 = List.replicate m [] := by simp [safP, safK]
theorem safP_len {m : Nat} (n : Nat) (T : Nat → Nat → Int) {k : Nat} (h : k ≤ m) : (safP m n T k).length = m := by simp [safP, safK_len]; omega
theorem safP_all (m n : Nat) (T : Nat → Nat → Int) : safP m n T m = safK n T m := by simp [safP]
theorem safP_succ {m : Nat} (n : Nat) (T : Nat → Nat → Int) {k : Nat} (h : k < m) : (safP m n T k).set k (safR n T k) = safP m n T (k + 1) := by
  unfold safP
  rw [show m - k = (m - (k + 1)) + 1 from by omega, List.replicate_succ, List.set_append_right _ _ (by rw [safK_len]; exact Nat.le_refl _), safK_len, Nat.sub_self, List.set_cons_zero, safK_succ, List.append_assoc]
  rfl
noncomputable def safL (s k : Int) (l : List Ed) : List (List Int) := safK s.toNat (tms (gameN l s.toNat k.toNat)) (gameN l s.toNat k.toNat).P
theorem saf_len (s k : Int) (l : List Ed) : gridl.tot (gdG (FieldP s l k) (safL s k l)) ≤ 1048576 ∧ (gdG (FieldP s l k) (safL s k l)).length ≤ 1048576 := by
  by_cases h : FieldP s l k
  · rw [gdG_yes h]
    have h1 := h.1.2.1
    have h2 := h.2.2.2
    have hP : (gameN l s.toNat k.toNat).P ≤ 200 := game_small (by omega) (by omega)
    have hl : (safL s k l).length = (gameN l s.toNat k.toNat).P := safK_len _ _ _
    have h3 := fronts.sum_le (rows := safL s k l) (m := 8) (fun r hr => by
      unfold safL safK at hr
      obtain ⟨i, _, rfl⟩ := List.mem_map.1 hr
      exact Nat.le_trans (nw_len _ _) (by omega))
    rw [hl] at h3 ⊢
    unfold gridl.tot
    omega
  · rw [gdG_no h]; simp [gridl.tot]
theorem safClo_any (n x b : Nat) (u : Value) (f : Nat → Int) (w : World) (h1 : w.cell? ⟨b, 0, none⟩ = some u) (hu : Ints w u (rowG n f)) (hx : x < n) :
    Calls Try.prog 70 #[.int .i64 (x : Int), .pointer (some ⟨b, 0, none⟩)] w fun e w' => e = .returned (.bool (decide (f x < 0))) ∧ w = w' := by
  obtain ⟨A, c, rfl, hc⟩ := hu.form
  obtain ⟨g, o, rfl, q0⟩ := hc x _ (rowG_at hx)
  have hl := rowG_len n f
  rw [hl] at h1
  have hx0 : (0 : Int) ≤ (x : Int) := by omega
  have hxn : (x : Int) < (n : Int) := by omega
  clear hu hc hl
  go_enter Try.func70, Try.ntmps70
  go_wp2_with fail
  go_ret
  exact ⟨rfl, rfl⟩
theorem safClo_fn (n b : Nat) (u : Value) (f : Nat → Int) (w : World) (h1 : w.cell? ⟨b, 0, none⟩ = some u) (hu : Ints w u (rowG n f)) :
    Fn1 w 70 #[.pointer (some ⟨b, 0, none⟩)] n (fun y => decide (f y < 0)) where
  enter := fun _ _ => by kernel_rfl
  call := fun W hb y hy => (safClo_any n y b u f W (nearv.cell_keep h1 hb) (hu.below hb) hy).mono fun _ _ ⟨he, hw⟩ => ⟨he, hw ▸ Below.refl _ _⟩
end Go.Proofs.Ytpeobnmfndelhaa.lists
