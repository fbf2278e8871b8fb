/- The contracts of the program's frontAt and FrontSizes. -/
import Derived.Handy
import Derived.Test.YteacpmdgojennaaFrontS
import Derived.Test.YteacpmdgojennaaOnes
import Derived.Deep.QuietTactic
namespace Go.Proofs.Yteacpmdgojennaa.fronts
open Go.RowKit P2 words edges ints good adjs fns sets rets covs reach bags balls bitsI each
set_option linter.unusedVariables false

/-- how many nodes there are in the front of the first i + 1 nodes -/
noncomputable def fsz (n : Nat) (l : List Ed) (tl : List Int) (i : Nat) : Int := ((nw (frontB l n (goneB (tl.take (i + 1)))) n).length : Int)
noncomputable def fszK (n : Nat) (l : List Ed) (tl : List Int) (k : Nat) : List Int := (List.range k).map (fsz n l tl)
theorem fszK_len (n : Nat) (l : List Ed) (tl : List Int) (k : Nat) : (fszK n l tl k).length = k := by simp [fszK]
theorem fszK_succ (n : Nat) (l : List Ed) (tl : List Int) (k : Nat) : fszK n l tl (k + 1) = fszK n l tl k ++ [fsz n l tl k] := by simp [fszK, List.range_succ]
noncomputable def fszR (n : Nat) (l : List Ed) (tl : List Int) (k : Nat) : List Int := fszK n l tl k ++ List.replicate (n - k) 0
theorem fszR_len (n : Nat) (l : List Ed) (tl : List Int) {k : Nat} (h : k ≤ n) : (fszR n l tl k).length = n := by simp [fszR, fszK_len]; omega
theorem fszR_zero (n : Nat) (l : List Ed) (tl : List Int) : fszR n l tl 0 = List.replicate n 0 := by simp [fszR, fszK]
theorem fszR_all (n : Nat) (l : List Ed) (tl : List Int) : fszR n l tl n = fszK n l tl n := by simp [fszR]
theorem fszR_set {n : Nat} {l : List Ed} {tl : List Int} {k : Nat} (h : k < n) : (fszR n l tl k).set k (fsz n l tl k) = fszR n l tl (k + 1) := by
  unfold fszR
  rw [show n - k = (n - (k + 1)) + 1 from by omega, List.replicate_succ, List.set_append_right _ _ (by rw [fszK_len]; exact Nat.le_refl _), fszK_len, Nat.sub_self, List.set_cons_zero, fszK_succ, List.append_assoc]
  rfl
theorem cellsI_set (l : List Int) (k : Nat) (x : Int) : (cellsI l).set k (.int .i64 x) = cellsI (l.set k x) := by simp [cellsI, List.map_set]
theorem fsz_len (s : Int) (l : List Ed) (tl : List Int) : (inG (ElimOk s l tl) (fszK s.toNat l tl s.toNat)).length ≤ 1048576 := inG_len fun hp => by
  rw [fszK_len]; have := hp.1.1; have := hp.1.2.1; omega
set_option maxHeartbeats 1000000 in
set_option maxRecDepth 100000 in
theorem frontClo_any (n x : Nat) (S : Nat → Bool) (b : Nat) (v : Value) (l : List Ed) (w : World) (hc : w.cell? ⟨b, 0, none⟩ = some v) (h : Nums w v (clos l n)) (hg : P2.Good (n : Int) l) (hn : n ≤ 8) (hx : x < n) :
    Calls Try.prog 112 #[.int .u64 (numOf S n : Int), .int .i64 (x : Int), .pointer (some ⟨b, 0, none⟩)] w fun e w' => e = .returned (.int .i64 ((nw (frontB l n (pput S x)) n).length : Int)) ∧ ∃ m, w' = w.drewN m := by
  have HF := Lib.hid (fun (W : World) (hW : Nums W v (clos l n)) => frontIn_any n (pput S x) v l W hW hg hn)
  have HCT := Lib.hid (fun (W : World) => count_any (numOf (frontB l n (pput S x)) n) W (numOf_lt _ hn))
  rw [ones_num _ hn] at HCT
  have HD := Lib.hid (fun (m : Nat) => (show Nums (w.drewN m) v (clos l n) from h))
  have hpw := or_walk (numOf S n) x (numOf_lt S hn) (by omega)
  rw [num_or_one S hx] at hpw
  have hx0 : (0 : Int) ≤ (x : Int) := by omega
  clear h hg
  generalize numOf (frontB l n (pput S x)) n = a at *
  generalize numOf (pput S x) n = d at *
  generalize numOf S n = gg at *
  generalize (nw (frontB l n (pput S x)) n).length = rr at *
  go_enter Try.func112, Try.ntmps112
  go_wp2_with fail
  go_quiet (first | (go_at_call 72; exact quiet_left (HF.out _ (HD.out _))) | (go_at_call 71; exact quiet_left (HCT.out _)))
  go_wp2_with fail
  go_ret
  exact ⟨rfl, _, rfl⟩
theorem frontAt_any (n : Nat) (v : Value) (l : List Ed) (w : World) (h : Edges w v l) (hl : l.length ≤ 1048576) (hg : P2.Good (n : Int) l) (hn : n ≤ 8) :
    Calls Try.prog 60 #[.agg #[.int .i64 (n : Int), v]] w fun e w' => ∃ b A c, e = .returned (.func (.func 112) #[] #[.pointer (some ⟨b, 0, none⟩)]) ∧ w'.cell? ⟨b, 0, none⟩ = some (.slice A (clos l n).length c) ∧ Nums w' (.slice A (clos l n).length c) (clos l n) ∧ Below w.heap.size w w' := by
  obtain ⟨A, c, rfl, -⟩ := h.form
  have hmf : ∀ (fn : Fn) (first cap : Array Value) (w : World), (Instr.makeFunc fn first cap).run Try.prog w = .ok (.func fn first cap) w := fun _ _ _ _ => rfl
  have b0 : Below w.heap.size w (w.alloc (.cells #[.int .i64 (n : Int), .slice A l.length c] 28)) := (Below.refl _ _).alloc (Nat.le_refl _) _
  obtain ⟨p0, p1, -, -⟩ := (Blk.new w 28 #[.int .i64 (n : Int), .slice A l.length c]).two
  have HC := Lib.hid (closedBits_any n (.slice A l.length c) l _ (h.below b0) hl hg hn)
  clear h hg
  go_enter Try.func60, Try.ntmps60
  go_wp2_with fail
  refine HC.out.mono ?_
  rintro e w2 ⟨A3, c3, rfl, i3, b3⟩
  have HE2 := Lib.hid (btrans b0 b3)
  have HI := Lib.hid i3
  clear i3 b3 HC p0 p1 b0
  generalize hm : (clos l n).length = m at *
  have HM := Lib.hid hm
  clear hm
  go_wp2_with fail
  go_ret
  have h9 := HI.out
  rw [← HM.out] at h9 ⊢
  refine ⟨w2.heap.size, A3, c3, rfl, (Blk.new w2 67 #[.slice A3 (clos l n).length c3]).cell 0, h9.below ((Below.refl _ _).alloc (Nat.le_refl _) _), HE2.out.alloc HE2.out.size _⟩
end Go.Proofs.Yteacpmdgojennaa.fronts
