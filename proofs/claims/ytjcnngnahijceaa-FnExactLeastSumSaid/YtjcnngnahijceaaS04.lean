/- Forcing: the contracts of the program's ForceOnce, ForceAll, PowerAll, SkewAll, IsForcing and FortOutside. -/
import Derived.Handy
import Derived.Test.YtjcnngnahijceaaS01
import Derived.Deep.DeepCutAuto
import Derived.Deep.RegionHeld3
import Derived.Deep.QuietTactic
import Derived.Test.YtjcnngnahijceaaS03
namespace Go.Proofs.Ytjcnngnahijceaa.forc
open Go.RowKit P2 words edges ints good adjs fns sets rets covs bags bitsI ups func gridr
set_option linter.unusedVariables false

/-- the closure of a set, as a list -/
def clsL (s : Int) (l : List Ed) (kind : Nat) (xs : List Int) : List Int := ndN (rchN s.toNat l kind (codeL xs))
def oncL (s : Int) (l : List Ed) (xs : List Int) : List Int := ndN (onN s.toNat l false (codeL xs))
theorem nd_zero : nw (bitB 0) 8 = [] := by decide +kernel
theorem full_walk {n : Nat} (hn : n ≤ 8) : IntKind.u64.wrap (IntKind.u64.wrap ((2 : Int) ^ n) - 1) = ((2 ^ n - 1 : Nat) : Int) := by
  have hpn := pow_le hn
  have hp1 : 1 ≤ 2 ^ n := Nat.one_le_two_pow
  rw [wrap_pow hn, IntKind.wrap_u64]
  generalize 2 ^ n = z at *
  omega
theorem beq_castN (a b : Nat) : (((a : Nat) : Int) == ((b : Nat) : Int)) = (a == b) := by
  rw [Bool.eq_iff_iff, beq_iff_eq, beq_iff_eq]; omega
/-- forcing sets, and the others -/
def ForcP (s : Int) (l : List Ed) (xs : List Int) : Prop := SetOk s l xs ∧ rchN s.toNat l 0 (codeL xs) = 2 ^ s.toNat - 1
def OutP (s : Int) (l : List Ed) (xs : List Int) : Prop := SetOk s l xs ∧ rchN s.toNat l 0 (codeL xs) ≠ 2 ^ s.toNat - 1
def outF (s : Int) (l : List Ed) (xs : List Int) : List Int := ndN (numOf (fun z => !(rchN s.toNat l 0 (codeL xs)).testBit z) s.toNat)
theorem rest_walk {n y : Nat} (hn : n ≤ 8) (hy : y < 2 ^ n) : bits .andNot .u64 ((2 ^ n - 1 : Nat) : Int) (y : Int) = (numOf (fun z => !y.testBit z) n : Int) := by
  have hp := pow_le hn
  have h2 := andNot_num (2 ^ n - 1) (bitB y) n (by omega) hn (fun z => !y.testBit z) (fun z _ => by
    rw [Nat.testBit_two_pow_sub_one]
    unfold bitB
    by_cases hz : z < n
    · simp [hz]
    · simp [hz])
  rw [num_bits hy] at h2
  exact h2
end Go.Proofs.Ytjcnngnahijceaa.forc

/- Forcing: the contracts of the model's ForceOnce, ForceAll, SkewAll, l9Forces, IsForcing, l5Rest, FortOutside. -/
namespace Go.Proofs.Ytjcnngnahijceaa.forc
open Go.RowKit P2 words edges ints good adjs fns sets rets covs bags balls bitsI ups func costs
set_option linter.unusedVariables false

theorem len_full {n y : Nat} (hn : n ≤ 8) (hy : y < 2 ^ n) : (((nw (bitB y) n).length : Int) == (n : Int)) = (y == 2 ^ n - 1) := by
  have h8 := Nat.lt_of_lt_of_le hy (pow_le hn)
  have h1 := ones_full ⟨n, by omega⟩ ⟨y, h8⟩ hy
  rw [nw_ones hn hy, Bool.eq_iff_iff, beq_iff_eq, beq_iff_eq, ← h1]
  simp only
  omega
set_option maxHeartbeats 2000000 in
set_option maxRecDepth 100000 in
theorem l9Forces_any (n c : Nat) (v u : Value) (l : List Ed) (w : World) (h : Edges w v l) (hl : l.length ≤ 1048576) (hu : Ints w u (nw (bitB c) n)) (hn : n ≤ 8) (hc : c < 2 ^ n) :
    Calls Try.prog 49 #[.agg #[.int .i64 (n : Int), v], u] w fun e w' => e = .returned (.bool (rchN n l 0 c == 2 ^ n - 1)) ∧ Below w.heap.size w w' := by
  obtain ⟨A, cc, rfl, -⟩ := h.form
  have b0 : Below w.heap.size w (w.alloc (.cells #[.int .i64 (n : Int), .slice A l.length cc] 28)) := (Below.refl _ _).alloc (Nat.le_refl _) _
  have HB0 := Lib.hid b0
  have HG0 := Lib.hid (Blk.new w 28 #[.int .i64 (n : Int), .slice A l.length cc])
  obtain ⟨p0, p1, -, -⟩ := HG0.out.two
  have HA := Lib.hid (l9All_any n c false (.slice A l.length cc) u l ((w.alloc (.cells #[.int .i64 (n : Int), .slice A l.length cc] 28)).drew) (h.below b0.drew) hl (hu.below b0.drew) hn hc)
  have hlf := len_full hn (last_ltN (l := l) (sk := false) hc)
  have HV : Hid (rchN n l 0 c = lastN n l false c) := rfl
  rw [HV.out]
  clear h hu b0 hc HV
  generalize lastN n l false c = y at *
  generalize nw (bitB y) n = M at *
  generalize 2 ^ n - 1 = z at *
  generalize hW : w.alloc (.cells #[.int .i64 (n : Int), .slice A l.length cc] 28) = w1 at *
  have HW := Lib.hid hW
  clear hW
  go_enter Try.func49, Try.ntmps49
  go_wp2_with fail
  rw [HW.out]
  refine wp_region_held_drew (S := (fun w' : World => w'.cell? ⟨w.heap.size, 0, none⟩ = some (.int .i64 (n : Int)) ∧ w'.cell? ⟨w.heap.size, 1, none⟩ = some (.slice A l.length cc))) (by kernel_rfl) (by (try dsimp only); simp [*]) (fun hHeld => ?_)
  change wpAnyH _ _ _ _ _ _ #[false, false, false, false, false, false, false, false] _ _
  refine wpAnyH_take (i := 0) (oi := ⟨some 5, _, _, _, _, _⟩) (v := ?_) rfl (by kernel_rfl) (by kernel_rfl) (by kernel_rfl) (fun _ _ _ h => h) (Or.inl ⟨by rfl, ?_⟩) (by assumption) ?_
  rotate_left
  · (intro w hSw; (try dsimp only at hSw); go_simp; (try (with_reducible rfl)))
  try simp only [Act.put, List.setIfInBounds_toArray, List.set_cons_zero, List.set_cons_succ]
  refine wpAnyH_take (i := 1) (oi := ⟨some 6, _, _, _, _, _⟩) (v := ?_) rfl (by kernel_rfl) (by kernel_rfl) (by kernel_rfl) (fun _ _ _ h => h) (Or.inl ⟨by rfl, ?_⟩) (by assumption) ?_
  rotate_left
  · (intro w hSw; (try dsimp only at hSw); go_simp; (try (with_reducible rfl)))
  try simp only [Act.put, List.setIfInBounds_toArray, List.set_cons_zero, List.set_cons_succ]
  refine wpAnyH_take (i := 4) (oi := ⟨some 9, _, _, _, _, _⟩) (v := ?_) rfl (by kernel_rfl) (by kernel_rfl) (by kernel_rfl) (fun _ _ _ h => h) (Or.inl ⟨by rfl, ?_⟩) (by assumption) ?_
  rotate_left
  · (intro w hSw; (try dsimp only at hSw); go_simp; (try (with_reducible rfl)))
  try simp only [Act.put, List.setIfInBounds_toArray, List.set_cons_zero, List.set_cons_succ]
  refine wpAnyH_take (i := 5) (oi := ⟨some 10, _, _, _, _, _⟩) (v := ?_) rfl (by kernel_rfl) (by kernel_rfl) (by kernel_rfl) (fun _ _ _ h => h) (Or.inl ⟨by rfl, ?_⟩) (by assumption) ?_
  rotate_left
  · (intro w hSw; (try dsimp only at hSw); go_simp; (try (with_reducible rfl)))
  try simp only [Act.put, List.setIfInBounds_toArray, List.set_cons_zero, List.set_cons_succ]
  refine wpAnyH_ready (rs := [2]) (by kernel_rfl) (by simp) ?_
  refine AllReadyH.cons (o := ⟨some 7, _, _, _, _, _⟩) rfl (fun K hK => ?_) AllReadyH.nil
  go_simp
  (with_reducible refine HA.out.mono ?_); rintro e w3 ⟨A3, c3, rfl, o3, b3⟩; have d3 : Below w1.heap.size w1 w3 := btrans (Below.refl _ _).drew b3; obtain ⟨k0, k1, -, -⟩ := (HG0.out.below d3 HG0.out.lt).two
  go_wp2_with fail
  refine hK.out _ _ (by (try dsimp only); simp [*]) (fun hHeld => ?_)
  clear hK K
  try simp only [List.setIfInBounds_toArray, List.set_cons_zero, List.set_cons_succ]
  refine wpAnyH_take (i := 3) (oi := ⟨some 8, _, _, _, _, _⟩) (v := ?_) rfl (by kernel_rfl) (by kernel_rfl) (by kernel_rfl) (fun _ _ _ h => h) (Or.inl ⟨by rfl, ?_⟩) (by assumption) ?_
  rotate_left
  · (intro w hSw; (try dsimp only at hSw); go_simp; (try (with_reducible rfl)))
  try simp only [Act.put, List.setIfInBounds_toArray, List.set_cons_zero, List.set_cons_succ]
  refine wpAnyH_take (i := 6) (oi := ⟨some 11, _, _, _, _, _⟩) (v := ?_) rfl (by kernel_rfl) (by kernel_rfl) (by kernel_rfl) (fun _ _ _ h => h) (Or.inl ⟨by rfl, ?_⟩) (by assumption) ?_
  rotate_left
  · (intro w hSw; (try dsimp only at hSw); go_simp; (try (with_reducible rfl)))
  try simp only [Act.put, List.setIfInBounds_toArray, List.set_cons_zero, List.set_cons_succ]
  refine wpAnyH_take (i := 7) (oi := ⟨some 4, _, _, _, _, _⟩) (v := ?_) rfl (by kernel_rfl) (by kernel_rfl) (by kernel_rfl) (fun _ _ _ h => h) (Or.inl ⟨by rfl, ?_⟩) (by assumption) ?_
  rotate_left
  · (intro w hSw; (try dsimp only at hSw); go_simp; (try (with_reducible rfl)))
  try simp only [Act.put, List.setIfInBounds_toArray, List.set_cons_zero, List.set_cons_succ]
  refine wpAnyH_done (by kernel_rfl) ?_ _
  go_wp2_with fail
  go_ret
  exact ⟨rfl, btrans HB0.out d3⟩
theorem nd_lenP {p : Prop} (c : Nat) : (inG p (ndN c)).length ≤ 1048576 := inG_len fun _ => by
  unfold ndN
  have := nw_len (bitB c) 8
  omega
theorem cls_len (s : Int) (l : List Ed) (kind : Nat) (xs : List Int) : (inG (SetOk s l xs) (clsL s l kind xs)).length ≤ 1048576 := nd_lenP _
theorem onc_len (s : Int) (l : List Ed) (xs : List Int) : (inG (SetOk s l xs) (oncL s l xs)).length ≤ 1048576 := nd_lenP _
end Go.Proofs.Ytjcnngnahijceaa.forc
