/- What layouts measure, at all places: the contract of the program's numbersAlong. -/
import Derived.Handy
import Derived.Test.YtphlpipbhaiijaaCutI
import Derived.Deep.DeepCutAuto
import Derived.Deep.RegionHeld3
namespace Go.Proofs.Ytphlpipbhaiijaa.lays
open Go.RowKit P2 words edges ints good adjs fns sets rets covs reach bags each degs bitsI func
set_option linter.unusedVariables false

theorem alK_len (f : Nat → Int) (k : Nat) : ((List.range k).map f).length = k := by simp
/-- the numbers at the first k places, and noughts behind them -/
def alR (f : Nat → Int) (n k : Nat) : List Int := (List.range k).map f ++ List.replicate (n - k) 0
theorem alR_len (f : Nat → Int) {n k : Nat} (h : k ≤ n) : (alR f n k).length = n := by simp [alR]; omega
theorem alR_zero (f : Nat → Int) (n : Nat) : alR f n 0 = List.replicate n 0 := by simp [alR]
theorem alR_all (f : Nat → Int) (n : Nat) : alR f n n = (List.range n).map f := by simp [alR]
theorem alR_set {f : Nat → Int} {n k : Nat} (h : k < n) : (alR f n k).set k (f k) = alR f n (k + 1) := by
  unfold alR
  rw [show n - k = (n - (k + 1)) + 1 from by omega, List.replicate_succ, List.set_append_right _ _ (by rw [alK_len]; exact Nat.le_refl _), alK_len, Nat.sub_self, List.set_cons_zero, List.range_succ, List.map_append, List.append_assoc]
  rfl
theorem cellsI_put (l : List Int) (k : Nat) (x : Int) : (cellsI l).set k (.int .i64 x) = cellsI (l.set k x) := by simp [cellsI, List.map_set]
set_option maxHeartbeats 2000000 in
set_option maxRecDepth 100000 in
theorem along_any (n T : Nat) (K : FuncId) (mv : Value) (f : Nat → Int) (A2 : Option Addr) (c2 : Nat) (w : World) (hn : n ≤ 8) (hcap : n ≤ c2)
    (hnil : ∀ W, (nilAhead 269 T mv "loop.example/g01109/impl.atEnd").run Try.prog W = .ok (some false) W)
    (hmeth : ∀ W, (method 269 T mv "loop.example/g01109/impl.atEnd").run Try.prog W = .ok (K, mv) W)
    (hent : ∀ (args : Array Value) (W : World), (callFunc K args).run Try.prog W = .ok (.enter K args) W)
    (HC : ∀ (W : World) (k : Nat), Below w.heap.size w W → k < n → Calls Try.prog K #[mv, .slice A2 (k + 1) c2] W fun e w' => e = .returned (.int .i64 (f k)) ∧ Below W.heap.size W w') :
    Calls Try.prog 56 #[.slice A2 n c2, .iface T mv] w fun e w' => ∃ A c, e = .returned (.slice A n c) ∧ w'.ownsRow w.heap.size 3 1 (.slice A n c) n (cellsI ((List.range n).map f)) ∧ Below w.heap.size w w' := by
  obtain ⟨i0, hi, hz0, hz1, hz2⟩ := info_parts infoInt
  have HCC := Lib.hid HC
  have hmk := fun (W : World) => run_make_rowN (P := Try.prog) 25 3 i0 (.int .i64 0) Try.underlying25 hi hz0 .i64 .i64 n n (Nat.le_refl _) (by rw [hz2]; omega) (by omega) W
  rw [hz1] at hmk
  have hown := World.ownsRow_lit (base := w.heap.size) (e := 3) (size := 1) w (madeCells #[Value.int .i64 0] (n * 1)) n (Nat.le_refl _) (by unfold maxLen; omega) (size_madeCells _ _)
  rw [toList_madeCells_one, Nat.mul_one, show List.replicate n (Value.int .i64 0) = cellsI (alR f n 0) from by rw [alR_zero]; simp [cellsI]] at hown
  have HOWN := Lib.hid hown
  have HB2 := Lib.hid ((Below.refl w.heap.size w).alloc (Nat.le_refl _) (.cells (madeCells #[.int .i64 0] n) 3))
  simp only [Nat.mul_one] at hmk
  clear HC hown
  go_enter Try.func56, Try.ntmps56
  go_wp2_with fail
  clear hmk
  go_loopg [12] n (fun g iv wr => ∃ k : Nat, k + g = n ∧ iv = .int .i64 (k : Int) ∧ wr.ownsRow w.heap.size 3 1 (.slice (some ⟨w.heap.size, 0, none⟩) n n) n (cellsI (alR f n k)) ∧ Below w.heap.size w wr)
  case atStart => exact ⟨0, by omega, rfl, HOWN.out, HB2.out⟩
  case round =>
    clear HOWN HB2
    obtain ⟨k, hkg, rfl, hrow, hB⟩ := hrel
    cases gk with
    | zero =>
      obtain rfl : k = n := by omega
      rw [alR_all] at hrow
      have HR := Lib.hid hrow
      have HB := Lib.hid hB
      clear hrow hB
      go_wp2_with fail
      go_ret
      exact ⟨_, _, rfl, HR.out, HB.out⟩
    | succ g2 =>
      have hlt : k < n := by omega
      have hlt' : (k : Int) < (n : Int) := by omega
      obtain ⟨k1, hk1⟩ : ∃ k1, k1 = k + 1 := ⟨_, rfl⟩
      have hw1 : IntKind.i64.wrap ((k : Int) + 1) = (k1 : Int) := by rw [hk1]; exact IntWalk.i64_in _ (by omega)
      have hkc' : (k1 : Int) ≤ (c2 : Int) := by omega
      have hk0 : (0 : Int) ≤ (k1 : Int) := by omega
      have HX := Lib.hid (HCC.out wr.drew k hB.drew hlt)
      rw [← hk1] at HX
      have HSS := Lib.hid (alR_set (f := f) hlt)
      have hll := alR_len f (k := k) (n := n) (by omega)
      have HR := Lib.hid hrow
      have HB := Lib.hid hB
      have HK1 := Lib.hid hk1
      clear hk1 hrow hB
      go_wp2_with fail
      refine wp_region_held_drew (S := (fun w' : World => w'.heap.size = 0 ∨ True)) (by kernel_rfl) (by (try dsimp only); simp [*]) (fun hHeld => ?_)
      change wpAnyH _ _ _ _ _ _ #[false, false, false, false, false, false, false, false, false, false, false, false, false] _ _
      refine wpAnyH_take (i := 0) (oi := ⟨some 15, _, _, _, _, _⟩) (v := ?_) rfl (by kernel_rfl) (by kernel_rfl) (by kernel_rfl) (fun _ _ _ h => h) (Or.inl ⟨by rfl, ?_⟩) (by assumption) ?_
      rotate_left
      · (intro w hSw; (try dsimp only at hSw); go_simp; (try (with_reducible rfl)))
      try simp only [Act.put, List.setIfInBounds_toArray, List.set_cons_zero, List.set_cons_succ]
      refine wpAnyH_take (i := 1) (oi := ⟨some 16, _, _, _, _, _⟩) (v := ?_) rfl (by kernel_rfl) (by kernel_rfl) (by kernel_rfl) (fun _ _ _ h => h) (Or.inl ⟨by rfl, ?_⟩) (by assumption) ?_
      rotate_left
      · (intro w hSw; (try dsimp only at hSw); go_simp; (try (with_reducible rfl)))
      try simp only [Act.put, List.setIfInBounds_toArray, List.set_cons_zero, List.set_cons_succ]
      refine wpAnyH_take (i := 2) (oi := ⟨some 17, _, _, _, _, _⟩) (v := ?_) rfl (by kernel_rfl) (by kernel_rfl) (by kernel_rfl) (fun _ _ _ h => h) (Or.inl ⟨by rfl, ?_⟩) (by assumption) ?_
      rotate_left
      · (intro w hSw; (try dsimp only at hSw); go_simp; (try (with_reducible rfl)))
      try simp only [Act.put, List.setIfInBounds_toArray, List.set_cons_zero, List.set_cons_succ]
      refine wpAnyH_take (i := 3) (oi := ⟨some 18, _, _, _, _, _⟩) (v := ?_) rfl (by kernel_rfl) (by kernel_rfl) (by kernel_rfl) (fun _ _ _ h => h) (Or.inl ⟨by rfl, ?_⟩) (by assumption) ?_
      rotate_left
      · (intro w hSw; (try dsimp only at hSw); go_simp; (try (with_reducible rfl)))
      try simp only [Act.put, List.setIfInBounds_toArray, List.set_cons_zero, List.set_cons_succ]
      refine wpAnyH_take (i := 4) (oi := ⟨some 19, _, _, _, _, _⟩) (v := ?_) rfl (by kernel_rfl) (by kernel_rfl) (by kernel_rfl) (fun _ _ _ h => h) (Or.inl ⟨by rfl, ?_⟩) (by assumption) ?_
      rotate_left
      · (intro w hSw; (try dsimp only at hSw); go_simp; (try (with_reducible rfl)))
      try simp only [Act.put, List.setIfInBounds_toArray, List.set_cons_zero, List.set_cons_succ]
      refine wpAnyH_take (i := 5) (oi := ⟨some 20, _, _, _, _, _⟩) (v := ?_) rfl (by kernel_rfl) (by kernel_rfl) (by kernel_rfl) (fun _ _ _ h => h) (Or.inl ⟨by rfl, ?_⟩) (by assumption) ?_
      rotate_left
      · (intro w hSw; (try dsimp only at hSw); go_simp; (try (with_reducible rfl)))
      try simp only [Act.put, List.setIfInBounds_toArray, List.set_cons_zero, List.set_cons_succ]
      refine wpAnyH_take (i := 6) (oi := ⟨some 21, _, _, _, _, _⟩) (v := ?_) rfl (by kernel_rfl) (by kernel_rfl) (by kernel_rfl) (fun _ _ _ h => h) (Or.inl ⟨by rfl, ?_⟩) (by assumption) ?_
      rotate_left
      · (intro w hSw; (try dsimp only at hSw); go_simp; (try (with_reducible rfl)))
      try simp only [Act.put, List.setIfInBounds_toArray, List.set_cons_zero, List.set_cons_succ]
      refine wpAnyH_take (i := 7) (oi := ⟨some 22, _, _, _, _, _⟩) (v := ?_) rfl (by kernel_rfl) (by kernel_rfl) (by kernel_rfl) (fun _ _ _ h => h) (Or.inl ⟨by rfl, ?_⟩) (by assumption) ?_
      rotate_left
      · (intro w hSw; (try dsimp only at hSw); go_simp; (try (with_reducible rfl)))
      try simp only [Act.put, List.setIfInBounds_toArray, List.set_cons_zero, List.set_cons_succ]
      refine wpAnyH_take (i := 8) (oi := ⟨some 23, _, _, _, _, _⟩) (v := ?_) rfl (by kernel_rfl) (by kernel_rfl) (by kernel_rfl) (fun _ _ _ h => h) (Or.inl ⟨by rfl, ?_⟩) (by assumption) ?_
      rotate_left
      · (intro w hSw; (try dsimp only at hSw); go_simp; (try (with_reducible rfl)))
      try simp only [Act.put, List.setIfInBounds_toArray, List.set_cons_zero, List.set_cons_succ]
      refine wpAnyH_take (i := 9) (oi := ⟨some 24, _, _, _, _, _⟩) (v := ?_) rfl (by kernel_rfl) (by kernel_rfl) (by kernel_rfl) (fun _ _ _ h => h) (Or.inl ⟨by rfl, ?_⟩) (by assumption) ?_
      rotate_left
      · (intro w hSw; (try dsimp only at hSw); go_simp; (try (with_reducible rfl)))
      try simp only [Act.put, List.setIfInBounds_toArray, List.set_cons_zero, List.set_cons_succ]
      refine wpAnyH_ready (rs := [10]) (by kernel_rfl) (by simp) ?_
      refine AllReadyH.cons (o := ⟨some 25, _, _, _, _, _⟩) rfl (fun K hK => ?_) AllReadyH.nil
      go_simp
      refine HX.out.mono ?_; rintro e w3 ⟨rfl, b3⟩; have d3 : Below wr.heap.size wr w3 := btrans (Below.refl _ _).drew b3; have hrow3 := own_below HR.out d3; obtain ⟨u0, hu0⟩ : ∃ u, (alR f n k)[k]? = some u := ⟨_, List.getElem?_eq_getElem (by omega)⟩; have f0 := hrow3.cellAt k (by omega); rw [cellsI_at hu0] at f0; have z0 := hrow3.frozenAt k; have HST := Lib.hid (hrow3.stored k (.int .i64 (f k))); have HB3 := Lib.hid ((btrans HB.out d3).setCell (p := ⟨w.heap.size, k, none⟩) (Nat.le_refl _) (.int .i64 (f k))); clear hrow3 hu0 b3 d3
      go_wp2_with fail
      refine hK.out _ _ (by (try dsimp only); simp [*]) (fun hHeld => ?_)
      clear hK K
      try simp only [List.setIfInBounds_toArray, List.set_cons_zero, List.set_cons_succ]
      refine wpAnyH_take (i := 11) (oi := ⟨some 26, _, _, _, _, _⟩) (v := ?_) rfl (by kernel_rfl) (by kernel_rfl) (by kernel_rfl) (fun _ _ _ h => h) (Or.inl ⟨by rfl, ?_⟩) (by assumption) ?_
      rotate_left
      · (intro w hSw; (try dsimp only at hSw); go_simp; (try (with_reducible rfl)))
      try simp only [Act.put, List.setIfInBounds_toArray, List.set_cons_zero, List.set_cons_succ]
      refine wpAnyH_ready (rs := [12]) (by kernel_rfl) (by simp) ?_
      refine AllReadyH.cons rfl (fun K hK => ?_) AllReadyH.nil
      go_simp
      refine hK.out _ _ (Or.inr trivial) (fun hHeld => ?_)
      clear hK K
      refine wpAnyH_done (by kernel_rfl) ?_ _
      go_wp2_with fail
      go_roundg g2
      case measure => omega
      case rel =>
        have h_ := HST.out.1
        rw [cellsI_put, HSS.out] at h_
        exact ⟨k + 1, by omega, by first | go_num | rw [HK1.out], h_, HB3.out⟩
end Go.Proofs.Ytphlpipbhaiijaa.lays
