/- The contract of slices.Repeat of one number. -/
import Derived.Handy
import Derived.Test.YtjcnngnahijceaaInts
import Derived.Test.YtjcnngnahijceaaFns
import Derived.Laws.CopyOwn
import Derived.Deep.RegionLaw
namespace Go.Proofs.Ytjcnngnahijceaa.reps
open Go.RowKit P2 words ints fns
set_option linter.unusedVariables false

theorem mul64_small (n : Nat) (hn : n ≤ 8) (w : World) :
    Calls Try.prog 174 #[.int .u64 1, .int .u64 (n : Int)] w fun e w' => e = .returned (.tuple #[.int .u64 0, .int .u64 (n : Int)]) ∧ w = w' := by
  have hc : n = 0 ∨ n = 1 ∨ n = 2 ∨ n = 3 ∨ n = 4 ∨ n = 5 ∨ n = 6 ∨ n = 7 ∨ n = 8 := by omega
  rcases hc with rfl | rfl | rfl | rfl | rfl | rfl | rfl | rfl | rfl
  all_goals
    go_enter Try.func174, Try.ntmps174
    go_wp2_with fail
    go_ret2
    exact ⟨rfl, rfl⟩
theorem mul_small (n : Nat) (hn : n ≤ 8) (w : World) :
    Calls Try.prog 171 #[.int .u64 1, .int .u64 (n : Int)] w fun e w' => e = .returned (.tuple #[.int .u64 0, .int .u64 (n : Int)]) ∧ w = w' := by
  have HM := Lib.hid (mul64_small n hn w)
  have h1 : (n : Int) ≤ 8 := by omega
  go_enter Try.func171, Try.ntmps171
  go_wp2_with fail
  refine HM.out.mono ?_
  rintro e w' ⟨rfl, rfl⟩
  go_wp2_with fail
  go_ret2
  exact ⟨rfl, rfl⟩

theorem oneI (l : List Int) : ∀ x ∈ cellsI l, x.oneCell' = true := fun x hx => by
  simp only [cellsI, List.mem_map] at hx
  obtain ⟨e, _, rfl⟩ := hx
  rfl
theorem addr_add (g o j : Nat) : (⟨g, o, none⟩ : Addr).add j = ⟨g, o + j, none⟩ := by unfold Addr.add; split <;> simp_all
/-- k numbers, then noughts -/
def filled (x : Int) (n k : Nat) : List Value := cellsI (List.replicate k x ++ List.replicate (n - k) 0)
theorem filled_len (x : Int) (n k : Nat) (h : k ≤ n) : (filled x n k).length = n := by simp [filled, cellsI]; omega
theorem filled_all (x : Int) (n : Nat) : filled x n n = cellsI (List.replicate n x) := by simp [filled]
theorem filled_splice (x : Int) {n k j : Nat} (h : k + j ≤ n) : splice (filled x n k) k (cellsI (List.replicate j x)) = filled x n (k + j) := by
  unfold filled splice cellsI
  rw [← List.map_take, ← List.map_drop, ← List.map_append, ← List.map_append]
  congr 1
  rw [List.take_append_of_le_length (by simp), List.take_of_length_le (by simp), List.drop_append]
  simp only [List.length_map, List.length_replicate, List.drop_replicate]
  rw [show k - (k + j) = 0 from by omega, List.replicate_zero, List.nil_append, show n - k - (k + j - k) = n - (k + j) from by omega, ← List.append_assoc, List.replicate_append_replicate]
theorem made1 (n : Nat) : (madeCells #[Value.int .i64 0] (n * 1)).toList = filled 0 n 0 := by
  rw [toList_madeCells_one]
  simp [filled, cellsI]

set_option maxHeartbeats 2000000 in
set_option maxRecDepth 100000 in
theorem repeat_any (x : Int) (g0 n : Nat) (w : World) (hn : n ≤ 8) (hn1 : 1 ≤ n) (hx : w.cell? ⟨g0, 0, none⟩ = some (.int .i64 x)) :
    Calls Try.prog 164 #[.slice (some ⟨g0, 0, none⟩) 1 1, .int .i64 (n : Int)] w fun e w' => ∃ A c, e = .returned (.slice A (List.replicate n x).length c) ∧
      w'.ownsRow w.heap.size 3 1 (.slice A (List.replicate n x).length c) (List.replicate n x).length (cellsI (List.replicate n x)) ∧ Below w.heap.size w w' := by
  obtain ⟨i0, hi, hz0, hz1, hz2⟩ := info_parts infoInt
  have HM := Lib.hid (mul_small n hn w)
  have hsz1 : (Try.prog.info? 3).map (·.size) = some 1 := by kernel_rfl
  have h1 : (n : Int) ≤ 8 := by omega
  have h2 : (0 : Int) ≤ (n : Int) := by omega
  have hmk := fun (W : World) => run_make_rowN (P := Try.prog) 32 3 i0 (.int .i64 0) Try.underlying32 hi hz0 .i64 .i64 n n (Nat.le_refl _) (by rw [hz2]; omega) (by omega) W
  go_enter Try.func164, Try.ntmps164
  go_wp2_with fail
  refine HM.out.mono ?_
  rintro e w' ⟨rfl, rfl⟩
  have hlt0 := World.block_lt_of_cell? w (a := ⟨g0, 0, none⟩) hx
  have hB0 : Below w.heap.size w (w.alloc (.cells (madeCells #[.int .i64 0] n) 3)) := (Below.refl _ _).alloc (Nat.le_refl _) _
  have hx1 : (w.alloc (.cells (madeCells #[.int .i64 0] n) 3)).cell? ⟨g0, 0, none⟩ = some (.int .i64 x) := (hB0.cell (p := ⟨g0, 0, none⟩) hlt0).trans hx
  have hG0 : Hid ((w.alloc (.cells (madeCells #[.int .i64 0] n) 3)).heap[w.heap.size]? = some (.cells (filled x n 0).toArray 3 (0, 0))) := by
    have e : (madeCells #[Value.int .i64 0] n) = (filled x n 0).toArray := by
      have := made1 n
      rw [Nat.mul_one] at this
      rw [show filled x n 0 = filled 0 n 0 from by simp [filled], ← this]
    rw [e]; exact Blk.new _ _ _
  have hl0 := filled_len x n 0 (Nat.zero_le _)
  have hS0 : Hid (splice (filled x n 0) 0 [.int .i64 x] = filled x n 1) := by show _ = _; have := filled_splice x (n := n) (k := 0) (j := 1) (by omega); simpa [cellsI] using this
  have HX := Lib.hid hx1
  have HB := Lib.hid hB0
  have HL := Lib.hid hl0
  clear hx hx1 hB0 hl0
  have HSRC : Hid (∀ (j : Nat) (v : Value), [Value.int .i64 x][j]? = some v → (w.alloc (.cells (madeCells #[.int .i64 0] n) 3)).cell? ((⟨g0, 0, none⟩ : Addr).add j) = some v) := fun j v hj => by
    match j, hj with
    | 0, hj =>
      cases hj
      rw [addr_add]
      exact HX.out
  have HFIT : Hid (0 + [Value.int .i64 x].length ≤ (filled x n 0).length) := by show _ ≤ _; rw [HL.out]; exact hn1
  have HMIN : Hid ([Value.int .i64 x].length = Nat.min 1 n) := by show 1 = min 1 n; omega
  go_wp2_with (refine wpList_copy_splice (o := ⟨some 33, _, _, _, _, _⟩) rfl (.tmp 31) (.tmp 32) 32 32 rfl 3 Try.underlying32 hsz1 (some ⟨w.heap.size, 0, none⟩) (some ⟨g0, 0, none⟩) n n 1 1 rfl rfl w.heap.size 0 (filled x n 0) 3 hG0.out [.int .i64 x] HMIN.out (fun _ => ⟨rfl, _, rfl, HSRC.out⟩) HFIT.out (oneI [x]) w.heap.size w HB.out (Nat.le_refl _) ?_; intro w1 hg1 hb1)
  rw [hS0.out] at hg1
  clear hG0 hS0 HX HB HL hmk HSRC HFIT HMIN
  have HG1 : Hid (Blk w1 w.heap.size 3 (filled x n 1).toArray) := hg1
  clear hg1
  go_loopg [8] n (fun g i wr => ∃ k : Nat, 1 ≤ k ∧ k ≤ n ∧ n ≤ k + g ∧ i = .int .i64 (k : Int) ∧ Hid (Blk wr w.heap.size 3 (filled x n k).toArray) ∧ Below w.heap.size w wr)
  case atStart => exact ⟨1, by omega, hn1, by omega, rfl, HG1, hb1⟩
  case round =>
    obtain ⟨k, hk1, hkn, hkg, rfl, hgb, hB⟩ := hrel
    by_cases hlt : k < n
    · have hlt' : (k : Int) < (n : Int) := by omega
      obtain ⟨jj, hjj⟩ : ∃ jj, jj = min k (n - k) := ⟨_, rfl⟩
      obtain ⟨cs, hcs⟩ : ∃ cs, cs = cellsI (List.replicate jj x) := ⟨_, rfl⟩
      have hcl : cs.length = jj := by rw [hcs]; simp [cellsI]
      have HSP : Hid (splice (filled x n k) k cs = filled x n (k + jj)) := by show _ = _; rw [hcs]; exact filled_splice x (by omega)
      have hL : Hid ((filled x n k).length = n) := filled_len x n k hkn
      have HFIT : Hid (k + cs.length ≤ (filled x n k).length) := by show _ ≤ _; rw [hL.out, hcl]; omega
      have HMIN : Hid (cs.length = Nat.min k (n - k)) := by show _ = min k (n - k); rw [hcl, hjj]
      have HSRC : Hid (∀ (j : Nat) (v : Value), cs[j]? = some v → wr.drew.cell? ((⟨w.heap.size, 0, none⟩ : Addr).add j) = some v) := fun j v hj => by
        have hjl := (List.getElem?_eq_some_iff.1 hj).1
        rw [hcl] at hjl
        have hv : v = .int .i64 x := by
          rw [hcs] at hj
          simp [cellsI, List.getElem?_replicate] at hj
          exact hj.2.symm
        subst hv
        rw [addr_add]
        show wr.cell? ⟨w.heap.size, 0 + j, none⟩ = _
        rw [Nat.zero_add, hgb.out.cell j]
        simp [filled, cellsI, List.getElem?_append, show j < k from by omega]
      have HO := Lib.hid (show ∀ y ∈ cs, y.oneCell' = true from by rw [hcs]; exact oneI _)
      have hG : Hid (wr.drew.heap[w.heap.size]? = some (.cells (filled x n k).toArray 3 (0, 0))) := hgb.out
      have hBd := Lib.hid hB.drew
      have hne : (n == k) = false := by simp; omega
      have hne2 : ¬ (n = k) := by omega
      have hj8 : (jj : Int) ≤ 8 := by omega
      have HJ := Lib.hid hjj
      have HCL := Lib.hid hcl
      have HW : Hid (IntKind.i64.wrap ((k : Int) + (cs.length : Int)) = (k : Int) + (cs.length : Int)) := by show _ = _; rw [hcl]; exact IntWalk.i64_in _ (by omega)
      clear hcs hgb hjj hcl
      go_wp2_with fail
      go_region_law (refine step_copy_splice rfl (.tmp 41) (.tmp 44) 32 32 rfl 3 Try.underlying32 hsz1 (some ⟨w.heap.size, k, none⟩) (some ⟨w.heap.size, 0, none⟩) (n - k) (n - k) k n ?_ ?_ w.heap.size k (filled x n k) 3 hG.out cs HMIN.out (fun _ => ⟨rfl, _, rfl, HSRC.out⟩) HFIT.out HO.out w.heap.size w hBd.out (Nat.le_refl _) ?_; (focus go_simp); (focus go_simp); intro w4 hg4 hb4)
      rw [HSP.out] at hg4
      have HG4 : Hid (Blk w4 w.heap.size 3 (filled x n (k + jj)).toArray) := hg4
      have HB4 := Lib.hid hb4
      have hcl8 : (cs.length : Int) ≤ 8 := by rw [HCL.out]; exact hj8
      have HJN := Lib.hid (show k + jj ≤ n ∧ 1 ≤ jj ∧ n ≤ k + gk + 0 from by have := HJ.out; omega)
      clear hg4 hb4 hG hBd HO HSRC HMIN HFIT hL HSP HJ hB
      go_wp2_with fail
      cases gk with
      | zero => omega
      | succ g2 =>
        go_roundg g2
        case measure => omega
        case rel => exact ⟨k + cs.length, by omega, by have := HJN.out; have := HCL.out; omega, by have := HJN.out; have := HCL.out; omega, by first | (rw [HW.out]; go_num) | go_num, by rw [HCL.out]; exact HG4, HB4.out⟩
    · obtain rfl : k = n := by omega
      have HF : Hid ((filled x k k).toArray.toList = cellsI (List.replicate k x)) := by show _ = _; rw [filled_all]
      have HL : Hid ((filled x k k).toArray.size = k) := by show _ = _; simpa using filled_len x k k (Nat.le_refl _)
      have hge : ¬ ((k : Int) < (k : Int)) := by omega
      go_wp2_with fail
      go_ret
      refine ⟨some ⟨w.heap.size, 0, none⟩, k, by simp [go_sem], ⟨by simp [cellsI], .inr ⟨w.heap.size, k, _, by simp, Nat.le_refl _, hgb.out, by simp, by unfold maxLen; omega, by rw [HL.out, Nat.mul_one], ?_⟩⟩, hB⟩
      rw [HF.out, Nat.mul_one]
      exact List.take_of_length_le (by simp [cellsI])
end Go.Proofs.Ytjcnngnahijceaa.reps
