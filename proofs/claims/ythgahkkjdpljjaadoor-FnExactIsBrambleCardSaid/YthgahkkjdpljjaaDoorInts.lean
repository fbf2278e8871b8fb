/- The contracts of the laws' helpers over slices of integers: copies, comparisons, marks. -/
import Derived.Test.YthgahkkjdpljjaaDoorProg
import Derived.Test.YthgahkkjdpljjaaDoorWords
import Derived.WalkLawsBesides
import Derived.WalkSpells
import Derived.IntWalk
import Derived.Deep.QuietTactic
import Derived.BigQuiet
namespace Go.Proofs.YthgahkkjdpljjaaDoor.ints
open Go.RowKit P2 words

theorem infoInt : (Tryd.prog.info? 3).map (fun i => (i.zero, i.size, i.bytes)) = some (some (.int .i64 0), 1, 8) := by kernel_rfl

/-- a new row of one number, and an empty one -/
theorem own_new1 (w : World) (t : TypeId) (x : Int) : (w.alloc (.cells #[.int .i64 x] t)).ownsRow w.heap.size t 1 (.slice (some ⟨w.heap.size, 0, none⟩) 1 1) [x].length (cellsI [x]) :=
  World.ownsRow_lit (size := 1) w #[.int .i64 x] 1 (Nat.le_refl _) (by unfold maxLen; omega) rfl
theorem own_new0 (w : World) (t : TypeId) (size : Nat) : (w.alloc (.cells #[] t)).ownsRow w.heap.size t size (.slice (some ⟨w.heap.size, 0, none⟩) 0 0) 0 [] :=
  World.ownsRow_lit w #[] 0 (Nat.le_refl _) (Nat.zero_le _) (by simp)
set_option maxHeartbeats 400000 in
theorem eqIntS_yes (a b : Value) (l : List Int) (w : World) (ha : Ints w a l) (hb : Ints w b l) (hl : l.length ≤ 1048576) :
    Calls Tryd.prog 21 #[a, b] w fun e w' => e = .returned (.bool true) ∧ ∃ n, w' = w.drewN n := by
  obtain ⟨A1, c1, rfl, h1⟩ := ha.form
  obtain ⟨A2, c2, rfl, h2⟩ := hb.form
  have H1 := Lib.hid h1
  have H2 := Lib.hid h2
  clear h1 h2 ha hb
  go_enter Tryd.func21, Tryd.ntmps21
  go_wp2_with fail
  go_loopw [5] (fun i wr => ∃ k : Nat, k ≤ l.length ∧ i = .int .i64 (k : Int) ∧ ∃ n, wr = w.drewN n) (fun i _ => l.length - (intOf i).toNat)
  case atStart => exact ⟨0, Nat.zero_le _, rfl, 0, rfl⟩
  case round =>
    obtain ⟨k, hk, rfl, n, rfl⟩ := hrel
    by_cases hlt : k < l.length
    · obtain ⟨x, hx⟩ : ∃ x, l[k]? = some x := ⟨_, List.getElem?_eq_getElem hlt⟩
      obtain ⟨g1, o1, rfl, p0⟩ := H1.out k x hx
      obtain ⟨g2, o2, rfl, q0⟩ := H2.out k x hx
      have hlt' : (k : Int) < (l.length : Int) := by omega
      have hs : (x != x) = false := by simp
      clear hx
      go_wp2_with fail
      go_quiet (fail)
      go_wp2_with fail
      go_roundw
      case rel => exact ⟨k + 1, by omega, by go_num, _, rfl⟩
      case measure => simp [intOf]; omega
    · go_wp2_with fail
      go_ret
      exact ⟨rfl, _, rfl⟩

/-- the marks of n numbers, the first m -/
def marksI (m n : Nat) : List Int := (List.range n).map fun j : Nat => ((m + j : Nat) : Int)
theorem marksI_len (m n : Nat) : (marksI m n).length = n := by simp [marksI]
theorem marksI_at {m n j : Nat} (h : j < n) : (marksI m n)[j]? = some ((m + j : Nat) : Int) := by simp [marksI, h]
theorem marksI_succ (m n : Nat) : marksI m (n + 1) = marksI m n ++ [((m + n : Nat) : Int)] := by simp [marksI, List.range_succ]
def markedI (m k : Nat) (l : List Int) : List Value := cellsI (marksI m k ++ l.drop k)
theorem markedI_zero (m : Nat) (l : List Int) : markedI m 0 l = cellsI l := by simp [markedI, marksI]
theorem markedI_all (m : Nat) (l : List Int) : markedI m l.length l = cellsI (marksI m l.length) := by simp [markedI]
theorem markedI_set (m k : Nat) (l : List Int) (hk : k < l.length) : (markedI m k l).set k (.int .i64 ((m + k : Nat) : Int)) = markedI m (k + 1) l := by
  unfold markedI cellsI
  rw [← List.map_set, marksI_succ]
  congr 1
  rw [List.set_append_right _ _ (by rw [marksI_len]; exact Nat.le_refl _), marksI_len, Nat.sub_self, List.drop_eq_getElem_cons hk, List.set_cons_zero, List.append_assoc]
  rfl



/-- the first k numbers, then noughts -/
def copiedI (l : List Int) (k : Nat) : List Value := cellsI (l.take k ++ List.replicate (l.length - k) 0)
theorem copiedI_all (l : List Int) : copiedI l l.length = cellsI l := by simp [copiedI]
theorem copiedI_zero (l : List Int) : copiedI l 0 = List.replicate l.length (.int .i64 0) := by simp [copiedI, cellsI]
theorem copiedI_set {l : List Int} {k : Nat} {x : Int} (h : l[k]? = some x) : (copiedI l k).set k (.int .i64 x) = copiedI l (k + 1) := by
  obtain ⟨hk, he⟩ := List.getElem?_eq_some_iff.1 h
  have hl : (l.take k).length = k := by rw [List.length_take]; omega
  unfold copiedI cellsI
  rw [← List.map_set, show l.length - k = (l.length - (k + 1)) + 1 from by omega, List.replicate_succ, List.set_append_right _ _ (by omega), hl, Nat.sub_self, List.set_cons_zero, List.take_add_one, h]
  simp

set_option maxHeartbeats 400000 in
theorem toIntS_any (v : Value) (l : List Int) (w : World) (h : Ints w v l) (hl : l.length ≤ 1048576) :
    Calls Tryd.prog 17 #[v] w fun e w' => ∃ A c, e = .returned (.slice A l.length c) ∧ w'.ownsRow w.heap.size 3 1 (.slice A l.length c) l.length (cellsI l) ∧ Below w.heap.size w w' := by
  obtain ⟨A, c, rfl, hc⟩ := h.form
  obtain ⟨i0, hi, hz0, hz1, hz2⟩ := info_parts infoInt
  have hmk := run_make_rowN (P := Tryd.prog) 38 3 i0 (.int .i64 0) Tryd.underlying38 hi hz0 .i64 .i64 l.length l.length (Nat.le_refl _) (by rw [hz2]; omega) (by omega)
  have hown := World.ownsRow_lit (base := w.heap.size) (e := 3) (size := 1) w (madeCells #[Value.int .i64 0] (l.length * 1)) l.length (Nat.le_refl _) (by unfold maxLen; omega) (size_madeCells _ _)
  rw [toList_madeCells_one, Nat.mul_one, ← copiedI_zero] at hown
  have HOWN := Lib.hid hown
  have HC := Lib.hid hc
  clear hown hc
  go_enter Tryd.func17, Tryd.ntmps17
  go_wp2_with fail
  go_loopw [4] (fun i wr => ∃ k : Nat, k ≤ l.length ∧ i = .int .i64 (k : Int) ∧ wr.ownsRow w.heap.size 3 1 (.slice (some ⟨w.heap.size, 0, none⟩) l.length l.length) l.length (copiedI l k) ∧ Below w.heap.size w wr)
    (fun i _ => l.length - (intOf i).toNat)
  case atStart => exact ⟨0, Nat.zero_le _, rfl, HOWN.out, (Below.refl _ _).alloc (Nat.le_refl _) _⟩
  case round =>
    obtain ⟨k, hk, rfl, hrow, hB⟩ := hrel
    by_cases hlt : k < l.length
    · obtain ⟨x, hx⟩ : ∃ x, l[k]? = some x := ⟨_, List.getElem?_eq_getElem hlt⟩
      obtain ⟨g, o, rfl, c0⟩ := HC.out k x hx
      have hlt' : (k : Int) < (l.length : Int) := by omega
      have d0 : wr.cell? ⟨g, o + k, none⟩ = some (.int .i64 x) := (hB.cell (p := ⟨g, o + k, none⟩) (World.block_lt_of_cell? w (a := ⟨g, o + k, none⟩) c0)).trans c0
      have hlc : (copiedI l k).length = l.length := by have := hrow.1; omega
      obtain ⟨u, hu⟩ : ∃ u, (copiedI l k)[k]? = some u := ⟨_, List.getElem?_eq_getElem (by omega)⟩
      have f0 := hrow.cellAt k (by omega)
      rw [hu] at f0
      have z0 := hrow.frozenAt k
      have hst := (hrow.stored k (.int .i64 x)).1
      rw [copiedI_set hx] at hst
      have HST := Lib.hid hst
      have HB := Lib.hid hB
      clear hst hu hrow hB hlc hx c0
      go_wp2_with fail
      go_roundw
      case rel => exact ⟨k + 1, by omega, by go_num, HST.out, HB.out.setCell (Nat.le_refl _) _⟩
      case measure => simp [intOf]; omega
    · obtain rfl : k = l.length := by omega
      rw [copiedI_all] at hrow
      go_wp2_with fail
      go_ret
      exact ⟨_, _, rfl, hrow, hB⟩
end Go.Proofs.YthgahkkjdpljjaaDoor.ints
