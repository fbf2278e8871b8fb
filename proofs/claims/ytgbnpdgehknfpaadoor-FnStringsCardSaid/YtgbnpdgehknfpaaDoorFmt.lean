/- The contracts of the program's FormatInt, under what the package-level tables hold. -/
import Derived.Test.YtgbnpdgehknfpaaDoorRows
import Derived.Test.YtgbnpdgehknfpaaDoorNums
import Derived.Test.YtgbnpdgehknfpaaDoorShelf
import Derived.WalkSmall
import Derived.Lib.LaidTab
import Derived.Stop.LaidErr
import Derived.Shelf.Vars
namespace Go.Proofs.YtgbnpdgehknfpaaDoor.fmt
open Go.RowKit P1 nums

theorem gTab : Tryd.prog.globalNamed "internal/strconv.uint64pow10" = some 3 := by kernel_rfl
theorem gTabType : (Tryd.prog.globals[3]?).map (·.type) = some 80 := by kernel_rfl
theorem cellsTab : Tryd.prog.cellsOf 80 = 20 := by kernel_rfl
theorem cellsU64 : Tryd.prog.cellsOf 35 = 1 := by kernel_rfl

/-- the table of powers of ten reads as it is laid; MaxLen holds some number -/
structure Env (w : World) : Prop where
  tab : Lib.TabIs Tryd.prog w "internal/strconv.uint64pow10" .u64 Lib.pow10Tab
  len : ∃ m, w.cell? ⟨2, 0, none⟩ = some (.int .i64 m)
theorem Env.next {w w' : World} (h : Env w) (hb : Below w.heap.size w w') : Env w' :=
  ⟨var?_below hb gTab (by
    have h0 := World.var?_cell gTab h.tab 0
    have h1 : w.cell? ⟨3, 0, none⟩ = some (.int .u64 1) := h0
    exact World.block_lt_of_cell? w (a := ⟨3, 0, none⟩) h1) h.tab, by
    obtain ⟨m, hm⟩ := h.len
    exact ⟨m, (hb.cell (p := ⟨2, 0, none⟩) (World.block_lt_of_cell? w (a := ⟨2, 0, none⟩) hm)).trans hm⟩⟩
theorem Env.drewN {w : World} (h : Env w) (n : Nat) : Env (w.drewN n) := h.next (below_drewN (Below.refl _ _) _)

theorem env_of {W : World} {r : List (String × DataW Unit)} {x y : String × DataW Unit} (h : laidMet Tryd.prog (x :: y :: ("internal/strconv.uint64pow10", Rows.laid_internal_strconv_uint64pow10) :: r) W) (hsh : W.ShapedOpen Tryd.prog) : Env W :=
  ⟨Lib.tabIs_of_head gTab gTabType Tryd.underlying80 Tryd.underlying35 cellsU64 cellsTab h.tail.tail,
   cell_of_shapedOpen_int (P := Tryd.prog) (g := 2) (t := 3) (zero := #[.int .i64 0]) hsh (of_decide_eq_true (by kernel_rfl)) (by kernel_rfl) rfl (by kernel_rfl) (by kernel_rfl) Tryd.underlying3⟩

theorem below_grow (w : World) (k : Nat) (os : Array Obj) : Below w.heap.size w (Sort.grow (w.drewN k) os) :=
  ⟨rfl, rfl, rfl, by rw [Sort.size_grow]; exact Nat.le_add_right _ _, fun i hi => Sort.heap_grow_old (w.drewN k) os hi⟩

theorem implFormatInt_yes (n : Int) (w : World) (hE : Env w) (h0 : -999999 ≤ n) (h1 : n ≤ 999999) :
    Calls Tryd.prog 10 #[.int .i64 n] w fun e w' => e = .returned (.tuple #[.string ⟨(Lib.itoa n).toArray⟩, .bool true]) ∧ Below w.heap.size w w' := by
  have hT := Lib.hid hE.tab
  clear hE
  have d0 : decide (n < -999999) = false := by simp; omega
  have d1 : decide (999999 < n) = false := by simp; omega
  go_enter Tryd.func10, Tryd.ntmps10
  go_wp2_with (go_at_call 23; refine (Tryd.strconv_Itoa n (by omega) (by omega) _ hT.out).mono ?_; rintro e w' ⟨rfl, k, os, rfl⟩)
  go_ret2
  exact ⟨rfl, below_grow _ _ _⟩

theorem implFormatInt_no (n : Int) (w : World) (h : n < -999999 ∨ 999999 < n) :
    Calls Tryd.prog 10 #[.int .i64 n] w fun e w' => e = .returned (.tuple #[.string ⟨#[]⟩, .bool false]) ∧ w = w' := by
  by_cases h0 : n < -999999
  · have d0 : decide (n < -999999) = true := by simpa using h0
    clear h
    go_enter Tryd.func10, Tryd.ntmps10
    go_wp2_with fail
    go_ret2
    exact ⟨rfl, rfl⟩
  · have d0 : decide (n < -999999) = false := by simpa using h0
    have d1 : decide (999999 < n) = true := by simp; omega
    clear h
    go_enter Tryd.func10, Tryd.ntmps10
    go_wp2_with fail
    go_ret2
    exact ⟨rfl, rfl⟩
end Go.Proofs.YtgbnpdgehknfpaaDoor.fmt
