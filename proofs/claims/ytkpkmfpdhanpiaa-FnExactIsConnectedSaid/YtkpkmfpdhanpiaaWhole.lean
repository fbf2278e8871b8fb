/- The contract of the model's l2Whole. -/
import Derived.Handy
import Derived.Test.YtkpkmfpdhanpiaaParts
import Derived.Deep.DeepCutAuto
import Derived.Deep.RegionHeld3
namespace Go.Proofs.Ytkpkmfpdhanpiaa.rad
open Go.RowKit P2 words edges ints owns good near adjs fns rets sets covs grid reach
set_option linter.unusedVariables false

theorem all_nw (n : Nat) : nw (fun _ => true) n = allN n := by
  unfold nw allN
  rw [List.filter_eq_self.2 (fun _ _ => rfl)]
theorem ints_all {w : World} {B n : Nat} {A : Option Addr} {c : Nat} (h : w.ownsRow B 3 1 (.slice A (allN n).length c) (allN n).length (cellsI (allN n))) : Ints w (.slice A (allN n).length c) (nw (fun _ => true) n) := by
  have h_ : Ints w (.slice A (allN n).length c) (allN n) := Reads.of_own h
  rw [all_nw]; exact h_
set_option maxHeartbeats 2000000 in
set_option maxRecDepth 100000 in
theorem l2Whole_any (n : Nat) (v : Value) (l : List Ed) (w : World) (h : Edges w v l) (hl : l.length ≤ 1048576) (hn8 : n ≤ 8) :
    Calls Try.prog 29 #[.agg #[.int .i64 (n : Int), v]] w fun e w' => e = .returned (.bool (decide ((partsL n (J2 l) (fun _ => true)).length ≤ 1))) ∧ Below w.heap.size w w' := by
  obtain ⟨A, c, rfl, -⟩ := h.form
  have H := Lib.hid h
  have HB0 : Hid (Below w.heap.size w (w.alloc (.cells #[.int .i64 (n : Int), .slice A l.length c] 29))) := (Below.refl _ _).alloc (Nat.le_refl _) _
  have HG0 := Lib.hid (Blk.new w 29 #[.int .i64 (n : Int), .slice A l.length c])
  obtain ⟨p0, p1, -, -⟩ := HG0.out.two
  have HSK := Lib.hid (fun (W : World) (hW : Below (w.heap.size + 1) (w.alloc (.cells #[.int .i64 (n : Int), .slice A l.length c] 29)) W) => (⟨(hW.cell (p := ⟨w.heap.size, 0, none⟩) (Nat.lt_succ_self _)).trans p0, (hW.cell (p := ⟨w.heap.size, 1, none⟩) (Nat.lt_succ_self _)).trans p1⟩ : W.cell? ⟨w.heap.size, 0, none⟩ = some (.int .i64 (n : Int)) ∧ W.cell? ⟨w.heap.size, 1, none⟩ = some (.slice A l.length c)))
  have HD := Lib.hid (fun (W : World) (hW : Below (w.alloc (.cells #[.int .i64 (n : Int), .slice A l.length c] 29)).drew.heap.size (w.alloc (.cells #[.int .i64 (n : Int), .slice A l.length c] 29)).drew W) => (show Below (w.heap.size + 1) (w.alloc (.cells #[.int .i64 (n : Int), .slice A l.length c] 29)) W from ((Below.refl (w.alloc (.cells #[.int .i64 (n : Int), .slice A l.length c] 29)).heap.size (w.alloc (.cells #[.int .i64 (n : Int), .slice A l.length c] 29))).drew.trans hW).mono (by simp)))
  have HE := Lib.hid (fun (W : World) (hW : Below (w.alloc (.cells #[.int .i64 (n : Int), .slice A l.length c] 29)).drew.heap.size (w.alloc (.cells #[.int .i64 (n : Int), .slice A l.length c] 29)).drew W) => (HB0.out.drew.trans (hW.mono HB0.out.drew.size) : Below w.heap.size w W))
  have HZ := Lib.hid (fun (W : World) (hW : Below (w.heap.size + 1) (w.alloc (.cells #[.int .i64 (n : Int), .slice A l.length c] 29)) W) => (by have h_ := hW.size; simpa using h_ : w.heap.size + 1 ≤ W.heap.size))
  clear h
  go_enter Try.func29, Try.ntmps29
  go_wp2_with fail
  go_region_held3 (fun w' => w'.cell? ⟨w.heap.size, 0, none⟩ = some (.int .i64 (n : Int)) ∧ w'.cell? ⟨w.heap.size, 1, none⟩ = some (.slice A l.length c)) (first | go_keep | exact HSK.out _ d2 | exact HSK.out _ d1) (first
    | (go_at_call 19
       refine (l2All_any n _ _ hn8).mono ?_
       rintro e w1 ⟨A1, c1, rfl, o1, b1⟩
       have d1 := HD.out w1 b1
       have e1 := HE.out w1 b1
       have i1 := ints_all o1)
    | (go_at_call 18
       refine (l2Parts_any n (fun _ => true) _ _ l w1 (H.out.below e1) hl i1 hn8).mono ?_
       rintro e w2 ⟨A2, c2, us, rfl, o2, b2⟩
       have d2 : Below (w.heap.size + 1) (w.alloc (.cells #[.int .i64 (n : Int), .slice A l.length c] 29)) w2 := d1.trans (b2.mono (HZ.out w1 d1))
       have e2 : Below w.heap.size w w2 := e1.trans (b2.mono e1.size)))
  all_goals (go_wp2_with fail)
  all_goals go_ret
  all_goals exact ⟨ret_bool (by rw [decide_eq_decide]; omega), e2⟩
end Go.Proofs.Ytkpkmfpdhanpiaa.rad
