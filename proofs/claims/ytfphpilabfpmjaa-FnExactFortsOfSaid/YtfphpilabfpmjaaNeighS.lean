/- The contracts of the model's l2Neighbors and NeighborsOf. -/
import Derived.Test.YtfphpilabfpmjaaNeigh
namespace Go.Proofs.Ytfphpilabfpmjaa.neigh
open Go.RowKit P2 words edges ints good near adjs fns

set_option maxHeartbeats 1000000 in
theorem l2Neighbors_any (n : Nat) (x : Int) (v : Value) (l : List Ed) (w : World) (h : Edges w v l) (hl : l.length ≤ 1048576) (hn : n ≤ 8) :
    Calls Try.prog 105 #[.agg #[.int .i64 (n : Int), v], .int .i64 x] w fun e w' => ∃ A c, e = .returned (.slice A (nw (fun y => adj l x y) n).length c) ∧
      w'.ownsRow w.heap.size 3 1 (.slice A (nw (fun y => adj l x y) n).length c) (nw (fun y => adj l x y) n).length (cellsI (nw (fun y => adj l x y) n)) ∧ Below w.heap.size w w' := by
  obtain ⟨i0, hi, hz0, hz1, hz2⟩ := info_parts infoInt
  obtain ⟨A, c, rfl, -⟩ := h.form
  have H := Lib.hid h
  have B0 : Below w.heap.size w ((w.alloc (.cells #[.int .i64 (n : Int), .slice A l.length c] 29)).alloc (.cells #[] 3)) := ((Below.refl _ _).alloc (Nat.le_refl _) _).alloc (by simp) _
  have G0 := (Blk.new w 29 #[.int .i64 (n : Int), .slice A l.length c]).alloc (.cells #[] 3)
  have O0 := own_new0 (w.alloc (.cells #[.int .i64 (n : Int), .slice A l.length c] 29)) 3 1
  rw [World.size_alloc] at O0
  have HB0 := Lib.hid B0
  have HG0 := Lib.hid G0
  have HO0 := Lib.hid O0
  clear h B0 G0 O0
  go_enter Try.func105, Try.ntmps105
  go_wp2_with fail
  go_loopw [5, 6] (fun s i wr => ∃ k : Nat, k ≤ n ∧ i = .int .i64 (k : Int) ∧ wr.ownsRow (w.heap.size + 1) 3 1 s (nw (fun y => adj l x y) k).length (cellsI (nw (fun y => adj l x y) k)) ∧ Blk wr w.heap.size 29 #[.int .i64 (n : Int), .slice A l.length c] ∧ Below w.heap.size w wr)
    (fun _ i _ => n - (intOf i).toNat)
  case atStart => exact ⟨0, Nat.zero_le _, rfl, HO0.out, HG0.out, HB0.out⟩
  case round =>
    obtain ⟨k, hk, rfl, hrow, hbk, hB⟩ := hrel
    have hlen := nw_len (fun y => adj l x y) k
    obtain ⟨p0, p1, -, -⟩ := hbk.two
    have hsz := hbk.lt
    by_cases hlt : k < n
    · have hlt' : (k : Int) < (n : Int) := by omega
      have HP := Lib.hid (l2Near_any (n : Int) x (k : Int) _ l wr (H.out.below hB) hl)
      by_cases hp : adj l x (k : Int) = true
      · have HN := Lib.hid (nw_yes (p := fun y => adj l x y) hp)
        rw [hp] at HP
        clear hp
        generalize nw (fun y => adj l x y) k = m at *
        go_wp2_with fail
        refine HP.out.mono ?_
        rintro e w1 ⟨rfl, hb⟩
        have hrow1 := own_below hrow hb
        have hB1 := btrans hB hb
        have hbk1 := Lib.hid (hbk.below hb hsz)
        have hsz1 := hbk1.out.lt
        clear hrow p0 p1 hbk hb hB
        go_wp2_with (at_builtin; refine wpList_append_own _ rfl _ _ 25 rfl (w.heap.size + 1) 3 i0 (.int .i64 0) 1 8 Try.underlying25 hi hz0 hz1 hz2 rfl (by decide) _ _ _ rfl (hrow1.alloc _) ⟨w1.heap.size, 0, none⟩ 1 1 [.int .i64 (k : Int)] rfl rfl (cell_one_new _ _ _) (fun x hx => by simp at hx; subst hx; rfl) (by unfold maxLen; omega) (by omega) (by simp; omega) ?_; intro v2 w2 hown2 hgrow2 _)
        obtain ⟨hown3, hB2⟩ := push1 hrow1 hown2 hgrow2 (by omega)
        have hbk2 := Lib.hid (hbk1.out.below hB2 (by omega))
        clear hgrow2 hrow1 hown2
        go_roundw
        case rel => exact ⟨k + 1, by omega, by go_num, by rw [HN.out]; exact hown3, hbk2.out, hB1.trans (hB2.mono (by omega))⟩
        case measure => simp [intOf]; omega
      · have hp' : adj l x (k : Int) = false := by simpa using hp
        have HN := Lib.hid (nw_no (p := fun y => adj l x y) hp')
        rw [hp'] at HP
        clear hp hp'
        go_wp2_with fail
        refine HP.out.mono ?_
        rintro e w1 ⟨rfl, hb⟩
        have hrow1 := own_below hrow hb
        have hbk1 := Lib.hid (hbk.below hb hsz)
        have hB1 := btrans hB hb
        clear hrow p0 p1 hbk hb hB
        go_wp2_with fail
        go_roundw
        case rel => exact ⟨k + 1, by omega, by go_num, by rw [HN.out]; exact hrow1, hbk1.out, hB1⟩
        case measure => simp [intOf]; omega
    · obtain rfl : k = n := by omega
      obtain ⟨A2, c2, rfl⟩ := own_form hrow
      go_wp2_with fail
      go_ret
      exact ⟨A2, c2, rfl, own_base hrow (by omega), hB⟩
end Go.Proofs.Ytfphpilabfpmjaa.neigh
