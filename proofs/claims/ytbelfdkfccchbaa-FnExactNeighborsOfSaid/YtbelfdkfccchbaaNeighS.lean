/- The contracts of the model's l2Neighbors and NeighborsOf. -/
import Derived.Test.YtbelfdkfccchbaaNeigh
namespace Go.Proofs.Ytbelfdkfccchbaa.neigh
open Go.RowKit P2 words edges ints good near adjs fns

set_option maxHeartbeats 1000000 in
theorem l2Neighbors_any (n : Nat) (x : Int) (v : Value) (l : List Ed) (w : World) (h : Edges w v l) (hl : l.length ≤ 1048576) (hn : n ≤ 8) :
    Calls Try.prog 81 #[.agg #[.int .i64 (n : Int), v], .int .i64 x] w fun e w' => ∃ A c, e = .returned (.slice A (nw (fun y => adj l x y) n).length c) ∧
      w'.ownsRow w.heap.size 3 1 (.slice A (nw (fun y => adj l x y) n).length c) (nw (fun y => adj l x y) n).length (cellsI (nw (fun y => adj l x y) n)) ∧ Below w.heap.size w w' := by
  obtain ⟨i0, hi, hz0, hz1, hz2⟩ := info_parts infoInt
  obtain ⟨A, c, rfl, -⟩ := h.form
  have H := Lib.hid h
  have B0 : Below w.heap.size w ((w.alloc (.cells #[.int .i64 (n : Int), .slice A l.length c] 26)).alloc (.cells #[] 3)) := ((Below.refl _ _).alloc (Nat.le_refl _) _).alloc (by simp) _
  have G0 := (Blk.new w 26 #[.int .i64 (n : Int), .slice A l.length c]).alloc (.cells #[] 3)
  have O0 := own_new0 (w.alloc (.cells #[.int .i64 (n : Int), .slice A l.length c] 26)) 3 1
  rw [World.size_alloc] at O0
  have HB0 := Lib.hid B0
  have HG0 := Lib.hid G0
  have HO0 := Lib.hid O0
  clear h B0 G0 O0
  go_enter Try.func81, Try.ntmps81
  go_wp2_with fail
  go_loopw [5, 6] (fun s i wr => ∃ k : Nat, k ≤ n ∧ i = .int .i64 (k : Int) ∧ wr.ownsRow (w.heap.size + 1) 3 1 s (nw (fun y => adj l x y) k).length (cellsI (nw (fun y => adj l x y) k)) ∧ Blk wr w.heap.size 26 #[.int .i64 (n : Int), .slice A l.length c] ∧ Below w.heap.size w wr)
    (fun _ i _ => n - (intOf i).toNat)
  case atStart => exact ⟨0, Nat.zero_le _, rfl, HO0.out, HG0.out, HB0.out⟩
  case round =>
    obtain ⟨k, hk, rfl, hrow, hbk, hB⟩ := hrel
    have hlen := nw_len (fun y => adj l x y) k
    obtain ⟨p0, p1, -, -⟩ := hbk.two
    have hsz := hbk.lt
    by_cases hlt : k < n
    · have hlt' : (k : Int) < (n : Int) := by omega
      have HP := Lib.hid (l2Near_any (n : Int) x (k : Int) _ l wr (H.out.below hB) hl)
      by_cases hp : adj l x (k : Int) = true
      · have HN := Lib.hid (nw_yes (p := fun y => adj l x y) hp)
        rw [hp] at HP
        clear hp
        generalize nw (fun y => adj l x y) k = m at *
        go_wp2_with fail
        refine HP.out.mono ?_
        rintro e w1 ⟨rfl, hb⟩
        have hrow1 := own_below hrow hb
        have hB1 := btrans hB hb
        have hbk1 := Lib.hid (hbk.below hb hsz)
        have hsz1 := hbk1.out.lt
        clear hrow p0 p1 hbk hb hB
        go_wp2_with (at_builtin; refine wpList_append_own _ rfl _ _ 38 rfl (w.heap.size + 1) 3 i0 (.int .i64 0) 1 8 Try.underlying38 hi hz0 hz1 hz2 rfl (by decide) _ _ _ rfl (hrow1.alloc _) ⟨w1.heap.size, 0, none⟩ 1 1 [.int .i64 (k : Int)] rfl rfl (cell_one_new _ _ _) (fun x hx => by simp at hx; subst hx; rfl) (by unfold maxLen; omega) (by omega) (by simp; omega) ?_; intro v2 w2 hown2 hgrow2 _)
        obtain ⟨hown3, hB2⟩ := push1 hrow1 hown2 hgrow2 (by omega)
        have hbk2 := Lib.hid (hbk1.out.below hB2 (by omega))
        clear hgrow2 hrow1 hown2
        go_roundw
        case rel => exact ⟨k + 1, by omega, by go_num, by rw [HN.out]; exact hown3, hbk2.out, hB1.trans (hB2.mono (by omega))⟩
        case measure => simp [intOf]; omega
      · have hp' : adj l x (k : Int) = false := by simpa using hp
        have HN := Lib.hid (nw_no (p := fun y => adj l x y) hp')
        rw [hp'] at HP
        clear hp hp'
        go_wp2_with fail
        refine HP.out.mono ?_
        rintro e w1 ⟨rfl, hb⟩
        have hrow1 := own_below hrow hb
        have hbk1 := Lib.hid (hbk.below hb hsz)
        have hB1 := btrans hB hb
        clear hrow p0 p1 hbk hb hB
        go_wp2_with fail
        go_roundw
        case rel => exact ⟨k + 1, by omega, by go_num, by rw [HN.out]; exact hrow1, hbk1.out, hB1⟩
        case measure => simp [intOf]; omega
    · obtain rfl : k = n := by omega
      obtain ⟨A2, c2, rfl⟩ := own_form hrow
      go_wp2_with fail
      go_ret
      exact ⟨A2, c2, rfl, own_base hrow (by omega), hB⟩

set_option maxHeartbeats 1000000 in
theorem specNeighbors_any (s x : Int) (v : Value) (l : List Ed) (w : World) (h : Edges w v l) (hl : l.length ≤ 1048576) (hs1 : -9223372036854775808 ≤ s) (hs2 : s ≤ 9223372036854775807) :
    Calls Try.prog 32 #[.agg #[.int .i64 s, v], .int .i64 x] w fun e w' => ∃ A c, e = .returned (.tuple #[.slice A (neighR s l x).length c, .bool (nodesB s l [x])]) ∧
      w'.ownsRow w.heap.size 3 1 (.slice A (neighR s l x).length c) (neighR s l x).length (cellsI (neighR s l x)) ∧ Below w.heap.size w w' := by
  obtain ⟨A, c, rfl, -⟩ := h.form
  have b0 : Below w.heap.size w (w.alloc (.cells #[.int .i64 s, .slice A l.length c] 26)) := (Below.refl _ _).alloc (Nat.le_refl _) _
  have g0 := Blk.new w 26 #[.int .i64 s, .slice A l.length c]
  have H := Lib.hid h
  have HG := Lib.hid (l2Good_any s _ l _ (h.below b0) hl hs1 hs2)
  clear h
  by_cases hg : P2.Good s l
  · rw [goodB_yes hg] at HG
    have h0 := hg.1
    have h8 := hg.2.1
    obtain ⟨n, rfl⟩ : ∃ n : Nat, s = (n : Int) := ⟨s.toNat, by omega⟩
    by_cases hx : 0 ≤ x ∧ x < (n : Int)
    · have hI : inB x 0 ((n : Int) - 1) = true := by simp [inB]; omega
      have hy := nodesB_yes (xs := [x]) hg (by simpa using hx)
      have HR : Hid (neighR (n : Int) l x = nw (fun y => adj l x y) n) := by unfold neighR; rw [if_pos hy]; rfl
      have HY := Lib.hid hy
      have hn8 : n ≤ 8 := by omega
      clear hg hy
      go_enter Try.func32, Try.ntmps32
      go_wp2_with fail
      refine HG.out.mono ?_
      rintro e w1 ⟨rfl, b1⟩
      have e1 := btrans b0 b1
      have g1 := g0.below b1 g0.lt
      obtain ⟨p0, p1, -, -⟩ := g1.two
      clear HG g0 b0 b1
      go_wp2_with fail
      refine (l2Node_any (n : Int) x _ l w1 (H.out.below e1) h0 h8).mono ?_
      rintro e w2 ⟨rfl, b2⟩
      have e2 := btrans e1 b2
      have g2 := g1.below b2 g1.lt
      clear p0 p1 g1 b2
      obtain ⟨p0, p1, -, -⟩ := g2.two
      go_wp2_with fail
      refine (l2Neighbors_any n x _ l w2 (H.out.below e2) hl hn8).mono ?_
      rintro e w3 ⟨A3, c3, rfl, o3, b3⟩
      go_wp2_with fail
      go_ret2
      rw [HR.out, HY.out]
      exact ⟨A3, c3, rfl, own_base o3 e2.size, btrans e2 b3⟩
    · have hI : inB x 0 ((n : Int) - 1) = false := by simp [inB]; omega
      have hy := nodesB_no (s := (n : Int)) (l := l) (xs := [x]) (fun hh => hx (hh.2 x (by simp)))
      have HR : Hid (neighR (n : Int) l x = []) := by unfold neighR; rw [hy]; rfl
      have HY := Lib.hid hy
      clear hg hy hx
      go_enter Try.func32, Try.ntmps32
      go_wp2_with fail
      refine HG.out.mono ?_
      rintro e w1 ⟨rfl, b1⟩
      have e1 := btrans b0 b1
      have g1 := g0.below b1 g0.lt
      obtain ⟨p0, p1, -, -⟩ := g1.two
      clear HG g0 b0 b1
      go_wp2_with fail
      refine (l2Node_any (n : Int) x _ l w1 (H.out.below e1) h0 h8).mono ?_
      rintro e w2 ⟨rfl, b2⟩
      have e2 := btrans e1 b2
      go_wp2_with fail
      go_ret2
      rw [HR.out, HY.out]
      exact ⟨_, _, rfl, own_base (own_new0 _ _ _) e2.size, e2.alloc e2.size _⟩
  · rw [goodB_no hg] at HG
    have hy := nodesB_no (s := s) (l := l) (xs := [x]) (fun hh => hg hh.1)
    have HR : Hid (neighR s l x = []) := by unfold neighR; rw [hy]; rfl
    have HY := Lib.hid hy
    clear hg hy
    go_enter Try.func32, Try.ntmps32
    go_wp2_with fail
    refine HG.out.mono ?_
    rintro e w1 ⟨rfl, b1⟩
    have e1 := btrans b0 b1
    go_wp2_with fail
    go_ret2
    rw [HR.out, HY.out]
    exact ⟨_, _, rfl, own_base (own_new0 _ _ _) e1.size, e1.alloc e1.size _⟩
end Go.Proofs.Ytbelfdkfccchbaa.neigh
