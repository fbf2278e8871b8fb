/- The contract of the model's ComplementOf. -/
import Derived.Test.YtbelfdkfccchbabCompl
namespace Go.Proofs.Ytbelfdkfccchbab.compl
open Go.RowKit P2 words edges ints good near adjs fns rets mids nearv

set_option maxHeartbeats 2000000 in
set_option maxRecDepth 100000 in
theorem specCompl_any (s : Int) (v : Value) (l : List Ed) (w : World) (h : Edges w v l) (hl : l.length ≤ 1048576) (hs1 : -9223372036854775808 ≤ s) (hs2 : s ≤ 9223372036854775807) :
    Calls Try.prog 20 #[.agg #[.int .i64 s, v]] w (RetG w (P2.Good s l) s (complL s l)) := by
  obtain ⟨i0, hi, hz0, hz1, hz2⟩ := info_parts infoEd
  obtain ⟨A, c, rfl, -⟩ := h.form
  have H := Lib.hid h
  have b0 : Below w.heap.size w ((w.alloc (.cells #[.int .i64 s, .slice A l.length c] 26)).alloc (.cells #[.int .i64 0, .slice none 0 0] 26)) :=
    ((Below.refl _ _).alloc (Nat.le_refl _) _).alloc (by simp) _
  have g0 := (Blk.new w 26 #[.int .i64 s, .slice A l.length c]).alloc (.cells #[.int .i64 0, .slice none 0 0] 26)
  have r0 := Blk.new (w.alloc (.cells #[.int .i64 s, .slice A l.length c] 26)) 26 #[.int .i64 0, .slice none 0 0]
  rw [World.size_alloc] at r0
  have HG := Lib.hid (l2Good_any s _ l _ (h.below b0) hl hs1 hs2)
  clear h
  by_cases hg : P2.Good s l
  · rw [goodB_yes hg] at HG
    have h0 := hg.1
    have h8 := hg.2.1
    obtain ⟨n, hn⟩ : ∃ n : Nat, s = (n : Int) := ⟨s.toNat, by omega⟩
    subst hn
    have HGD := Lib.hid hg
    have hn8 : n ≤ 8 := by omega
    clear hg
    go_enter Try.func20, Try.ntmps20
    go_wp2_with fail
    refine HG.out.mono ?_
    rintro e w1 ⟨rfl, b1⟩
    have e1 := btrans b0 b1
    have g1 := g0.below b1 g0.lt
    have r1 := r0.below b1 r0.lt
    obtain ⟨p0, p1, -, -⟩ := g1.two
    have hs1 := r1.lt
    have M1 := Lib.hid (mid_new (n : Int) r1 e1 (by omega))
    have G1 := Lib.hid ((g1.alloc (.cells #[] 51)).alloc (.cells #[.int .i64 (n : Int), .slice (some ⟨w1.heap.size, 0, none⟩) 0 0] 26))
    have E1 := Lib.hid e1
    clear HG b0 b1 g0 r0 g1 r1 e1
    go_wp2_with fail
    go_loopg [5] n (fun g i wr => ∃ x : Nat, x + g = n ∧ i = .int .i64 (x : Int) ∧ Mid w wr (w.heap.size + 1) (w1.heap.size + 1) (n : Int) (gwTo (complJ l) n x) ∧ Blk wr w.heap.size 26 #[.int .i64 (n : Int), .slice A l.length c])
    case atStart => exact ⟨0, by omega, rfl, M1.out, G1.out⟩
    case round =>
      obtain ⟨x, hxg, rfl, hmid, hgb⟩ := hrel
      obtain ⟨p0, p1, -, -⟩ := hgb.two
      cases gk with
      | zero =>
        obtain rfl : x = n := by omega
        obtain ⟨A, c, bO, hr, bR, hB, h5⟩ := hmid
        obtain ⟨o0, o1, f0, f1⟩ := bO.two
        have HD := Lib.hid (Mid.done (n := (x : Int)) hr bR hB h5.1)
        obtain ⟨q0, q1, z0, z1⟩ := bR.two
        clear bO hr bR hB h5
        go_wp2_with fail
        refine bodyPost_ret (v := .tuple #[.agg #[.int .i64 (x : Int), .slice A (gwTo (complJ l) x x).length c], .bool true]) (by simp [results, Try.results20, go_sem, q0, q1]) rfl (RetG.yes (l := complL (x : Int) l) HGD.out HD.out.1 HD.out.2)
      | succ g =>
        have hxn : x < n := by omega
        have hxn' : (x : Int) < (n : Int) := by omega
        go_wp2_with fail
        go_loopg [6] (n - (x + 1)) (fun g2 i wr => ∃ y : Nat, y + g2 = n ∧ x < y ∧ i = .int .i64 (y : Int) ∧ Mid w wr (w.heap.size + 1) (w1.heap.size + 1) (n : Int) (gwTo (complJ l) n x ++ rowTo (complJ l) x y) ∧ Blk wr w.heap.size 26 #[.int .i64 (n : Int), .slice A l.length c])
        case atStart => exact ⟨x + 1, by omega, by omega, by go_num, by rw [rowTo_start (complJ l) x (x + 1) (Nat.le_refl _), List.append_nil]; exact hmid, hgb⟩
        case round =>
          clear p0 p1
          obtain ⟨y, hyg, hxy, rfl, hmid2, hgb2⟩ := hrel
          obtain ⟨p0, p1, -, -⟩ := hgb2.two
          have hM2 := Lib.hid hmid2
          obtain ⟨_, _, _, _, _, hB0, _⟩ := hmid2
          have HNR := Lib.hid (l2Near_any (n : Int) (x : Int) (y : Int) (.slice A l.length c) l wr (H.out.below hB0) hl)
          cases gk with
          | zero =>
            obtain rfl : y = n := by omega
            clear hmid
            go_wp2_with fail
            go_roundg g
            case measure => omega
            case rel => exact ⟨x + 1, by omega, by go_num, by rw [gwTo_succ]; exact hM2.out, hgb2⟩
          | succ g2 =>
            have hyn : y < n := by omega
            have hyn' : (y : Int) < (n : Int) := by omega
            have hlen := gwTo_len64 (complJ l) n x y hn8 (by omega) (by omega)
            by_cases hj : adj l x y = true
            · have HN := Lib.hid (rowTo_no (J := complJ l) (x := x) (y := y) (by simp [complJ, hj]))
              rw [hj] at HNR
              clear hmid hj
              go_wp2_with fail
              refine HNR.out.mono ?_
              rintro e w3 ⟨rfl, b3⟩
              have hM3 := Lib.hid (hM2.out.call b3)
              have hgb3 := Lib.hid (hgb2.below b3 hgb2.lt)
              clear b3 p0 p1 hgb2
              go_wp2_with fail
              go_roundg g2
              case measure => omega
              case rel => exact ⟨y + 1, by omega, by omega, by go_num, by rw [HN.out]; exact hM3.out, hgb3.out⟩
            · have hj' : adj l x y = false := by simpa using hj
              have HN := Lib.hid (show (gwTo (complJ l) n x ++ rowTo (complJ l) x y) ++ [((x : Int), (y : Int))] = gwTo (complJ l) n x ++ rowTo (complJ l) x (y + 1) from by rw [rowTo_yes hxy (by simp [complJ, hj']), List.append_assoc])
              rw [hj'] at HNR
              clear hmid hj hj'
              generalize gwTo (complJ l) n x ++ rowTo (complJ l) x y = m at *
              go_wp2_with fail
              refine HNR.out.mono ?_
              rintro e w3 ⟨rfl, b3⟩
              have hgb3 := hgb2.below b3 hgb2.lt
              obtain ⟨A3, c3, bO, hr, bR, hB, h5⟩ := hM2.out.call b3
              obtain ⟨o0, o1, f0, f1⟩ := bO.two
              have hsO := bO.lt
              have hsz := hB.size
              have HB := Lib.hid hB
              have H5 := Lib.hid h5
              clear hB h5 b3 p0 p1 hgb2
              go_wp2_with (at_builtin; refine wpList_append_own _ rfl _ _ 22 rfl w.heap.size 51 i0 (.agg #[.int .i64 0, .int .i64 0]) 2 16 Try.underlying22 hi hz0 hz1 hz2 rfl (by decide) _ _ _ rfl (hr.alloc _) ⟨w3.heap.size, 0, none⟩ 1 1 [.int .i64 (x : Int), .int .i64 (y : Int)] rfl rfl (cell_two_new _ _ _ _) (fun x hx => by simp at hx; rcases hx with rfl | rfl <;> rfl) (by unfold maxLen; omega) (by omega) (by simp; omega) ?_; intro v2 w4 hown2 hgrow2 _; have hgb4 := Lib.hid (fun u => push_blk (O := w1.heap.size + 1) (u := u) hr hgb3 tne hgrow2 (by omega)); obtain ⟨A2, c2, rfl, hm2, hk2⟩ := Mid.push bO hr bR HB.out H5.out hown2 rfl hgrow2; obtain ⟨t0, t1, y0, y1⟩ := hk2.two; have HM2 := Lib.hid hm2; clear hm2 hown2 hgrow2 hk2 hr bO bR hgb3)
              go_roundg g2
              case measure => omega
              case rel => exact ⟨y + 1, by omega, by omega, by go_num, by rw [← HN.out]; exact HM2.out, hgb4.out _⟩
  · rw [goodB_no hg] at HG
    have HN := Lib.hid hg
    clear hg
    go_enter Try.func20, Try.ntmps20
    go_wp2_with fail
    refine HG.out.mono ?_
    rintro e w1 ⟨rfl, b1⟩
    have e1 := btrans b0 b1
    have r1 := r0.below b1 r0.lt
    obtain ⟨q0, q1, z0, z1⟩ := r1.two
    clear HG b0 b1 g0 r0 r1
    go_wp2_with fail
    refine bodyPost_ret (v := .tuple #[.agg #[.int .i64 0, .slice none 0 0], .bool false]) (by simp [results, Try.results20, go_sem, q0, q1]) rfl (RetG.no HN.out ?_)
    first | exact e1 | exact (e1.setCell (by simp) _).setCell (by simp) _
theorem complL_len (s : Int) (l : List Ed) : (edG (P2.Good s l) (complL s l)).length ≤ 1048576 := edG_len fun h => gw_len _ (by have := h.2.1; omega)
end Go.Proofs.Ytbelfdkfccchbab.compl
