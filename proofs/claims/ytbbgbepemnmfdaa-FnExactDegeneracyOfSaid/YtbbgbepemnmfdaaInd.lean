/- The contracts of InducedGraph and RemoveNode: of the program and of the model. -/
import Derived.Test.YtbbgbepemnmfdaaNearV
import Derived.Test.YtbbgbepemnmfdaaSets
import Derived.Deep.DeepCutAuto
namespace Go.Proofs.Ytbbgbepemnmfdaa.inds
open Go.RowKit P2 words edges ints good near adjs fns gws rets mids nearv sets
set_option linter.unusedVariables false

def indJ (l : List Ed) (xs : List Int) (i k : Nat) : Bool := adj l (xs.getD i 0) (xs.getD k 0)
def indL (l : List Ed) (xs : List Int) : List Ed := gw xs.length (indJ l xs)
theorem getD_at {xs : List Int} {i : Nat} {x : Int} (h : xs[i]? = some x) : xs.getD i 0 = x := by simp [List.getD_eq_getElem?_getD, h]
theorem setOk_len {s : Int} {l : List Ed} {xs : List Int} (h : SetOk s l xs) : xs.length ≤ 8 := by
  obtain ⟨h1, h2, h3⟩ := h
  have h0 := h1.1
  obtain ⟨n, rfl⟩ : ∃ n : Nat, s = (n : Int) := ⟨s.toNat, by omega⟩
  have := asc_len h3 h2
  have := h1.2.1
  omega

theorem retG_below {w w' : World} {p : Prop} {n : Int} {l : List Ed} {e : Ending} (h : RetG w p n l e w') : Below w.heap.size w w' := by
  obtain ⟨_, _, _, _, h⟩ := h; exact h
set_option maxHeartbeats 2000000 in
set_option maxRecDepth 100000 in
theorem l2Ind_any (s : Int) (v u : Value) (l : List Ed) (xs : List Int) (w : World) (h : Edges w v l) (hl : l.length ≤ 1048576) (hu : Ints w u xs) (hx8 : xs.length ≤ 8) :
    Calls Try.prog 61 #[.agg #[.int .i64 s, v], u] w fun e w' => ∃ A c, e = .returned (.agg #[.int .i64 xs.length, .slice A (indL l xs).length c]) ∧
      w'.ownsRow w.heap.size 110 2 (.slice A (indL l xs).length c) (indL l xs).length (cellsE (indL l xs)) ∧ Below w.heap.size w w' := by
  obtain ⟨i0, hi, hz0, hz1, hz2⟩ := info_parts infoEd
  obtain ⟨A, c, rfl, -⟩ := h.form
  obtain ⟨A2, c2, rfl, hc⟩ := hu.form
  have H := Lib.hid h
  have HC := Lib.hid hc
  have e0 : Below w.heap.size w ((w.alloc (.cells #[.int .i64 s, .slice A l.length c] 29)).alloc (.cells #[.int .i64 0, .slice none 0 0] 29)) :=
    ((Below.refl _ _).alloc (Nat.le_refl _) _).alloc (by simp) _
  have g0 := (Blk.new w 29 #[.int .i64 s, .slice A l.length c]).alloc (.cells #[.int .i64 0, .slice none 0 0] 29)
  have r0 := Blk.new (w.alloc (.cells #[.int .i64 s, .slice A l.length c] 29)) 29 #[.int .i64 0, .slice none 0 0]
  rw [World.size_alloc] at r0
  have M1 := Lib.hid (mid_new (xs.length : Int) r0 e0 (by omega))
  have G1 := Lib.hid ((g0.alloc (.cells #[] 110)).alloc (.cells #[.int .i64 (xs.length : Int), .slice (some ⟨((w.alloc (.cells #[.int .i64 s, .slice A l.length c] 29)).alloc (.cells #[.int .i64 0, .slice none 0 0] 29)).heap.size, 0, none⟩) 0 0] 29))
  simp only [World.size_alloc] at M1 G1
  clear h hu hc e0 g0 r0
  go_enter Try.func61, Try.ntmps61
  go_wp2_with fail
  go_loopg [6] xs.length (fun g i wr => ∃ x : Nat, x + g = xs.length ∧ i = .int .i64 (x : Int) ∧ Mid w wr (w.heap.size + 1) (w.heap.size + 1 + 1 + 1) (xs.length : Int) (gwTo (indJ l xs) xs.length x) ∧ Blk wr w.heap.size 29 #[.int .i64 s, .slice A l.length c])
  case atStart => exact ⟨0, by omega, rfl, M1.out, G1.out⟩
  case round =>
    obtain ⟨x, hxg, rfl, hmid, hgb⟩ := hrel
    obtain ⟨p0, p1, -, -⟩ := hgb.two
    cases gk with
    | zero =>
      obtain rfl : x = xs.length := by omega
      obtain ⟨A3, c3, bO, hr, bR, hB, h5⟩ := hmid
      obtain ⟨o0, o1, f0, f1⟩ := bO.two
      have HD := Lib.hid (Mid.done (n := (xs.length : Int)) hr bR hB h5.1)
      obtain ⟨q0, q1, z0, z1⟩ := bR.two
      clear bO hr bR hB h5
      go_wp2_with fail
      refine bodyPost_ret (v := .agg #[.int .i64 (xs.length : Int), .slice A3 (gwTo (indJ l xs) xs.length xs.length).length c3]) (by simp [results, Try.results61, go_sem, q0, q1]) rfl ⟨A3, c3, rfl, HD.out.1, HD.out.2⟩
    | succ g =>
      have hxn : x < xs.length := by omega
      have hxn' : (x : Int) < (xs.length : Int) := by omega
      go_wp2_with fail
      go_loopg [7] (xs.length - (x + 1)) (fun g2 i wr => ∃ y : Nat, y + g2 = xs.length ∧ x < y ∧ i = .int .i64 (y : Int) ∧ Mid w wr (w.heap.size + 1) (w.heap.size + 1 + 1 + 1) (xs.length : Int) (gwTo (indJ l xs) xs.length x ++ rowTo (indJ l xs) x y) ∧ Blk wr w.heap.size 29 #[.int .i64 s, .slice A l.length c])
      case atStart => exact ⟨x + 1, by omega, by omega, by go_num, by rw [rowTo_start (indJ l xs) x (x + 1) (Nat.le_refl _), List.append_nil]; exact hmid, hgb⟩
      case round =>
        clear p0 p1
        obtain ⟨y, hyg, hxy, rfl, hmid2, hgb2⟩ := hrel
        obtain ⟨p0, p1, -, -⟩ := hgb2.two
        have hM2 := Lib.hid hmid2
        obtain ⟨_, _, _, _, _, hB0, _⟩ := hmid2
        cases gk with
        | zero =>
          obtain rfl : y = xs.length := by omega
          clear hmid
          go_wp2_with fail
          go_roundg g
          case measure => omega
          case rel => exact ⟨x + 1, by omega, by go_num, by rw [gwTo_succ]; exact hM2.out, hgb2⟩
        | succ g2 =>
          have hyn : y < xs.length := by omega
          have hyn' : (y : Int) < (xs.length : Int) := by omega
          have hlen := gwTo_len64 (indJ l xs) xs.length x y hx8 (by omega) (by omega)
          obtain ⟨a, ha⟩ : ∃ a, xs[x]? = some a := ⟨_, List.getElem?_eq_getElem hxn⟩
          obtain ⟨b, hb⟩ : ∃ b, xs[y]? = some b := ⟨_, List.getElem?_eq_getElem hyn⟩
          obtain ⟨ga, oa, rfl, c0⟩ := HC.out x a ha
          obtain ⟨gb, ob, e', c1⟩ := HC.out y b hb
          obtain ⟨rfl, rfl⟩ : ga = gb ∧ oa = ob := by simpa using e'
          have m0 : wr.cell? ⟨ga, oa + x, none⟩ = some (.int .i64 a) := cell_keep c0 hB0
          have m1 : wr.cell? ⟨ga, oa + y, none⟩ = some (.int .i64 b) := cell_keep c1 hB0
          have HNR := Lib.hid (l2Near_any s a b (.slice A l.length c) l wr.drew (H.out.below hB0.drew) hl)
          have HJ : Hid (adj l a b = indJ l xs x y) := by show _ = _; unfold indJ; rw [getD_at ha, getD_at hb]
          have hj3 : (0 : Int) ≤ (x : Int) := by omega
          have hj4 : (0 : Int) ≤ (y : Int) := by omega
          rw [HJ.out] at HNR
          clear c0 c1 e' ha hb HJ
          cases hj : indJ l xs x y with
          | false =>
            have HN := Lib.hid (rowTo_no (J := indJ l xs) (x := x) (y := y) hj)
            rw [hj] at HNR
            clear hmid hj
            go_wp2_with fail
            go_region_held3 (fun w' => w'.cell? ⟨w.heap.size, 0, none⟩ = some (.int .i64 s) ∧ w'.cell? ⟨w.heap.size, 1, none⟩ = some (.slice A l.length c) ∧ w'.cell? ⟨ga, oa + x, none⟩ = some (.int .i64 a) ∧ w'.cell? ⟨ga, oa + y, none⟩ = some (.int .i64 b)) (go_keep)
              ((go_at_call 97; refine (keep4 HNR.out (p := ⟨w.heap.size, 0, none⟩) (q := ⟨w.heap.size, 1, none⟩) (r := ⟨ga, oa + x, none⟩) (s := ⟨ga, oa + y, none⟩) (a := .int .i64 s) (b := .slice A l.length c) (c := .int .i64 a) (d := .int .i64 b) ?_ ?_ ?_ ?_).mono ?_; (simp [*]); (simp [*]); (simp [*]); (simp [*]); rintro e w3 ⟨rfl, k0, k1, k2, k3, b3⟩))
            replace b3 : Below wr.heap.size wr w3 := (Below.refl _ _).drew.trans b3
            have hM3 := Lib.hid (hM2.out.call b3)
            have hgb3 := Lib.hid (hgb2.below b3 hgb2.lt)
            clear b3 p0 p1 hgb2 m0 m1 k0 k1 k2 k3
            go_wp2_with fail
            go_roundg g2
            case measure => omega
            case rel => exact ⟨y + 1, by omega, by omega, by go_num, by rw [HN.out]; exact hM3.out, hgb3.out⟩
          | true =>
            have HN := Lib.hid (show (gwTo (indJ l xs) xs.length x ++ rowTo (indJ l xs) x y) ++ [((x : Int), (y : Int))] = gwTo (indJ l xs) xs.length x ++ rowTo (indJ l xs) x (y + 1) from by rw [rowTo_yes hxy hj, List.append_assoc])
            rw [hj] at HNR
            clear hmid hj
            generalize gwTo (indJ l xs) xs.length x ++ rowTo (indJ l xs) x y = m at *
            go_wp2_with fail
            go_region_held3 (fun w' => w'.cell? ⟨w.heap.size, 0, none⟩ = some (.int .i64 s) ∧ w'.cell? ⟨w.heap.size, 1, none⟩ = some (.slice A l.length c) ∧ w'.cell? ⟨ga, oa + x, none⟩ = some (.int .i64 a) ∧ w'.cell? ⟨ga, oa + y, none⟩ = some (.int .i64 b)) (go_keep)
              ((go_at_call 97; refine (keep4 HNR.out (p := ⟨w.heap.size, 0, none⟩) (q := ⟨w.heap.size, 1, none⟩) (r := ⟨ga, oa + x, none⟩) (s := ⟨ga, oa + y, none⟩) (a := .int .i64 s) (b := .slice A l.length c) (c := .int .i64 a) (d := .int .i64 b) ?_ ?_ ?_ ?_).mono ?_; (simp [*]); (simp [*]); (simp [*]); (simp [*]); rintro e w3 ⟨rfl, k0, k1, k2, k3, b3⟩))
            replace b3 : Below wr.heap.size wr w3 := (Below.refl _ _).drew.trans b3
            have hM3 := Lib.hid (hM2.out.call b3)
            have hgb3 := Lib.hid (hgb2.below b3 hgb2.lt)
            clear b3 p0 p1 hgb2 m0 m1 k0 k1 k2 k3
            obtain ⟨A3, c3, bO, hr, bR, hB, h5⟩ := hM3.out
            have hgb4 := hgb3.out
            obtain ⟨o0, o1, f0, f1⟩ := bO.two
            have hsO := bO.lt
            have hsz := hB.size
            have HB := Lib.hid hB
            have H5 := Lib.hid h5
            clear hB h5
            go_wp2_with (at_builtin; refine wpList_append_own _ rfl _ _ 22 rfl w.heap.size 110 i0 (.agg #[.int .i64 0, .int .i64 0]) 2 16 Try.underlying22 hi hz0 hz1 hz2 rfl (by decide) _ _ _ rfl (hr.alloc _) ⟨w3.heap.size, 0, none⟩ 1 1 [.int .i64 (x : Int), .int .i64 (y : Int)] rfl rfl (cell_two_new _ _ _ _) (fun x hx => by simp at hx; rcases hx with rfl | rfl <;> rfl) (by unfold maxLen; omega) (by omega) (by simp; omega) ?_; intro v2 w4 hown2 hgrow2 _; have hgb5 := Lib.hid (fun u => push_blk (O := w.heap.size + 1 + 1 + 1) (u := u) hr hgb4 tne hgrow2 (by omega)); obtain ⟨A5, c5, rfl, hm2, hk2⟩ := Mid.push bO hr bR HB.out H5.out hown2 rfl hgrow2; obtain ⟨t0, t1, y0, y1⟩ := hk2.two; have HM2 := Lib.hid hm2; clear hown2 hgrow2 hm2 hk2 bO hr bR hgb4 o0 o1 f0 f1)
            go_roundg g2
            case measure => omega
            case rel => exact ⟨y + 1, by omega, by omega, by go_num, by rw [← HN.out]; exact HM2.out, hgb5.out _⟩

theorem indL_len (s : Int) (l : List Ed) (xs : List Int) : (edG (SetOk s l xs) (indL l xs)).length ≤ 1048576 := edG_len fun h => gw_len _ (setOk_len h)
end Go.Proofs.Ytbbgbepemnmfdaa.inds
