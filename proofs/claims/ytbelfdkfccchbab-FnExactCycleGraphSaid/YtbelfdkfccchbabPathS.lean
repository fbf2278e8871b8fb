/- The contracts of the model's l2Path, l2Complete, PathGraph and CompleteGraph. -/
import Derived.Test.YtbelfdkfccchbabPath
import Derived.Deep.DeepCutAuto
namespace Go.Proofs.Ytbelfdkfccchbab.paths
open Go.RowKit P2 words edges ints good fns gws rets mids

def pl (k : Nat) : List Ed := (List.range k).map fun x : Nat => ((x : Int), (x : Int) + 1)
theorem pl_succ (k : Nat) : pl (k + 1) = pl k ++ [((k : Int), (k : Int) + 1)] := by simp [pl, List.range_succ]
theorem pl_len (k : Nat) : (pl k).length = k := by simp [pl]
theorem pl_gw (n : Nat) : pl (n - 1) = gw n pathJ := by
  refine sorted_ext ?_ (gwTo_sorted _ n n) fun e => ?_
  · unfold pl
    rw [List.pairwise_map]
    refine List.Pairwise.imp ?_ List.pairwise_lt_range
    intro a b h
    exact .inl (by simp only; omega)
  · rw [mem_gw]
    simp only [pl, List.mem_map, List.mem_range, pathJ, decide_eq_true_eq]
    constructor
    · rintro ⟨x, hx, rfl⟩; exact ⟨x, x + 1, by omega, by omega, rfl, by simp⟩
    · rintro ⟨x, z, h1, h2, rfl, rfl⟩; exact ⟨x, by omega, by simp⟩

/-- the start: the result's variable, an empty row, the Graph in the making -/
theorem mid_start (w : World) (n : Int) :
    Mid w (((w.alloc (.cells #[.int .i64 0, .slice none 0 0] 26)).alloc (.cells #[] 51)).alloc (.cells #[.int .i64 n, .slice (some ⟨w.heap.size + 1, 0, none⟩) 0 0] 26)) w.heap.size (w.heap.size + 1 + 1) n [] := by
  refine ⟨some ⟨w.heap.size + 1, 0, none⟩, 0, ?_, ?_, ?_, ?_, Nat.le_refl _, by omega, by omega⟩
  · simpa using Blk.new ((w.alloc (.cells #[.int .i64 0, .slice none 0 0] 26)).alloc (.cells #[] 51)) 26 #[.int .i64 n, .slice (some ⟨w.heap.size + 1, 0, none⟩) 0 0]
  · have := (own_new0 (w.alloc (.cells #[.int .i64 0, .slice none 0 0] 26)) 51 2).alloc (.cells #[.int .i64 n, .slice (some ⟨w.heap.size + 1, 0, none⟩) 0 0] 26)
    rw [World.size_alloc] at this
    exact own_base this (by omega)
  · exact ((Blk.new w 26 #[.int .i64 0, .slice none 0 0]).alloc _).alloc _
  · exact (((Below.refl _ _).alloc (Nat.le_refl _) _).alloc (by simp) _).alloc (by simp; omega) _

set_option maxHeartbeats 1000000 in
theorem l2Path_any (n : Nat) (w : World) (hn : n ≤ 8) :
    Calls Try.prog 66 #[.int .i64 (n : Int)] w fun e w' => ∃ A c, e = .returned (.agg #[.int .i64 (n : Int), .slice A (gw n pathJ).length c]) ∧
      w'.ownsRow w.heap.size 51 2 (.slice A (gw n pathJ).length c) (gw n pathJ).length (cellsE (gw n pathJ)) ∧ Below w.heap.size w w' := by
  obtain ⟨i0, hi, hz0, hz1, hz2⟩ := info_parts infoEd
  have HM := Lib.hid (mid_start w (n : Int))
  have HP := Lib.hid (pl_gw n)
  go_enter Try.func66, Try.ntmps66
  go_wp2_with fail
  go_loopg [4] (n - 1) (fun g i wr => ∃ k : Nat, k + g = n - 1 ∧ i = .int .i64 (k : Int) ∧ Mid w wr w.heap.size (w.heap.size + 1 + 1) (n : Int) (pl k))
  case atStart => exact ⟨0, by omega, rfl, HM.out⟩
  case round =>
    obtain ⟨k, hkg, rfl, hmid⟩ := hrel
    have hlen := pl_len k
    have HMID := Lib.hid hmid
    obtain ⟨A, c, bO, hr, bR, hB, h5⟩ := hmid
    obtain ⟨p0, p1, f0, f1⟩ := bO.two
    have hsO := bO.lt
    cases gk with
    | zero =>
      have hk1 : ¬ ((k : Int) + 1 < (n : Int)) := by omega
      have hE : pl k = gw n pathJ := by rw [show k = n - 1 from by omega]; exact HP.out
      have HE := Lib.hid hE
      have HD := Lib.hid (Mid.done (n := (n : Int)) hr bR hB (Nat.le_refl _))
      obtain ⟨q0, q1, z0, z1⟩ := bR.two
      clear bO hr bR hB h5 hE hlen
      go_wp2_with fail
      refine bodyPost_ret (v := .agg #[.int .i64 (n : Int), .slice A (pl k).length c]) (by simp [results, Try.results66, go_sem, q0, q1]) rfl ?_
      rw [← HE.out]
      exact ⟨A, c, rfl, HD.out.1, HD.out.2⟩
    | succ g =>
      have hk1 : (k : Int) + 1 < (n : Int) := by omega
      have HS := Lib.hid (pl_succ k)
      have hsz := hB.size
      have hl2 : (pl k).length ≤ 8 := by omega
      have HB := Lib.hid hB
      have H5 := Lib.hid h5
      clear hlen hB h5
      generalize pl k = l at *
      go_wp2_with (at_builtin; refine wpList_append_own _ rfl _ _ 22 rfl w.heap.size 51 i0 (.agg #[.int .i64 0, .int .i64 0]) 2 16 Try.underlying22 hi hz0 hz1 hz2 rfl (by decide) _ _ _ rfl (hr.alloc _) ⟨wr.heap.size, 0, none⟩ 1 1 [.int .i64 (k : Int), .int .i64 ((k : Int) + 1)] rfl rfl (cell_two_new _ _ _ _) (fun x hx => by simp at hx; rcases hx with rfl | rfl <;> rfl) (by unfold maxLen; omega) (by omega) (by simp; omega) ?_; intro v2 w2 hown2 hgrow2 _; obtain ⟨A2, c2, rfl, hm2, hk2⟩ := Mid.push bO hr bR HB.out H5.out hown2 rfl hgrow2; obtain ⟨t0, t1, y0, y1⟩ := hk2.two; have HM2 := Lib.hid hm2; clear hm2 hown2 hgrow2 hk2 hr bO bR)
      go_roundg g
      case measure => omega
      case rel => exact ⟨k + 1, by omega, by go_num, by rw [HS.out]; exact HM2.out⟩

set_option maxHeartbeats 1000000 in
theorem l2Complete_any (n : Nat) (w : World) (hn : n ≤ 8) :
    Calls Try.prog 69 #[.int .i64 (n : Int)] w fun e w' => ∃ A c, e = .returned (.agg #[.int .i64 (n : Int), .slice A (gw n allJ).length c]) ∧
      w'.ownsRow w.heap.size 51 2 (.slice A (gw n allJ).length c) (gw n allJ).length (cellsE (gw n allJ)) ∧ Below w.heap.size w w' := by
  obtain ⟨i0, hi, hz0, hz1, hz2⟩ := info_parts infoEd
  have HM := Lib.hid (mid_start w (n : Int))
  go_enter Try.func69, Try.ntmps69
  go_wp2_with fail
  go_loopg [4] n (fun g i wr => ∃ x : Nat, x + g = n ∧ i = .int .i64 (x : Int) ∧ Mid w wr w.heap.size (w.heap.size + 1 + 1) (n : Int) (gwTo allJ n x))
  case atStart => exact ⟨0, by omega, rfl, HM.out⟩
  case round =>
    obtain ⟨x, hxg, rfl, hmid⟩ := hrel
    cases gk with
    | zero =>
      obtain rfl : x = n := by omega
      obtain ⟨A, c, bO, hr, bR, hB, h5⟩ := hmid
      obtain ⟨p0, p1, f0, f1⟩ := bO.two
      have HD := Lib.hid (Mid.done (n := (x : Int)) hr bR hB (Nat.le_refl _))
      obtain ⟨q0, q1, z0, z1⟩ := bR.two
      clear bO hr bR hB h5
      go_wp2_with fail
      refine bodyPost_ret (v := .agg #[.int .i64 (x : Int), .slice A (gwTo allJ x x).length c]) (by simp [results, Try.results69, go_sem, q0, q1]) rfl ⟨A, c, rfl, HD.out.1, HD.out.2⟩
    | succ g =>
      have hxn : x < n := by omega
      have hxn' : (x : Int) < (n : Int) := by omega
      go_wp2_with fail
      go_loopg [5] (n - (x + 1)) (fun g2 i wr => ∃ y : Nat, y + g2 = n ∧ x < y ∧ i = .int .i64 (y : Int) ∧ Mid w wr w.heap.size (w.heap.size + 1 + 1) (n : Int) (gwTo allJ n x ++ rowTo allJ x y))
      case atStart => exact ⟨x + 1, by omega, by omega, by go_num, by rw [rowTo_start allJ x (x + 1) (Nat.le_refl _), List.append_nil]; exact hmid⟩
      case round =>
        obtain ⟨y, hyg, hxy, rfl, hmid2⟩ := hrel
        cases gk with
        | zero =>
          obtain rfl : y = n := by omega
          have HM2 := Lib.hid hmid2
          clear hmid hmid2
          go_wp2_with fail
          go_roundg g
          case measure => omega
          case rel => exact ⟨x + 1, by omega, by go_num, by rw [gwTo_succ]; exact HM2.out⟩
        | succ g2 =>
          have hyn : y < n := by omega
          have hyn' : (y : Int) < (n : Int) := by omega
          have hlen := gwTo_len64 allJ n x y hn (by omega) (by omega)
          have HN := Lib.hid (show (gwTo allJ n x ++ rowTo allJ x y) ++ [((x : Int), (y : Int))] = gwTo allJ n x ++ rowTo allJ x (y + 1) from by rw [rowTo_yes hxy rfl, List.append_assoc])
          obtain ⟨A, c, bO, hr, bR, hB, h5⟩ := hmid2
          obtain ⟨p0, p1, f0, f1⟩ := bO.two
          have hsO := bO.lt
          have hsz := hB.size
          have HB := Lib.hid hB
          have H5 := Lib.hid h5
          clear hmid hB h5
          generalize gwTo allJ n x ++ rowTo allJ x y = l at *
          go_wp2_with (at_builtin; refine wpList_append_own _ rfl _ _ 22 rfl w.heap.size 51 i0 (.agg #[.int .i64 0, .int .i64 0]) 2 16 Try.underlying22 hi hz0 hz1 hz2 rfl (by decide) _ _ _ rfl (hr.alloc _) ⟨wr.heap.size, 0, none⟩ 1 1 [.int .i64 (x : Int), .int .i64 (y : Int)] rfl rfl (cell_two_new _ _ _ _) (fun x hx => by simp at hx; rcases hx with rfl | rfl <;> rfl) (by unfold maxLen; omega) (by omega) (by simp; omega) ?_; intro v2 w2 hown2 hgrow2 _; obtain ⟨A2, c2, rfl, hm2, hk2⟩ := Mid.push bO hr bR HB.out H5.out hown2 rfl hgrow2; obtain ⟨t0, t1, y0, y1⟩ := hk2.two; have HM2 := Lib.hid hm2; clear hm2 hown2 hgrow2 hk2 hr bO bR)
          go_roundg g2
          case measure => omega
          case rel => exact ⟨y + 1, by omega, by omega, by go_num, by rw [← HN.out]; exact HM2.out⟩

theorem in8B (n : Int) : inB n 0 8 = okG (In8 n) := by
  by_cases h : In8 n
  · rw [okG_yes h]; unfold inB; exact decide_eq_true h
  · rw [okG_no h]; unfold inB; exact decide_eq_false h

set_option maxHeartbeats 1000000 in
theorem specPath_any (n : Int) (w : World) :
    Calls Try.prog 28 #[.int .i64 n] w (RetG w (In8 n) n (pathL n)) := by
  have HI := Lib.hid (fun W => l1In_any n 0 8 W)
  rw [in8B n] at HI
  by_cases hn : In8 n
  · obtain ⟨k, rfl⟩ : ∃ k : Nat, n = (k : Int) := ⟨n.toNat, by have := hn.1; omega⟩
    have HP := Lib.hid hn
    have HF := Lib.hid (fun (W : World) => l2Path_any k W (by have := hn.2; omega))
    rw [okG_yes hn] at HI
    clear hn
    go_enter Try.func28, Try.ntmps28
    go_wp2_with (go_at_call 65; refine (HI.out _).mono ?_; rintro e w' ⟨rfl, rfl⟩)
    refine (HF.out _).mono ?_
    rintro e w1 ⟨A1, c1, rfl, o1, b1⟩
    have B1 : Blk w1 w.heap.size 26 #[.int .i64 0, .slice none 0 0] := (Blk.new w 26 #[.int .i64 0, .slice none 0 0]).below b1 (by simp)
    have D := Mid.done (n := (k : Int)) (own_base o1 (by simp)) B1 (btrans ((Below.refl w.heap.size w).alloc (Nat.le_refl _) _) b1) (Nat.le_refl _)
    have HD := Lib.hid D
    obtain ⟨p0, p1, z0, z1⟩ := B1.two
    clear B1 HF D o1 b1
    go_wp2_with fail
    refine bodyPost_ret (v := .tuple #[.agg #[.int .i64 (k : Int), .slice A1 (gw k pathJ).length c1], .bool true]) (by simp [results, Try.results28, go_sem, p0, p1]) rfl (RetG.yes HP.out HD.out.1 HD.out.2)
  · have HP := Lib.hid hn
    rw [okG_no hn] at HI
    clear hn
    go_enter Try.func28, Try.ntmps28
    go_wp2_with (go_at_call 65; refine (HI.out _).mono ?_; rintro e w' ⟨rfl, rfl⟩)
    refine bodyPost_ret (v := .tuple #[.agg #[.int .i64 0, .slice none 0 0], .bool false]) (by simp [results, Try.results28, go_sem]) rfl (RetG.no HP.out ((Below.refl _ _).alloc (Nat.le_refl _) _))
set_option maxHeartbeats 1000000 in
theorem specComplete_any (n : Int) (w : World) :
    Calls Try.prog 32 #[.int .i64 n] w (RetG w (In8 n) n (compL n)) := by
  have HI := Lib.hid (fun W => l1In_any n 0 8 W)
  rw [in8B n] at HI
  by_cases hn : In8 n
  · obtain ⟨k, rfl⟩ : ∃ k : Nat, n = (k : Int) := ⟨n.toNat, by have := hn.1; omega⟩
    have HP := Lib.hid hn
    have HF := Lib.hid (fun (W : World) => l2Complete_any k W (by have := hn.2; omega))
    rw [okG_yes hn] at HI
    clear hn
    go_enter Try.func32, Try.ntmps32
    go_wp2_with (go_at_call 65; refine (HI.out _).mono ?_; rintro e w' ⟨rfl, rfl⟩)
    refine (HF.out _).mono ?_
    rintro e w1 ⟨A1, c1, rfl, o1, b1⟩
    have B1 : Blk w1 w.heap.size 26 #[.int .i64 0, .slice none 0 0] := (Blk.new w 26 #[.int .i64 0, .slice none 0 0]).below b1 (by simp)
    have D := Mid.done (n := (k : Int)) (own_base o1 (by simp)) B1 (btrans ((Below.refl w.heap.size w).alloc (Nat.le_refl _) _) b1) (Nat.le_refl _)
    have HD := Lib.hid D
    obtain ⟨p0, p1, z0, z1⟩ := B1.two
    clear B1 HF D o1 b1
    go_wp2_with fail
    refine bodyPost_ret (v := .tuple #[.agg #[.int .i64 (k : Int), .slice A1 (gw k allJ).length c1], .bool true]) (by simp [results, Try.results32, go_sem, p0, p1]) rfl (RetG.yes HP.out HD.out.1 HD.out.2)
  · have HP := Lib.hid hn
    rw [okG_no hn] at HI
    clear hn
    go_enter Try.func32, Try.ntmps32
    go_wp2_with (go_at_call 65; refine (HI.out _).mono ?_; rintro e w' ⟨rfl, rfl⟩)
    refine bodyPost_ret (v := .tuple #[.agg #[.int .i64 0, .slice none 0 0], .bool false]) (by simp [results, Try.results32, go_sem]) rfl (RetG.no HP.out ((Below.refl _ _).alloc (Nat.le_refl _) _))

theorem pathL_len (n : Int) : (edG (In8 n) (pathL n)).length ≤ 1048576 := edG_len fun h => by
  have h1 := gwTo_len pathJ n.toNat n.toNat
  have h2 : n.toNat ≤ 8 := by have := h.2; omega
  have : n.toNat * n.toNat ≤ 8 * 8 := Nat.mul_le_mul h2 h2
  show (gwTo pathJ n.toNat n.toNat).length ≤ _
  omega
theorem compL_len (n : Int) : (edG (In8 n) (compL n)).length ≤ 1048576 := edG_len fun h => by
  have h1 := gwTo_len allJ n.toNat n.toNat
  have h2 : n.toNat ≤ 8 := by have := h.2; omega
  have : n.toNat * n.toNat ≤ 8 * 8 := Nat.mul_le_mul h2 h2
  show (gwTo allJ n.toNat n.toNat).length ≤ _
  omega
end Go.Proofs.Ytbelfdkfccchbab.paths
