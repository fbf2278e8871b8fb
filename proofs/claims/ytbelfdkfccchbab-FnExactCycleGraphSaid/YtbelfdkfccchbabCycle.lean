/- The contracts of CycleGraph: of the program and of the model. -/
import Derived.Handy
import Derived.Test.YtbelfdkfccchbabToggM
import Derived.Test.YtbelfdkfccchbabPathS
namespace Go.Proofs.Ytbelfdkfccchbab.cycle
open Go.RowKit P2 words edges ints good near adjs fns gws rets mids nearv apps put togg paths

def CycOk (n : Int) : Prop := 3 ≤ n ∧ n ≤ 8
def cycL (n : Int) : List Ed := toggL n (pathL n) 0 (n - 1)
theorem path_good {n : Int} (h : CycOk n) : P2.Good n (pathL n) := by
  unfold CycOk at h
  have := gw_good n.toNat pathJ (by omega)
  rwa [show ((n.toNat : Nat) : Int) = n from by omega] at this
theorem cyc_tog {n : Int} (h : CycOk n) : TogOk n (pathL n) 0 (n - 1) := by
  have hg := path_good h
  unfold CycOk at h
  exact ⟨hg, by omega, by omega, by omega⟩
theorem pathL_small {n : Int} (h : In8 n) : (pathL n).length ≤ 1048576 := by
  have := pathL_len n
  rwa [edG_yes h] at this

set_option maxHeartbeats 1000000 in
set_option maxRecDepth 100000 in
theorem implCycle_any (n : Int) (w : World) : Calls Try.prog 31 #[.int .i64 n] w (RetG w (CycOk n) n (cycL n)) := by
  have HP := Lib.hid (fun W => implPath_any n W)
  have e_w := Below.refl w.heap.size w
  have r0 := Blk.new w 26 #[.int .i64 0, .slice none 0 0]
  by_cases hn : In8 n
  · have HS := Lib.hid hn
    have h0 := hn.1
    have h8 := hn.2
    clear hn
    go_enter Try.func31, Try.ntmps31
    go_wp2_with fail
    refine (HP.out _).mono ?_
    rintro e w1 ⟨A1, c1, rfl, o1, b1⟩
    rw [szG_yes HS.out, edG_yes HS.out, okG_yes HS.out] at *
    replace r0 := r0.below b1 r0.lt
    have e_w1 : Below w.heap.size w w1 := btrans (by have hz_ := (e_w).size; have hb_ := e_w; go_grown) b1
    have E1 : Edges w1 (.slice A1 (pathL n).length c1) (pathL n) := Reads.of_own o1
    have z1 := e_w1.size
    have y1 := r0.lt
    clear b1 o1 HP
    by_cases h3 : n < 3
    · have HN : Hid (¬ CycOk n) := fun h => by unfold CycOk at h; omega
      obtain ⟨q0, q1, y0, y1⟩ := r0.two
      have d3 : decide (n < 3) = true := by simpa using h3
      go_wp2_with fail
      have r9 : Blk (((w1.setCell ⟨w.heap.size, 0, none⟩ (.int .i64 0)).setCell ⟨w.heap.size, 1, none⟩ (.slice none 0 0)).alloc (.cells #[.int .i64 n, .slice A1 (pathL n).length c1] 26)) w.heap.size 26 #[.int .i64 0, .slice none 0 0] := ((r0.set_ 0 _).set_ 1 _).alloc _
      obtain ⟨q2, q3, -, -⟩ := r9.two
      refine bodyPost_ret (v := .tuple #[.agg #[.int .i64 0, .slice none 0 0], .bool false]) (by simp [results, Try.results31, go_sem, q2, q3]) rfl (RetG.no HN.out (by have hz_ := (e_w1).size; have hb_ := e_w1; go_grown))
    · have HC : Hid (CycOk n) := by show _ ∧ _; omega
      have d3 : decide (n < 3) = false := by simpa using h3
      have HL := Lib.hid (pathL_small HS.out)
      go_wp2_with fail
      refine (implTogg_any n 0 (n - 1) (.slice A1 (pathL n).length c1) (pathL n) _ (E1.below ((Below.refl _ _).alloc (Nat.le_refl _) _)) HL.out).mono ?_
      rintro e w2 ⟨A2, c2, rfl, o2, b2⟩
      rw [szG_yes (cyc_tog HC.out), edG_yes (cyc_tog HC.out), okG_yes (cyc_tog HC.out)] at *
      have r2 := (r0.alloc (.cells #[.int .i64 n, .slice A1 (pathL n).length c1] 26)).below b2 (r0.alloc _).lt
      have HD := Lib.hid (Mid.done (n := n) (own_base o2 (by simp only [World.size_alloc]; omega)) r2 (btrans (by have hz_ := (e_w1).size; have hb_ := e_w1; go_grown) b2) (Nat.le_refl _))
      obtain ⟨q0, q1, y0, y1⟩ := r2.two
      clear o2 b2 r2 r0 E1
      go_wp2_with fail
      refine bodyPost_ret (v := .tuple #[.agg #[.int .i64 (n), .slice A2 (toggL n (pathL n) 0 (n - 1)).length c2], .bool true]) (by simp [results, Try.results31, go_sem, q0, q1]) rfl (RetG.yes (l := cycL n) HC.out HD.out.1 HD.out.2)
  · have HN : Hid (¬ CycOk n) := fun h => hn ⟨by have := h.1; omega, h.2⟩
    have HI := Lib.hid hn
    go_enter Try.func31, Try.ntmps31
    go_wp2_with fail
    refine (HP.out _).mono ?_
    rintro e w1 ⟨A1, c1, rfl, o1, b1⟩
    rw [szG_no HI.out, edG_no HI.out, okG_no HI.out] at *
    replace r0 := r0.below b1 r0.lt
    have e_w1 : Below w.heap.size w w1 := btrans (by have hz_ := (e_w).size; have hb_ := e_w; go_grown) b1
    clear b1 o1 HP
    have y9 := r0.lt
    obtain ⟨q0, q1, y0, y1⟩ := r0.two
    go_wp2_with fail
    have r9 : Blk (((w1.setCell ⟨w.heap.size, 0, none⟩ (.int .i64 0)).setCell ⟨w.heap.size, 1, none⟩ (.slice none 0 0)).alloc (.cells #[.int .i64 0, .slice A1 0 c1] 26)) w.heap.size 26 #[.int .i64 0, .slice none 0 0] := ((r0.set_ 0 _).set_ 1 _).alloc _
    obtain ⟨q2, q3, -, -⟩ := r9.two
    refine bodyPost_ret (v := .tuple #[.agg #[.int .i64 0, .slice none 0 0], .bool false]) (by simp [results, Try.results31, go_sem, q2, q3]) rfl (RetG.no HN.out (by have hz_ := (e_w1).size; have hb_ := e_w1; go_grown))

set_option maxHeartbeats 1000000 in
theorem l2Cycle_any (k : Nat) (h3 : 3 ≤ k) (h8 : k ≤ 8) (w : World) :
    Calls Try.prog 68 #[.int .i64 (k : Int)] w fun e w' => ∃ A c, e = .returned (.agg #[.int .i64 (k : Int), .slice A (cycL (k : Int)).length c]) ∧
      w'.ownsRow w.heap.size 51 2 (.slice A (cycL (k : Int)).length c) (cycL (k : Int)).length (cellsE (cycL (k : Int))) ∧ Below w.heap.size w w' := by
  have HF := Lib.hid (fun (W : World) => l2Path_any k W h8)
  have hc : CycOk (k : Int) := ⟨by omega, by omega⟩
  have HC := Lib.hid hc
  have e_w := Below.refl w.heap.size w
  have r0 := Blk.new w 26 #[.int .i64 0, .slice none 0 0]
  have hlen : (gw k pathJ).length ≤ 1048576 := gw_len _ h8
  clear hc
  go_enter Try.func68, Try.ntmps68
  go_wp2_with fail
  refine (HF.out _).mono ?_
  rintro e w1 ⟨A1, c1, rfl, o1, b1⟩
  replace r0 := r0.below b1 r0.lt
  have e_w1 : Below w.heap.size w w1 := btrans (by have hz_ := (e_w).size; have hb_ := e_w; go_grown) b1
  have E1 : Edges w1 (.slice A1 (gw k pathJ).length c1) (gw k pathJ) := Reads.of_own o1
  have z1 := e_w1.size
  have y1 := r0.lt
  clear b1 o1 HF
  have HL := Lib.hid hlen
  clear hlen
  go_wp2_with fail
  refine (l2Put_any (.slice A1 (gw k pathJ).length c1) (gw k pathJ) 0 ((k : Int) - 1) _ (E1.below ((Below.refl _ _).alloc (Nat.le_refl _) _)) HL.out).mono ?_
  rintro e w2 ⟨L, A2, c2, rfl, hput, o2, b2⟩
  have hL : Hid (cycL (k : Int) = L) := by
    have hno : (min (0 : Int) ((k : Int) - 1), max (0 : Int) ((k : Int) - 1)) ∉ pathL (k : Int) := by
      rw [show min (0 : Int) ((k : Int) - 1) = 0 from by omega, show max (0 : Int) ((k : Int) - 1) = (k : Int) - 1 from by omega]
      unfold pathL
      rw [Int.toNat_natCast, mem_gw]
      rintro ⟨x, z, h1, h2, h4, h5⟩
      simp only [Prod.mk.injEq, pathJ, decide_eq_true_eq] at h4 h5
      omega
    have := togg_out (n := k) (cyc_tog HC.out) hno (L := L) (by
      rw [show min (0 : Int) ((k : Int) - 1) = 0 from by omega, show max (0 : Int) ((k : Int) - 1) = (k : Int) - 1 from by omega]
      unfold pathL
      rw [Int.toNat_natCast]
      exact hput)
    exact this
  have r2 := (r0.alloc (.cells #[.int .i64 (k : Int), .slice A1 (gw k pathJ).length c1] 26)).below b2 (r0.alloc _).lt
  have x2 := (Blk.new w1 26 #[.int .i64 (k : Int), .slice A1 (gw k pathJ).length c1]).below b2 (Blk.new _ _ _).lt
  have e_w2 : Below w.heap.size w w2 := btrans (by have hz_ := (e_w1).size; have hb_ := e_w1; go_grown) b2
  have z2 := e_w2.size
  rw [World.size_alloc] at o2
  have O2 := Lib.hid o2
  clear b2 o2 E1 r0
  obtain ⟨q0, q1, y0, y2⟩ := r2.two
  obtain ⟨p0, p1, y3, y4⟩ := x2.two
  have yx := x2.lt
  go_wp2_with fail
  refine bodyPost_ret (v := .agg #[.int .i64 (k : Int), .slice A2 L.length c2]) (by simp [results, Try.results68, go_sem, q0, q1]) rfl ?_
  rw [hL.out]
  exact ⟨A2, c2, rfl, own_base (ownsRow_setCell_below (ownsRow_setCell_below (ownsRow_setCell_below O2.out (by simp) _) (by simp; omega) _) (by simp; omega) _) (by omega), ((e_w2.setCell (by simp; omega) _).setCell (Nat.le_refl _) _).setCell (Nat.le_refl _) _⟩

theorem in38B (n : Int) : inB n 3 8 = okG (CycOk n) := by
  by_cases h : CycOk n
  · rw [okG_yes h]; unfold inB; exact decide_eq_true h
  · rw [okG_no h]; unfold inB; exact decide_eq_false h
set_option maxHeartbeats 1000000 in
theorem specCycle_any (n : Int) (w : World) :
    Calls Try.prog 30 #[.int .i64 n] w (RetG w (CycOk n) n (cycL n)) := by
  have HI := Lib.hid (fun W => l1In_any n 3 8 W)
  rw [in38B n] at HI
  by_cases hn : CycOk n
  · obtain ⟨k, rfl⟩ : ∃ k : Nat, n = (k : Int) := ⟨n.toNat, by have := hn.1; omega⟩
    have HP := Lib.hid hn
    have HF := Lib.hid (fun (W : World) => l2Cycle_any k (by have := hn.1; omega) (by have := hn.2; omega) W)
    rw [okG_yes hn] at HI
    clear hn
    go_enter Try.func30, Try.ntmps30
    go_wp2_with (go_at_call 65; refine (HI.out _).mono ?_; rintro e w' ⟨rfl, rfl⟩)
    refine (HF.out _).mono ?_
    rintro e w1 ⟨A1, c1, rfl, o1, b1⟩
    have B1 : Blk w1 w.heap.size 26 #[.int .i64 0, .slice none 0 0] := (Blk.new w 26 #[.int .i64 0, .slice none 0 0]).below b1 (by simp)
    have D := Mid.done (n := (k : Int)) (own_base o1 (by simp)) B1 (btrans ((Below.refl w.heap.size w).alloc (Nat.le_refl _) _) b1) (Nat.le_refl _)
    have HD := Lib.hid D
    obtain ⟨p0, p1, z0, z1⟩ := B1.two
    clear B1 HF D o1 b1
    go_wp2_with fail
    refine bodyPost_ret (v := .tuple #[.agg #[.int .i64 ((k : Int)), .slice A1 (cycL (k : Int)).length c1], .bool true]) (by simp [results, Try.results30, go_sem, p0, p1]) rfl (RetG.yes HP.out HD.out.1 HD.out.2)
  · have HP := Lib.hid hn
    rw [okG_no hn] at HI
    clear hn
    go_enter Try.func30, Try.ntmps30
    go_wp2_with (go_at_call 65; refine (HI.out _).mono ?_; rintro e w' ⟨rfl, rfl⟩)
    refine bodyPost_ret (v := .tuple #[.agg #[.int .i64 0, .slice none 0 0], .bool false]) (by simp [results, Try.results30, go_sem]) rfl (RetG.no HP.out ((Below.refl _ _).alloc (Nat.le_refl _) _))
theorem cycL_len (n : Int) : (edG (CycOk n) (cycL n)).length ≤ 1048576 := edG_len fun h => by
  have h2 : n.toNat ≤ 8 := by have := h.2; omega
  exact gw_len _ h2
end Go.Proofs.Ytbelfdkfccchbab.cycle
