/- The contract of the program's closedBits. -/
import Derived.Test.YthgahkkjdpljjaaDoorBitsI
namespace Go.Proofs.YthgahkkjdpljjaaDoor.bitsI
open Go.RowKit P2 words edges ints good adjs fns sets rets covs
set_option linter.unusedVariables false

theorem infoU : (Tryd.prog.info? 57).map (fun i => (i.zero, i.size, i.bytes)) = some (some (.int .u64 0), 1, 8) := by kernel_rfl
theorem tneU : (57 : TypeId) ≠ 30 := by decide
theorem tneU2 : (57 : TypeId) ≠ 48 := by decide
/-- the first k powers, then noughts -/
def pws (n k : Nat) : List Nat := (List.range k).map (2 ^ ·) ++ List.replicate (n - k) 0
theorem pws_len {n k : Nat} (h : k ≤ n) : (pws n k).length = n := by simp [pws]; omega
theorem pws_set {n k : Nat} (h : k < n) : (pws n k).set k (2 ^ k) = pws n (k + 1) := by
  unfold pws
  rw [show n - k = (n - (k + 1)) + 1 from by omega, List.replicate_succ, List.set_append_right _ _ (by simp), List.length_map, List.length_range, Nat.sub_self, List.set_cons_zero, List.range_succ, List.map_append, List.append_assoc]
  rfl
/-- the neighborhoods by the first k edges -/
def closT (l : List Ed) (n k : Nat) : List Nat := (List.range n).map (cloB (l.take k))
theorem closT_len (l : List Ed) (n k : Nat) : (closT l n k).length = n := by simp [closT]
theorem closT_at {l : List Ed} {n k j : Nat} (h : j < n) : (closT l n k)[j]? = some (cloB (l.take k) j) := by simp [closT, h]
theorem closT_all (l : List Ed) (n : Nat) : closT l n l.length = clos l n := by simp [closT, clos]
theorem pws_all (l : List Ed) (n : Nat) : pws n n = closT l n 0 := by
  unfold pws closT
  rw [Nat.sub_self, List.replicate_zero, List.append_nil, List.take_zero]
  rfl
theorem closT_succ {l : List Ed} {n k p q : Nat} (h : l[k]? = some ((p : Int), (q : Int))) (hpq : p < q) (hq : q < n) :
    ((closT l n k).set p (cloB (l.take k) p ||| 2 ^ q)).set q (cloB (l.take k) q ||| 2 ^ p) = closT l n (k + 1) := by
  apply List.ext_getElem?
  intro j
  by_cases hj : j < n
  · rw [closT_at hj, cloB_succ h]
    have e : joinB (cloB (List.take k l) j) ((p : Int), (q : Int)) j = if p = j then cloB (l.take k) j ||| 2 ^ q else if q = j then cloB (l.take k) j ||| 2 ^ p else cloB (l.take k) j := by
      unfold joinB
      simp only [Int.ofNat_inj, Int.toNat_natCast]
    rw [e, List.getElem?_set]
    by_cases h2 : q = j
    · subst h2
      rw [if_pos rfl, if_pos (by rw [List.length_set, closT_len]; exact hj), if_neg (by omega), if_pos rfl]
    · rw [if_neg h2, List.getElem?_set]
      by_cases h1 : p = j
      · subst h1
        rw [if_pos rfl, if_pos (by rw [closT_len]; exact hj), if_pos rfl]
      · rw [if_neg h1, if_neg h1, if_neg h2, closT_at hj]
  · rw [List.getElem?_eq_none (by rw [List.length_set, List.length_set, closT_len]; omega), List.getElem?_eq_none (by rw [closT_len]; omega)]

set_option maxHeartbeats 4000000 in
set_option maxRecDepth 100000 in
theorem closedBits_own (n : Nat) (v : Value) (l : List Ed) (w : World) (h : Edges w v l) (hl : l.length ≤ 1048576) (hg : P2.Good n l) (hn : n ≤ 8) :
    Calls Tryd.prog 28 #[.agg #[.int .i64 (n : Int), v]] w fun e w' => ∃ A c, e = .returned (.slice A n c) ∧ w'.ownsRow w.heap.size 57 1 (.slice A n c) n (cellsU (clos l n)) ∧ Below w.heap.size w w' := by
  obtain ⟨A, c, rfl, hc⟩ := h.form
  obtain ⟨i0, hi, hz0, hz1, hz2⟩ := info_parts infoU
  have HC := Lib.hid hc
  have HG := Lib.hid hg
  have HLEN := Lib.hid (clos_len l n)
  have HALL := Lib.hid (closT_all l n)
  have HP := Lib.hid (pws_all l n)
  have hmk := fun (W : World) => run_make_rowN (P := Tryd.prog) 43 57 i0 (.int .u64 0) Tryd.underlying43 hi hz0 .i64 .i64 n n (Nat.le_refl _) (by rw [hz2]; omega) (by omega) W
  have hown := World.ownsRow_lit (base := w.heap.size + 1) (e := 57) (size := 1) (w.alloc (.cells #[.int .i64 (n : Int), .slice A l.length c] 30)) (madeCells #[Value.int .u64 0] (n * 1)) n (by simp) (by unfold maxLen; omega) (size_madeCells _ _)
  rw [toList_madeCells_one, Nat.mul_one, show List.replicate n (Value.int .u64 0) = cellsU (pws n 0) from by simp [pws, cellsU], World.size_alloc] at hown
  have HOWN := Lib.hid hown
  have b0 : Below w.heap.size w ((w.alloc (.cells #[.int .i64 (n : Int), .slice A l.length c] 30)).alloc (.cells (madeCells #[Value.int .u64 0] n) 57)) := ((Below.refl _ _).alloc (Nat.le_refl _) _).alloc (by simp) _
  have g0 := (Blk.new w 30 #[.int .i64 (n : Int), .slice A l.length c]).alloc (.cells (madeCells #[Value.int .u64 0] n) 57)
  clear h hc hg hown
  go_enter Tryd.func28, Tryd.ntmps28
  obtain ⟨p0, p1, -, -⟩ := (Blk.new w 30 #[.int .i64 (n : Int), .slice A l.length c]).two
  go_wp2_with fail
  clear p0 p1
  go_loopg [12] n (fun g i wr => ∃ k : Nat, k + g = n ∧ i = .int .i64 (k : Int) ∧ wr.ownsRow (w.heap.size + 1) 57 1 (.slice (some ⟨w.heap.size + 1, 0, none⟩) n n) n (cellsU (pws n k)) ∧ Blk wr w.heap.size 30 #[.int .i64 (n : Int), .slice A l.length c] ∧ Below w.heap.size w wr)
  case atStart => exact ⟨0, by omega, rfl, HOWN.out, g0, b0⟩
  case round =>
    obtain ⟨k, hkg, rfl, hrow, hgb, hB⟩ := hrel
    obtain ⟨p0, p1, -, -⟩ := hgb.two
    cases gk with
    | succ g2 =>
      have hlt : k < n := by omega
      have hlt' : (k : Int) < (n : Int) := by omega
      have hll := pws_len (n := n) (k := k) (by omega)
      obtain ⟨u, hu⟩ : ∃ u, (pws n k)[k]? = some u := ⟨_, List.getElem?_eq_getElem (by omega)⟩
      have f0 := hrow.cellAt k (by omega)
      rw [cellsU_at hu] at f0
      have z0 := hrow.frozenAt k
      have hw := wrap_pow (m := k) (by omega)
      have hst := (hrow.stored k (.int .u64 ((2 ^ k : Nat) : Int))).1
      rw [cellsU_set, pws_set hlt] at hst
      generalize 2 ^ k = z at *
      have HST := Lib.hid hst
      have HG2 := Lib.hid (hgb.far (p := ⟨w.heap.size + 1, k, none⟩) (by simp) (.int .u64 (z : Int)))
      have HB2 := Lib.hid (hB.setCell (p := ⟨w.heap.size + 1, k, none⟩) (by simp) (.int .u64 (z : Int)))
      clear hst hu hrow hB hgb hll
      go_wp2_with fail
      go_roundg g2
      case measure => omega
      case rel => exact ⟨k + 1, by omega, by go_num, HST.out, HG2.out, HB2.out⟩
    | zero =>
      obtain rfl : k = n := by omega
      rw [HP.out] at hrow
      have HR := Lib.hid hrow
      have HGB := Lib.hid hgb
      have HBB := Lib.hid hB
      clear hrow hB hgb
      go_wp2_with fail
      clear p0 p1
      go_loopg [24] l.length (fun g i wr => ∃ j : Nat, j + g = l.length ∧ i = .int .i64 (j : Int) ∧ wr.ownsRow (w.heap.size + 1) 57 1 (.slice (some ⟨w.heap.size + 1, 0, none⟩) k k) k (cellsU (closT l k j)) ∧ Below w.heap.size w wr)
      case atStart => exact ⟨0, by omega, rfl, HR.out, HBB.out⟩
      case round =>
        clear HR HGB HBB
        obtain ⟨j, hjg, rfl, hrow, hB⟩ := hrel
        cases gk with
        | zero =>
          obtain rfl : j = l.length := by omega
          rw [HALL.out] at hrow
          have HR := Lib.hid hrow
          clear hrow
          go_wp2_with fail
          go_ret
          exact ⟨_, _, rfl, own_base HR.out (by omega), hB⟩
        | succ g2 =>
          have hlt : j < l.length := by omega
          have hlt' : (j : Int) < (l.length : Int) := by omega
          obtain ⟨x, hx⟩ : ∃ x, l[j]? = some x := ⟨_, List.getElem?_eq_getElem hlt⟩
          have hm := HG.out.mem (List.mem_of_getElem? hx)
          obtain ⟨g, o, rfl, c0, c1⟩ := HC.out j x hx
          obtain ⟨x1, x2⟩ := x
          simp only at hm c0 c1
          obtain ⟨p, rfl⟩ : ∃ p : Nat, x1 = (p : Int) := ⟨x1.toNat, by omega⟩
          obtain ⟨q, rfl⟩ : ∃ q : Nat, x2 = (q : Int) := ⟨x2.toNat, by omega⟩
          have hp : p < k := by omega
          have hq : q < k := by omega
          have hpq : p < q := by omega
          have hp' : (p : Int) < (k : Int) := by omega
          have hq' : (q : Int) < (k : Int) := by omega
          have hp8 : p ≤ 8 := by omega
          have hq8 : q ≤ 8 := by omega
          have q0 := cell_keep c0 hB
          have q1 := cell_keep c1 hB
          have hsz := hB.size
          have HS := Lib.hid (closT_succ hx hpq hq)
          have hor1 := or_walk (cloB (l.take j) p) q (cloB_lt HG.out j p (by omega)) hq8
          have hor2 := or_walk (cloB (l.take j) q) p (cloB_lt HG.out j q (by omega)) hp8
          have R1 := hrow.alloc (.cells #[.int .i64 (p : Int), .int .i64 (q : Int)] 48)
          have G1 := Blk.new wr 48 #[.int .i64 (p : Int), .int .i64 (q : Int)]
          have B1 : Below w.heap.size w (wr.alloc (.cells #[.int .i64 (p : Int), .int .i64 (q : Int)] 48)) := hB.alloc hsz _
          have hne : wr.heap.size ≠ w.heap.size + 1 := by have := (hrow.lt (w.heap.size + 1) rfl).2; omega
          have hsb : ((closT l k j).set p (cloB (l.take j) p ||| 2 ^ q))[q]? = some (cloB (l.take j) q) := by rw [List.getElem?_set, if_neg (by omega)]; exact closT_at hq
          have hsa : (closT l k j)[p]? = some (cloB (l.take j) p) := closT_at hp
          have HN := Lib.hid hne
          have HSA := Lib.hid hsa
          have HSB := Lib.hid hsb
          clear hx c0 c1 hsb hsa hrow hB hne hm
          generalize cloB (l.take j) p ||| 2 ^ q = y1 at *
          generalize cloB (l.take j) q ||| 2 ^ p = y2 at *
          generalize cloB (l.take j) p = y3 at *
          generalize cloB (l.take j) q = y4 at *
          have HR1 := Lib.hid R1
          have HG1 := Lib.hid G1
          have HB1 := Lib.hid B1
          clear R1 G1 B1
          go_wp2_with fail
          generalize wr.alloc (.cells #[.int .i64 (p : Int), .int .i64 (q : Int)] 48) = W1 at *
          obtain ⟨m0, m1, -, -⟩ := HG1.out.two
          have ca := HR1.out.cellAt p (by omega)
          rw [cellsU_at HSA.out] at ca
          go_still_tail 10, (by kernel_rfl)
          change wpList _ _ _ _ _ W1.drew
          have HR2 := Lib.hid (own_below HR1.out (Below.refl _ _).drew)
          have HG2 := Lib.hid (HG1.out.drewN 1)
          have HB2 : Hid (Below w.heap.size w W1.drew) := HB1.out.drew
          have HG2 : Hid (Blk W1.drew wr.heap.size 48 #[.int .i64 (p : Int), .int .i64 (q : Int)]) := HG1.out.drewN 1
          clear ca m0 m1
          generalize W1.drew = W2 at *
          have ca := HR2.out.cellAt p (by omega)
          rw [cellsU_at HSA.out] at ca
          have za := HR2.out.frozenAt p
          go_wp2_with fail
          have HR3 := Lib.hid (HR2.out.stored p (.int .u64 (y1 : Int))).1
          have HG3 := Lib.hid (HG2.out.far (p := ⟨w.heap.size + 1, p, none⟩) HN.out (.int .u64 (y1 : Int)))
          have HB3 := Lib.hid (HB2.out.setCell (p := ⟨w.heap.size + 1, p, none⟩) (by simp) (.int .u64 (y1 : Int)))
          clear ca za
          generalize W2.setCell ⟨w.heap.size + 1, p, none⟩ (.int .u64 (y1 : Int)) = W3 at *
          obtain ⟨m0, m1, -, -⟩ := HG3.out.two
          have cb := HR3.out.cellAt q (by omega)
          rw [cellsU_set, cellsU_at HSB.out] at cb
          go_still_tail 10, (by kernel_rfl)
          change wpList _ _ _ _ _ W3.drew
          have HR4 := Lib.hid (own_below HR3.out (Below.refl _ _).drew)
          have HB4 : Hid (Below w.heap.size w W3.drew) := HB3.out.drew
          clear cb m0 m1
          generalize W3.drew = W4 at *
          have cb := HR4.out.cellAt q (by omega)
          rw [cellsU_set, cellsU_at HSB.out] at cb
          have zb := HR4.out.frozenAt q
          have HB5 := Lib.hid (HB4.out.setCell (p := ⟨w.heap.size + 1, q, none⟩) (by simp) (.int .u64 (y2 : Int)))
          have hr5 := (HR4.out.stored q (.int .u64 (y2 : Int))).1
          rw [cellsU_set, cellsU_set, HS.out] at hr5
          have HR5 := Lib.hid hr5
          clear hr5
          go_wp2_with fail
          clear cb zb
          go_roundg g2
          case measure => omega
          case rel => exact ⟨j + 1, by omega, by go_num, HR5.out, HB5.out⟩
theorem closedBits_any (n : Nat) (v : Value) (l : List Ed) (w : World) (h : Edges w v l) (hl : l.length ≤ 1048576) (hg : P2.Good n l) (hn : n ≤ 8) :
    Calls Tryd.prog 28 #[.agg #[.int .i64 (n : Int), v]] w fun e w' => ∃ A c, e = .returned (.slice A (clos l n).length c) ∧ Nums w' (.slice A (clos l n).length c) (clos l n) ∧ Below w.heap.size w w' :=
  (closedBits_own n v l w h hl hg hn).mono fun _ _ ⟨A, c, h1, h2, h3⟩ => by
    have h4 := clos_len l n
    have h5 := Reads.of_own h2
    refine ⟨A, c, by rw [h4]; exact h1, ?_, h3⟩
    unfold Nums
    rw [h4]
    exact h5
end Go.Proofs.YthgahkkjdpljjaaDoor.bitsI
