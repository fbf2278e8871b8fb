/- The contract of the program's closedBits. -/
import Derived.Test.YtdhbaegkogklgaaDoorK03
import Derived.Handy
import Derived.Deep.AppendLies
import Derived.Deep.RegionHeld3
import Derived.Deep.DeepCutAuto
import Derived.Test.YtdhbaegkogklgaaDoorK02
import Derived.Laws.EntriesVeiled
namespace Go.Proofs.YtdhbaegkogklgaaDoor.bitsI
open Go.RowKit P2 words edges ints good adjs fns sets rets covs
set_option linter.unusedVariables false

theorem infoU : (Tryd.prog.info? 70).map (fun i => (i.zero, i.size, i.bytes)) = some (some (.int .u64 0), 1, 8) := by kernel_rfl
theorem tneU : (70 : TypeId) ≠ 29 := by decide
theorem tneU2 : (70 : TypeId) ≠ 111 := by decide
/-- the first k powers, then noughts -/
def pws (n k : Nat) : List Nat := (List.range k).map (2 ^ ·) ++ List.replicate (n - k) 0
theorem pws_len {n k : Nat} (h : k ≤ n) : (pws n k).length = n := by simp [pws]; omega
theorem pws_set {n k : Nat} (h : k < n) : (pws n k).set k (2 ^ k) = pws n (k + 1) := by
  unfold pws
  rw [show n - k = (n - (k + 1)) + 1 from by omega, List.replicate_succ, List.set_append_right _ _ (by simp), List.length_map, List.length_range, Nat.sub_self, List.set_cons_zero, List.range_succ, List.map_append, List.append_assoc]
  rfl
/-- the neighborhoods by the first k edges -/
def closT (l : List Ed) (n k : Nat) : List Nat := (List.range n).map (cloB (l.take k))
theorem closT_len (l : List Ed) (n k : Nat) : (closT l n k).length = n := by simp [closT]
theorem closT_at {l : List Ed} {n k j : Nat} (h : j < n) : (closT l n k)[j]? = some (cloB (l.take k) j) := by simp [closT, h]
theorem closT_all (l : List Ed) (n : Nat) : closT l n l.length = clos l n := by simp [closT, clos]
theorem pws_all (l : List Ed) (n : Nat) : pws n n = closT l n 0 := by
  unfold pws closT
  rw [Nat.sub_self, List.replicate_zero, List.append_nil, List.take_zero]
  rfl
theorem closT_succ {l : List Ed} {n k p q : Nat} (h : l[k]? = some ((p : Int), (q : Int))) (hpq : p < q) (hq : q < n) :
    ((closT l n k).set p (cloB (l.take k) p ||| 2 ^ q)).set q (cloB (l.take k) q ||| 2 ^ p) = closT l n (k + 1) := by
  apply List.ext_getElem?
  intro j
  by_cases hj : j < n
  · rw [closT_at hj, cloB_succ h]
    have e : joinB (cloB (List.take k l) j) ((p : Int), (q : Int)) j = if p = j then cloB (l.take k) j ||| 2 ^ q else if q = j then cloB (l.take k) j ||| 2 ^ p else cloB (l.take k) j := by
      unfold joinB
      simp only [Int.ofNat_inj, Int.toNat_natCast]
    rw [e, List.getElem?_set]
    by_cases h2 : q = j
    · subst h2
      rw [if_pos rfl, if_pos (by rw [List.length_set, closT_len]; exact hj), if_neg (by omega), if_pos rfl]
    · rw [if_neg h2, List.getElem?_set]
      by_cases h1 : p = j
      · subst h1
        rw [if_pos rfl, if_pos (by rw [closT_len]; exact hj), if_pos rfl]
      · rw [if_neg h1, if_neg h1, if_neg h2, closT_at hj]
  · rw [List.getElem?_eq_none (by rw [List.length_set, List.length_set, closT_len]; omega), List.getElem?_eq_none (by rw [closT_len]; omega)]

set_option maxHeartbeats 4000000 in
set_option maxRecDepth 100000 in
theorem closedBits_own (n : Nat) (v : Value) (l : List Ed) (w : World) (h : Edges w v l) (hl : l.length ≤ 1048576) (hg : P2.Good n l) (hn : n ≤ 8) :
    Calls Tryd.prog 79 #[.agg #[.int .i64 (n : Int), v]] w fun e w' => ∃ A c, e = .returned (.slice A n c) ∧ w'.ownsRow w.heap.size 70 1 (.slice A n c) n (cellsU (clos l n)) ∧ Below w.heap.size w w' := by
  obtain ⟨A, c, rfl, hc⟩ := h.form
  obtain ⟨i0, hi, hz0, hz1, hz2⟩ := info_parts infoU
  have HC := Lib.hid hc
  have HG := Lib.hid hg
  have HLEN := Lib.hid (clos_len l n)
  have HALL := Lib.hid (closT_all l n)
  have HP := Lib.hid (pws_all l n)
  have hmk := fun (W : World) => run_make_rowN (P := Tryd.prog) 63 70 i0 (.int .u64 0) Tryd.underlying63 hi hz0 .i64 .i64 n n (Nat.le_refl _) (by rw [hz2]; omega) (by omega) W
  have hown := World.ownsRow_lit (base := w.heap.size + 1) (e := 70) (size := 1) (w.alloc (.cells #[.int .i64 (n : Int), .slice A l.length c] 29)) (madeCells #[Value.int .u64 0] (n * 1)) n (by simp) (by unfold maxLen; omega) (size_madeCells _ _)
  rw [toList_madeCells_one, Nat.mul_one, show List.replicate n (Value.int .u64 0) = cellsU (pws n 0) from by simp [pws, cellsU], World.size_alloc] at hown
  have HOWN := Lib.hid hown
  have b0 : Below w.heap.size w ((w.alloc (.cells #[.int .i64 (n : Int), .slice A l.length c] 29)).alloc (.cells (madeCells #[Value.int .u64 0] n) 70)) := ((Below.refl _ _).alloc (Nat.le_refl _) _).alloc (by simp) _
  have g0 := (Blk.new w 29 #[.int .i64 (n : Int), .slice A l.length c]).alloc (.cells (madeCells #[Value.int .u64 0] n) 70)
  clear h hc hg hown
  go_enter Tryd.func79, Tryd.ntmps79
  obtain ⟨p0, p1, -, -⟩ := (Blk.new w 29 #[.int .i64 (n : Int), .slice A l.length c]).two
  go_wp2_with fail
  clear p0 p1
  go_loopg [12] n (fun g i wr => ∃ k : Nat, k + g = n ∧ i = .int .i64 (k : Int) ∧ wr.ownsRow (w.heap.size + 1) 70 1 (.slice (some ⟨w.heap.size + 1, 0, none⟩) n n) n (cellsU (pws n k)) ∧ Blk wr w.heap.size 29 #[.int .i64 (n : Int), .slice A l.length c] ∧ Below w.heap.size w wr)
  case atStart => exact ⟨0, by omega, rfl, HOWN.out, g0, b0⟩
  case round =>
    obtain ⟨k, hkg, rfl, hrow, hgb, hB⟩ := hrel
    obtain ⟨p0, p1, -, -⟩ := hgb.two
    cases gk with
    | succ g2 =>
      have hlt : k < n := by omega
      have hlt' : (k : Int) < (n : Int) := by omega
      have hll := pws_len (n := n) (k := k) (by omega)
      obtain ⟨u, hu⟩ : ∃ u, (pws n k)[k]? = some u := ⟨_, List.getElem?_eq_getElem (by omega)⟩
      have f0 := hrow.cellAt k (by omega)
      rw [cellsU_at hu] at f0
      have z0 := hrow.frozenAt k
      have hw := wrap_pow (m := k) (by omega)
      have hst := (hrow.stored k (.int .u64 ((2 ^ k : Nat) : Int))).1
      rw [cellsU_set, pws_set hlt] at hst
      generalize 2 ^ k = z at *
      have HST := Lib.hid hst
      have HG2 := Lib.hid (hgb.far (p := ⟨w.heap.size + 1, k, none⟩) (by simp) (.int .u64 (z : Int)))
      have HB2 := Lib.hid (hB.setCell (p := ⟨w.heap.size + 1, k, none⟩) (by simp) (.int .u64 (z : Int)))
      clear hst hu hrow hB hgb hll
      go_wp2_with fail
      go_roundg g2
      case measure => omega
      case rel => exact ⟨k + 1, by omega, by go_num, HST.out, HG2.out, HB2.out⟩
    | zero =>
      obtain rfl : k = n := by omega
      rw [HP.out] at hrow
      have HR := Lib.hid hrow
      have HGB := Lib.hid hgb
      have HBB := Lib.hid hB
      clear hrow hB hgb
      go_wp2_with fail
      clear p0 p1
      go_loopg [24] l.length (fun g i wr => ∃ j : Nat, j + g = l.length ∧ i = .int .i64 (j : Int) ∧ wr.ownsRow (w.heap.size + 1) 70 1 (.slice (some ⟨w.heap.size + 1, 0, none⟩) k k) k (cellsU (closT l k j)) ∧ Below w.heap.size w wr)
      case atStart => exact ⟨0, by omega, rfl, HR.out, HBB.out⟩
      case round =>
        clear HR HGB HBB
        obtain ⟨j, hjg, rfl, hrow, hB⟩ := hrel
        cases gk with
        | zero =>
          obtain rfl : j = l.length := by omega
          rw [HALL.out] at hrow
          have HR := Lib.hid hrow
          clear hrow
          go_wp2_with fail
          go_ret
          exact ⟨_, _, rfl, own_base HR.out (by omega), hB⟩
        | succ g2 =>
          have hlt : j < l.length := by omega
          have hlt' : (j : Int) < (l.length : Int) := by omega
          obtain ⟨x, hx⟩ : ∃ x, l[j]? = some x := ⟨_, List.getElem?_eq_getElem hlt⟩
          have hm := HG.out.mem (List.mem_of_getElem? hx)
          obtain ⟨g, o, rfl, c0, c1⟩ := HC.out j x hx
          obtain ⟨x1, x2⟩ := x
          simp only at hm c0 c1
          obtain ⟨p, rfl⟩ : ∃ p : Nat, x1 = (p : Int) := ⟨x1.toNat, by omega⟩
          obtain ⟨q, rfl⟩ : ∃ q : Nat, x2 = (q : Int) := ⟨x2.toNat, by omega⟩
          have hp : p < k := by omega
          have hq : q < k := by omega
          have hpq : p < q := by omega
          have hp' : (p : Int) < (k : Int) := by omega
          have hq' : (q : Int) < (k : Int) := by omega
          have hp8 : p ≤ 8 := by omega
          have hq8 : q ≤ 8 := by omega
          have q0 := cell_keep c0 hB
          have q1 := cell_keep c1 hB
          have hsz := hB.size
          have HS := Lib.hid (closT_succ hx hpq hq)
          have hor1 := or_walk (cloB (l.take j) p) q (cloB_lt HG.out j p (by omega)) hq8
          have hor2 := or_walk (cloB (l.take j) q) p (cloB_lt HG.out j q (by omega)) hp8
          have R1 := hrow.alloc (.cells #[.int .i64 (p : Int), .int .i64 (q : Int)] 111)
          have G1 := Blk.new wr 111 #[.int .i64 (p : Int), .int .i64 (q : Int)]
          have B1 : Below w.heap.size w (wr.alloc (.cells #[.int .i64 (p : Int), .int .i64 (q : Int)] 111)) := hB.alloc hsz _
          have hne : wr.heap.size ≠ w.heap.size + 1 := by have := (hrow.lt (w.heap.size + 1) rfl).2; omega
          have hsb : ((closT l k j).set p (cloB (l.take j) p ||| 2 ^ q))[q]? = some (cloB (l.take j) q) := by rw [List.getElem?_set, if_neg (by omega)]; exact closT_at hq
          have hsa : (closT l k j)[p]? = some (cloB (l.take j) p) := closT_at hp
          have HN := Lib.hid hne
          have HSA := Lib.hid hsa
          have HSB := Lib.hid hsb
          clear hx c0 c1 hsb hsa hrow hB hne hm
          generalize cloB (l.take j) p ||| 2 ^ q = y1 at *
          generalize cloB (l.take j) q ||| 2 ^ p = y2 at *
          generalize cloB (l.take j) p = y3 at *
          generalize cloB (l.take j) q = y4 at *
          have HR1 := Lib.hid R1
          have HG1 := Lib.hid G1
          have HB1 := Lib.hid B1
          clear R1 G1 B1
          go_wp2_with fail
          generalize wr.alloc (.cells #[.int .i64 (p : Int), .int .i64 (q : Int)] 111) = W1 at *
          obtain ⟨m0, m1, -, -⟩ := HG1.out.two
          have ca := HR1.out.cellAt p (by omega)
          rw [cellsU_at HSA.out] at ca
          go_still_tail 10, (by kernel_rfl)
          change wpList _ _ _ _ _ W1.drew
          have HR2 := Lib.hid (own_below HR1.out (Below.refl _ _).drew)
          have HG2 := Lib.hid (HG1.out.drewN 1)
          have HB2 : Hid (Below w.heap.size w W1.drew) := HB1.out.drew
          have HG2 : Hid (Blk W1.drew wr.heap.size 111 #[.int .i64 (p : Int), .int .i64 (q : Int)]) := HG1.out.drewN 1
          clear ca m0 m1
          generalize W1.drew = W2 at *
          have ca := HR2.out.cellAt p (by omega)
          rw [cellsU_at HSA.out] at ca
          have za := HR2.out.frozenAt p
          go_wp2_with fail
          have HR3 := Lib.hid (HR2.out.stored p (.int .u64 (y1 : Int))).1
          have HG3 := Lib.hid (HG2.out.far (p := ⟨w.heap.size + 1, p, none⟩) HN.out (.int .u64 (y1 : Int)))
          have HB3 := Lib.hid (HB2.out.setCell (p := ⟨w.heap.size + 1, p, none⟩) (by simp) (.int .u64 (y1 : Int)))
          clear ca za
          generalize W2.setCell ⟨w.heap.size + 1, p, none⟩ (.int .u64 (y1 : Int)) = W3 at *
          obtain ⟨m0, m1, -, -⟩ := HG3.out.two
          have cb := HR3.out.cellAt q (by omega)
          rw [cellsU_set, cellsU_at HSB.out] at cb
          go_still_tail 10, (by kernel_rfl)
          change wpList _ _ _ _ _ W3.drew
          have HR4 := Lib.hid (own_below HR3.out (Below.refl _ _).drew)
          have HB4 : Hid (Below w.heap.size w W3.drew) := HB3.out.drew
          clear cb m0 m1
          generalize W3.drew = W4 at *
          have cb := HR4.out.cellAt q (by omega)
          rw [cellsU_set, cellsU_at HSB.out] at cb
          have zb := HR4.out.frozenAt q
          have HB5 := Lib.hid (HB4.out.setCell (p := ⟨w.heap.size + 1, q, none⟩) (by simp) (.int .u64 (y2 : Int)))
          have hr5 := (HR4.out.stored q (.int .u64 (y2 : Int))).1
          rw [cellsU_set, cellsU_set, HS.out] at hr5
          have HR5 := Lib.hid hr5
          clear hr5
          go_wp2_with fail
          clear cb zb
          go_roundg g2
          case measure => omega
          case rel => exact ⟨j + 1, by omega, by go_num, HR5.out, HB5.out⟩
theorem closedBits_any (n : Nat) (v : Value) (l : List Ed) (w : World) (h : Edges w v l) (hl : l.length ≤ 1048576) (hg : P2.Good n l) (hn : n ≤ 8) :
    Calls Tryd.prog 79 #[.agg #[.int .i64 (n : Int), v]] w fun e w' => ∃ A c, e = .returned (.slice A (clos l n).length c) ∧ Nums w' (.slice A (clos l n).length c) (clos l n) ∧ Below w.heap.size w w' :=
  (closedBits_own n v l w h hl hg hn).mono fun _ _ ⟨A, c, h1, h2, h3⟩ => by
    have h4 := clos_len l n
    have h5 := Reads.of_own h2
    refine ⟨A, c, by rw [h4]; exact h1, ?_, h3⟩
    unfold Nums
    rw [h4]
    exact h5
end Go.Proofs.YtdhbaegkogklgaaDoor.bitsI

/- The contracts of bits.Len below 256 and of the program's setsUpTo. -/
namespace Go.Proofs.YtdhbaegkogklgaaDoor.ups
open Go.RowKit P2 words edges ints good adjs fns sets rets covs bitsI
set_option linter.unusedVariables false

theorem len_is (D : ByteArray) (hD : (List.range 256).all (fun c => (D.data.getD c 0).toNat == lenN c) = true) (c : Nat) (hc : c < 256) (h : c < D.size) : wrap64 (wrap64 ((D[c]'h).toNat : Int)) = (lenN c : Int) := by
  have h1 := beq_iff_eq.1 (List.all_eq_true.1 hD c (List.mem_range.2 hc))
  have h2 : D.data.getD c 0 = D[c]'h := by
    show D.data.getD c 0 = D.data[c]'h
    have h' : c < D.data.size := h
    unfold Array.getD
    rw [dif_pos h']
    rfl
  rw [h2] at h1
  have h3 := len_le ⟨c, hc⟩
  simp only at h3
  have e : wrap64 (lenN c : Int) = (lenN c : Int) := Go.IntWalk.wrap64_in _ (by omega)
  rw [h1, e, e]
set_option maxHeartbeats 1000000 in
set_option maxRecDepth 100000 in
theorem len64_any (c : Nat) (w : World) (hc : c < 256) :
    Calls Tryd.prog 149 #[.int .u64 (c : Int)] w fun e w' => e = .returned (.int .i64 (lenN c : Int)) ∧ w = w' := by
  have h1 : ¬ (4294967296 : Int) ≤ (c : Int) := by omega
  have h2 : ¬ (65536 : Int) ≤ (c : Int) := by omega
  have h3 : ¬ (256 : Int) ≤ (c : Int) := by omega
  go_enter Tryd.func149, Tryd.ntmps149
  go_wp2_with fail
  go_ret
  exact ⟨ret_int (len_is _ (by kernel_rfl) c hc _), rfl⟩
theorem len_any (c : Nat) (w : World) (hc : c < 256) :
    Calls Tryd.prog 139 #[.int .u64 (c : Int)] w fun e w' => e = .returned (.int .i64 (lenN c : Int)) ∧ w = w' := by
  have HO := Lib.hid (len64_any c w hc)
  go_enter Tryd.func139, Tryd.ntmps139
  go_wp2_with fail
  refine HO.out.mono ?_
  rintro e w' ⟨rfl, rfl⟩
  go_wp2_with fail
  go_ret
  exact ⟨rfl, rfl⟩
/-- behind an append of one word -/
theorem pushU {w1 w2 : World} {B : Nat} {s v2 : Value} {m : List Nat} {x : Nat} {o : Obj} (hrow : w1.ownsRow B 70 1 s m.length (cellsU m)) (hown : w2.ownsRow B 70 1 v2 (m.length + 1) (cellsU m ++ [.int .u64 (x : Int)]))
    (hg : (w1.alloc o).drew.grownBy w2 s.ownBlock) (hB : B ≤ w1.heap.size) : w2.ownsRow B 70 1 v2 (m ++ [x]).length (cellsU (m ++ [x])) ∧ Below B w1 w2 :=
  ⟨by rw [show cellsU (m ++ [x]) = cellsU m ++ [.int .u64 (x : Int)] from by simp [cellsU], List.length_append]; exact hown, ((Below.refl B w1).alloc hB _).drew.grown hg (by simp; omega) (fun j e => (hrow.lt j e).1)⟩
theorem bfs_mem {n m f i c : Nat} {L F : List Nat} (h : L[i]? = some c) (he : L.take i ++ bfsN n m (f + 1) (L.drop i) = F) : c ∈ F := by
  obtain ⟨h1, h2⟩ := List.getElem?_eq_some_iff.1 h
  rw [List.drop_eq_getElem_cons h1, h2] at he
  unfold bfsN at he
  rw [← he]
  split <;> simp
theorem len_le_n : ∀ n : Fin 9, ∀ c : Fin 256, c.1 < 2 ^ n.1 → lenN c.1 ≤ n.1 := by decide +kernel
theorem keep_alU {w : World} {p : Addr} {v : Value} {o : Obj} (h : w.cell? p = some v) : (w.alloc o).cell? p = some v :=
  ((Below.refl w.heap.size w).alloc (Nat.le_refl _) o |>.cell (p := p) (World.block_lt_of_cell? w p h)).trans h
set_option maxHeartbeats 4000000 in
set_option maxRecDepth 100000 in
theorem setsUpTo_own (n m : Nat) (w : World) (hn : n ≤ 8) (hm : m ≤ 8) :
    Calls Tryd.prog 115 #[.int .i64 (n : Int), .int .i64 (m : Int)] w fun e w' => ∃ A c, e = .returned (.slice A (setsN n m).length c) ∧ w'.ownsRow w.heap.size 70 1 (.slice A (setsN n m).length c) (setsN n m).length (cellsU (setsN n m)) ∧ Below w.heap.size w w' := by
  obtain ⟨i0, hi, hz0, hz1, hz2⟩ := info_parts infoU
  have HCT := Lib.hid (fun (c : Nat) (W : World) (h : c < 256) => count_any c W h)
  have HLN := Lib.hid (fun (c : Nat) (W : World) (h : c < 256) => len_any c W h)
  have o0 := World.ownsRow_lit (base := w.heap.size) (e := 70) (size := 1) w #[.int .u64 0] 1 (Nat.le_refl _) (by unfold maxLen; omega) rfl
  have HO0 : Hid ((w.alloc (.cells #[.int .u64 0] 70)).ownsRow w.heap.size 70 1 (.slice (some ⟨w.heap.size, 0, none⟩) 1 1) [0].length (cellsU [0])) := o0
  have HB0 : Hid (Below w.heap.size w (w.alloc (.cells #[.int .u64 0] 70))) := (Below.refl _ _).alloc (Nat.le_refl _) _
  have hsl := sets_len hn hm
  have HF := Lib.hid (show ([0] : List Nat).take 0 ++ bfsN n m 300 (([0] : List Nat).drop 0) = setsN n m from rfl)
  have HMS := Lib.hid (fun c => (mem_sets (c := c) hn hm))
  clear o0
  go_enter Tryd.func115, Tryd.ntmps115
  go_wp2_with fail
  go_loopg [5, 6] 300 (fun g sv iv wr => ∃ (i : Nat) (L : List Nat) (ow : Value), ow = sv ∧ i + g = 300 ∧ iv = .int .i64 (i : Int) ∧ Hid (L.take i ++ bfsN n m g (L.drop i) = setsN n m) ∧ wr.ownsRow w.heap.size 70 1 ow L.length (cellsU L) ∧ Below w.heap.size w wr)
  case atStart => exact ⟨0, [0], _, rfl, rfl, rfl, HF, HO0.out, HB0.out⟩
  case round =>
    clear HF HO0 HB0
    obtain ⟨i, L, ow, rfl, hig, rfl, hf, hrow, hB⟩ := hrel
    obtain ⟨A4, c4, rfl⟩ := own_form hrow
    have hLl := bfs_len hf.out
    by_cases hlt : i < L.length
    · have hlt' : (i : Int) < (L.length : Int) := by omega
      cases gk with
      | zero => omega
      | succ g2 =>
        obtain ⟨c, hc⟩ : ∃ c, L[i]? = some c := ⟨_, List.getElem?_eq_getElem hlt⟩
        have hcm := (HMS.out c).1 (bfs_mem hc hf.out)
        have hc256 : c < 256 := Nat.lt_of_lt_of_le hcm.1 (pow_le hn)
        obtain ⟨_, _, hf4, hcc⟩ := (show Nums wr (.slice A4 L.length c4) L from Reads.of_own hrow).form
        cases hf4
        obtain ⟨g5, o5, rfl, c0⟩ := hcc i c hc
        clear hcc
        by_cases ho : onesN c < m
        · have ho' : (onesN c : Int) < (m : Int) := by omega
          have HFS := Lib.hid (bfs_step hc ho hf.out)
          have hln := len_le_n ⟨n, by omega⟩ ⟨c, hc256⟩ hcm.1
          simp only at hln
          have HX0 : Hid (wr.ownsRow w.heap.size 70 1 (.slice (some ⟨g5, o5, none⟩) L.length c4) (L ++ growT c (lenN c)).length (cellsU (L ++ growT c (lenN c)))) := by
            show World.ownsRow _ _ _ _ _ _ _
            rw [growT_zero c (Nat.le_refl _), List.append_nil]
            exact hrow
          have HB := Lib.hid hB
          have HC := Lib.hid hc
          have HLn := Lib.hid hLl
          clear hrow hB hcm hc
          go_wp2_with fail
          refine (HCT.out c _ hc256).mono ?_
          rintro e w' ⟨rfl, rfl⟩
          go_wp2_with fail
          refine (HLN.out c _ hc256).mono ?_
          rintro e w' ⟨rfl, rfl⟩
          clear c0
          go_wp2_with fail
          obtain ⟨wo, hwo⟩ : ∃ wo, wo = wr := ⟨_, rfl⟩
          subst hwo
          go_loopg [5, 7] (n - lenN c) (fun g sv xv wr => ∃ (x : Nat) (ow : Value), ow = sv ∧ x + g = n ∧ Hid (lenN c ≤ x) ∧ xv = .int .i64 (x : Int) ∧ wr.ownsRow w.heap.size 70 1 ow (L ++ growT c x).length (cellsU (L ++ growT c x)) ∧ Below w.heap.size w wr)
          case atStart => exact ⟨lenN c, _, rfl, by omega, Nat.le_refl _, rfl, HX0.out, HB.out⟩
          case round =>
            clear HX0 HB
            obtain ⟨x, ow, rfl, hxg, hxl, rfl, hrow, hB⟩ := hrel
            obtain ⟨A6, c6, rfl⟩ := own_form hrow
            cases gk with
            | zero =>
              obtain rfl : x = n := by omega
              have HR := Lib.hid hrow
              have HB := Lib.hid hB
              clear hrow hB
              go_wp2_with fail
              go_roundg g2
              case measure => omega
              case rel => exact ⟨i + 1, _, _, rfl, by omega, by go_num, HFS, HR.out, HB.out⟩
            | succ g3 =>
              have hxn : x < n := by omega
              have hxn' : (x : Int) < (n : Int) := by omega
              have hgl := growT_len c x
              have hLg : (L ++ growT c x).length ≤ 264 := by rw [List.length_append]; have := HLn.out; omega
              have hi2 : i < (L ++ growT c x).length := by rw [List.length_append]; omega
              have hi2' : (i : Int) < ((L ++ growT c x).length : Int) := by omega
              obtain ⟨_, _, hf4, hcc⟩ := (show Nums wr (.slice A6 (L ++ growT c x).length c6) (L ++ growT c x) from Reads.of_own hrow).form
              cases hf4
              obtain ⟨g7, o7, rfl, c0⟩ := hcc i c (by rw [List.getElem?_append_left (by omega)]; exact HC.out)
              have hor := or_walk c x hc256 (by omega)
              have HGS : Hid (L ++ growT c (x + 1) = (L ++ growT c x) ++ [c ||| 2 ^ x]) := by show _ = _; rw [growT_succ hxl.out, List.append_assoc]
              have HB := Lib.hid hB
              have HR := Lib.hid hrow
              have hsz := hB.size
              clear hcc hgl hB hrow
              generalize L ++ growT c x = M at *
              generalize c ||| 2 ^ x = z at *
              go_wp2_with fail
              refine wp_region_held_drew (S := (fun w' : World => w'.heap.size = 0 ∨ True)) (by kernel_rfl) (by (try dsimp only); simp [*]) (fun hHeld => ?_)
              change wpAnyH _ _ _ _ _ _ #[false, false, false, false, false, false, false, false, false, false, false] _ _
              refine wpAnyH_take (i := 0) (oi := ⟨some 34, _, _, _, _, _⟩) (v := ?_) rfl (by kernel_rfl) (by kernel_rfl) (by kernel_rfl) (fun _ _ _ h => h) (Or.inl ⟨by rfl, ?_⟩) (by assumption) ?_
              rotate_left
              · (intro w hSw; (try dsimp only at hSw); go_simp; (try (with_reducible rfl)))
              try simp only [Act.put, List.setIfInBounds_toArray, List.set_cons_zero, List.set_cons_succ]
              refine wpAnyH_take (i := 1) (oi := ⟨some 35, _, _, _, _, _⟩) (v := ?_) rfl (by kernel_rfl) (by kernel_rfl) (by kernel_rfl) (fun _ _ _ h => h) (Or.inl ⟨by rfl, ?_⟩) (by assumption) ?_
              rotate_left
              · (intro w hSw; (try dsimp only at hSw); go_simp; (try (with_reducible rfl)))
              try simp only [Act.put, List.setIfInBounds_toArray, List.set_cons_zero, List.set_cons_succ]
              refine wpAnyH_take (i := 2) (oi := ⟨some 36, _, _, _, _, _⟩) (v := ?_) rfl (by kernel_rfl) (by kernel_rfl) (by kernel_rfl) (fun _ _ _ h => h) (Or.inl ⟨by rfl, ?_⟩) (by assumption) ?_
              rotate_left
              · (intro w hSw; (try dsimp only at hSw); go_simp; (try (with_reducible rfl)))
              try simp only [Act.put, List.setIfInBounds_toArray, List.set_cons_zero, List.set_cons_succ]
              refine wpAnyH_take (i := 3) (oi := ⟨some 37, _, _, _, _, _⟩) (v := ?_) rfl (by kernel_rfl) (by kernel_rfl) (by kernel_rfl) (fun _ _ _ h => h) (Or.inl ⟨by rfl, ?_⟩) (by assumption) ?_
              rotate_left
              · (intro w hSw; (try dsimp only at hSw); go_simp; (try (with_reducible rfl)))
              try simp only [Act.put, List.setIfInBounds_toArray, List.set_cons_zero, List.set_cons_succ]
              refine wpAnyH_take (i := 5) (oi := ⟨some 39, _, _, _, _, _⟩) (v := ?_) rfl (by kernel_rfl) (by kernel_rfl) (by kernel_rfl) (fun _ _ _ h => h) (Or.inl ⟨by rfl, ?_⟩) (by assumption) ?_
              rotate_left
              · (intro w hSw; (try dsimp only at hSw); go_simp; (try (with_reducible rfl)))
              try simp only [Act.put, List.setIfInBounds_toArray, List.set_cons_zero, List.set_cons_succ]
              refine wpAnyH_take (i := 6) (oi := ⟨some 40, _, _, _, _, _⟩) (v := ?_) rfl (by kernel_rfl) (by kernel_rfl) (by kernel_rfl) (fun _ _ _ h => h) (Or.inl ⟨by rfl, ?_⟩) (by assumption) ?_
              rotate_left
              · (intro w hSw; (try dsimp only at hSw); go_simp; (try (with_reducible rfl)))
              try simp only [Act.put, List.setIfInBounds_toArray, List.set_cons_zero, List.set_cons_succ]
              refine wpAnyH_ready (rs := [4]) (by kernel_rfl) (by simp) ?_
              refine AllReadyH.cons rfl (fun K hK => ?_) AllReadyH.nil
              go_simp
              refine hK.out _ _ (Or.inr trivial) (fun hHeld => ?_)
              clear hK K
              try simp only [List.setIfInBounds_toArray, List.set_cons_zero, List.set_cons_succ]
              refine wpAnyH_take (i := 7) (oi := ⟨some 41, _, _, _, _, _⟩) (v := ?_) rfl (by kernel_rfl) (by kernel_rfl) (by kernel_rfl) (fun _ _ _ h => h) (Or.inl ⟨by rfl, ?_⟩) (by assumption) ?_
              rotate_left
              · (intro w hSw; (try dsimp only at hSw); go_simp; (try (with_reducible rfl)))
              try simp only [Act.put, List.setIfInBounds_toArray, List.set_cons_zero, List.set_cons_succ]
              refine wpAnyH_ready (rs := [8]) (by kernel_rfl) (by simp) ?_
              refine AllReadyH.cons rfl (fun K hK => ?_) AllReadyH.nil
              go_simp
              refine hK.out _ _ (Or.inr trivial) (fun hHeld => ?_)
              clear hK K
              try simp only [List.setIfInBounds_toArray, List.set_cons_zero, List.set_cons_succ]
              refine wpAnyH_ready (rs := [9]) (by kernel_rfl) (by simp) ?_
              refine AllReadyH.cons rfl (fun K hK => ?_) AllReadyH.nil
              (refine step_append_lies _ rfl (.tmp 34) (.tmp 42) 63 rfl w.heap.size 70 i0 (.int .u64 0) 1 8 Tryd.underlying63 hi hz0 hz1 hz2 rfl (by decide) (.slice (some ⟨g7, o7, none⟩) M.length c6) M.length (cellsU M) rfl (HR.out.alloc _) ⟨wr.heap.size, 0, none⟩ 1 1 [.int .u64 (z : Int)] rfl rfl (cell_one_new _ _ _) (fun x hx => by simp at hx; subst hx; rfl) (by decide) (by unfold maxLen; omega) (by omega) (by simp; omega) (wr.heap.size + 1) (by simp) ?_; intro g8 cap8 w8 hown8 hgrow8 lies8 lt8)
              refine hK.out _ _ (Or.inr trivial) (fun hHeld => ?_)
              clear hK K
              try simp only [Act.put, List.setIfInBounds_toArray, List.set_cons_zero, List.set_cons_succ]
              refine wpAnyH_take (i := 10) (oi := ⟨some 5, _, _, _, _, _⟩) (v := ?_) rfl (by kernel_rfl) (by kernel_rfl) (by kernel_rfl) (fun _ _ _ h => h) (Or.inl ⟨by rfl, ?_⟩) (by assumption) ?_
              rotate_left
              · (intro w hSw; (try dsimp only at hSw); go_simp; (try (with_reducible rfl)))
              try simp only [Act.put, List.setIfInBounds_toArray, List.set_cons_zero, List.set_cons_succ]
              refine wpAnyH_done (by kernel_rfl) ?_ _
              obtain ⟨hown9, hB9⟩ := pushU HR.out hown8 hgrow8 hsz
              rw [← HGS.out] at hown9
              have HO9 := Lib.hid hown9
              have HB9 := Lib.hid (HB.out.trans hB9)
              clear hown9 hB9 hown8 hgrow8 lies8 lt8 hHeld c0
              go_wp2_with fail
              go_roundg g3
              case measure => omega
              case rel => exact ⟨x + 1, _, rfl, by omega, Nat.le_succ_of_le hxl.out, by go_num, HO9.out, HB9.out⟩
        · have ho' : ¬ (onesN c : Int) < (m : Int) := by omega
          have HE := Lib.hid (bfs_full hc ho hf.out)
          have HR := Lib.hid hrow
          have HB := Lib.hid hB
          clear hrow hB hcm hc
          go_wp2_with fail
          refine (HCT.out c _ hc256).mono ?_
          rintro e w' ⟨rfl, rfl⟩
          go_wp2_with fail
          go_ret
          rw [← HE.out]
          exact ⟨_, _, rfl, HR.out, HB.out⟩
    · have hlt' : ¬ (i : Int) < (L.length : Int) := by omega
      have HE := Lib.hid (bfs_end (by omega) hf.out)
      have HR := Lib.hid hrow
      have HB := Lib.hid hB
      clear hrow hB
      go_wp2_with fail
      go_ret
      rw [← HE.out]
      exact ⟨_, _, rfl, HR.out, HB.out⟩
end Go.Proofs.YtdhbaegkogklgaaDoor.ups

/- The contracts of slices.IndexFunc and slices.ContainsFunc over integers and over pairs, for a function value that tests. -/
namespace Go.Proofs.YtdhbaegkogklgaaDoor.func
open Go.RowKit P2 words edges ints fns
set_option linter.unusedVariables false

/-- a function value that answers for the elements of a list, in every world that goes on from w -/
structure FnI (w : World) (f : FuncId) (caps : Array Value) (xs : List Int) (p : Int → Bool) : Prop where
  enter : ∀ (args : Array Value) (W : World), (callFunc f args).run Tryd.prog W = .ok (.enter f args) W
  call : ∀ W, Below w.heap.size w W → ∀ x ∈ xs, Calls Tryd.prog f (#[.int .i64 x] ++ caps) W fun e W' => e = .returned (.bool (p x)) ∧ Below W.heap.size W W'
structure FnP (w : World) (f : FuncId) (caps : Array Value) (xs : List Ed) (p : Ed → Bool) : Prop where
  enter : ∀ (args : Array Value) (W : World), (callFunc f args).run Tryd.prog W = .ok (.enter f args) W
  call : ∀ W, Below w.heap.size w W → ∀ x ∈ xs, Calls Tryd.prog f (#[.agg #[.int .i64 x.1, .int .i64 x.2]] ++ caps) W fun e W' => e = .returned (.bool (p x)) ∧ Below W.heap.size W W'

/-- the place of the first element for which p holds, or -1 -/
def idxF {α : Type} (p : α → Bool) (xs : List α) : Int := match xs.findIdx? p with | some k => (k : Int) | none => -1
theorem idxF_at {α : Type} {p : α → Bool} {xs : List α} {k : Nat} {y : α} (hno : ∀ j z, j < k → xs[j]? = some z → p z = false) (hy : xs[k]? = some y) (hp : p y = true) : idxF p xs = (k : Int) := by
  unfold idxF
  have hk := (List.getElem?_eq_some_iff.1 hy)
  rw [List.findIdx?_eq_some_iff_getElem.2 ⟨hk.1, by rw [hk.2]; exact hp, fun j hj => by have := hno j _ hj (List.getElem?_eq_getElem (Nat.lt_trans hj hk.1)); simp [this]⟩]
theorem idxF_none {α : Type} {p : α → Bool} {xs : List α} (hno : ∀ j z, j < xs.length → xs[j]? = some z → p z = false) : idxF p xs = -1 := by
  unfold idxF
  rw [List.findIdx?_eq_none_iff.2 (fun x hx => by
    obtain ⟨j, hj⟩ := List.getElem?_of_mem hx
    exact hno j x (List.getElem?_eq_some_iff.1 hj).1 hj)]
theorem idxF_any {α : Type} (p : α → Bool) (xs : List α) : decide (0 ≤ idxF p xs) = xs.any p := by
  unfold idxF
  cases h : xs.findIdx? p with
  | none =>
    have := List.findIdx?_eq_none_iff.1 h
    rw [List.any_eq_false.2 (fun x hx => by simp [this x hx])]
    rfl
  | some k =>
    obtain ⟨hk, hp, _⟩ := List.findIdx?_eq_some_iff_getElem.1 h
    rw [List.any_eq_true.2 ⟨_, List.getElem_mem hk, hp⟩]
    simp
theorem no_succ {α : Type} {p : α → Bool} {xs : List α} {k : Nat} {y : α} (h : ∀ j z, j < k → xs[j]? = some z → p z = false) (hy : xs[k]? = some y) (hp : p y = false) : ∀ j z, j < k + 1 → xs[j]? = some z → p z = false := fun j z hj hz => by
  by_cases e : j = k
  · subst e; rw [hy] at hz; cases hz; exact hp
  · exact h j z (by omega) hz

end Go.Proofs.YtdhbaegkogklgaaDoor.func

/- The best set for which a test holds, and slices.IndexFunc over sets as bits. -/
namespace Go.Proofs.YtdhbaegkogklgaaDoor.ups
open Go.RowKit P2 words edges ints good adjs fns sets rets covs bitsI func
set_option linter.unusedVariables false

/-- the best one of all sets for which a test holds -/
noncomputable def bestC (P : Nat → Bool) (R : Nat → Nat) (n : Nat) : Nat := Classical.epsilon fun b => MaxC P R n (2 ^ n) b
theorem maxC_same {P : Nat → Bool} {R : Nat → Nat} {n b d : Nat} (hn : n ≤ 8) (hR : ∀ {a b}, a < 256 → b < 256 → R a = R b → a = b) (hb : MaxC P R n (2 ^ n) b) (hd : MaxC P R n (2 ^ n) d) : b = d := by
  have hp := pow_le hn
  have h1 := hb.2.2 d hd.1 hd.2.1
  have h2 := hd.2.2 b hb.1 hb.2.1
  exact hR (by have := hb.1; omega) (by have := hd.1; omega) (by omega)
theorem bestC_is {P : Nat → Bool} {R : Nat → Nat} {n b : Nat} (hn : n ≤ 8) (hR : ∀ {a b}, a < 256 → b < 256 → R a = R b → a = b) (hb : MaxC P R n (2 ^ n) b) : bestC P R n = b :=
  maxC_same hn hR (Classical.epsilon_spec (p := fun b => MaxC P R n (2 ^ n) b) ⟨b, hb⟩) hb
theorem ones_topN {n c : Nat} (hn : n ≤ 8) (hc : c < 2 ^ n) : onesN c ≤ n := by
  have := nd_len c
  rw [← nd_bits hn hc] at this
  rw [← this]; exact nw_len _ _
theorem mem_all {n c : Nat} (hn : n ≤ 8) : c ∈ setsN n n ↔ c < 2 ^ n := by
  rw [mem_sets hn hn]
  exact ⟨fun h => h.1, fun h => ⟨h, ones_topN hn h⟩⟩
theorem max_C {P : Nat → Bool} {n b : Nat} (hn : n ≤ 8) (h : MaxTo P (setsN n n) (setsN n n).length b) : MaxC P rkMax n (2 ^ n) b := by
  refine ⟨?_, h.2.1, fun c hc hpc => h.2.2 c (by rw [List.take_length]; exact (mem_all hn).2 hc) hpc⟩
  rcases h.1 with e | m
  · subst e; exact Nat.pow_pos (by decide)
  · exact (mem_all hn).1 (List.mem_of_mem_take m)
theorem min_C {P : Nat → Bool} {n i b : Nat} (hn : n ≤ 8) (hi : (setsN n n)[i]? = some b) (hp : P b = true) (hf : ∀ j c, j < i → (setsN n n)[j]? = some c → P c = false) : MaxC P rkMin n (2 ^ n) b := by
  refine ⟨(mem_all hn).1 (List.mem_of_getElem? hi), hp, fun c hc hpc => ?_⟩
  obtain ⟨j, hj⟩ := List.getElem?_of_mem ((mem_all hn).2 hc)
  by_cases e : j < i
  · have := hf j c e hj
    rw [hpc] at this; cases this
  · by_cases e2 : i = j
    · subst e2; rw [hi] at hj; cases hj; exact Nat.le_refl _
    · exact Nat.le_of_lt (sets_down hn hn (show i < j by omega) hi hj)
theorem idxF_some {α : Type} {p : α → Bool} {xs : List α} {x : α} (hx : x ∈ xs) (hp : p x = true) : ∃ i y, idxF p xs = ((i : Nat) : Int) ∧ xs[i]? = some y ∧ p y = true ∧ ∀ j z, j < i → xs[j]? = some z → p z = false := by
  cases h : xs.findIdx? p with
  | none => have := List.findIdx?_eq_none_iff.1 h x hx; rw [hp] at this; cases this
  | some i =>
    obtain ⟨h1, h2, h3⟩ := List.findIdx?_eq_some_iff_getElem.1 h
    refine ⟨i, xs[i], by unfold idxF; rw [h], List.getElem?_eq_getElem h1, h2, fun j z hj hz => ?_⟩
    obtain ⟨h4, h5⟩ := List.getElem?_eq_some_iff.1 hz
    have := h3 j hj
    rw [h5] at this
    simpa using this

/-- a function value that answers for the elements of a list of words, in every world that goes on from w -/
structure FnU (w : World) (f : FuncId) (caps : Array Value) (xs : List Nat) (p : Nat → Bool) : Prop where
  enter : ∀ (args : Array Value) (W : World), (callFunc f args).run Tryd.prog W = .ok (.enter f args) W
  call : ∀ W, Below w.heap.size w W → ∀ x ∈ xs, Calls Tryd.prog f (#[.int .u64 (x : Int)] ++ caps) W fun e W' => e = .returned (.bool (p x)) ∧ Below W.heap.size W W'
set_option maxHeartbeats 1000000 in
theorem indexFuncU_any (u : Value) (xs : List Nat) (f : FuncId) (caps : Array Value) (p : Nat → Bool) (w : World) (hu : Nums w u xs) (hxl : xs.length ≤ 1048576) (h : FnU w f caps xs p) :
    Calls Tryd.prog 116 #[u, .func (.func f) #[] caps] w fun e w' => e = .returned (.int .i64 (idxF p xs)) ∧ Below w.heap.size w w' := by
  obtain ⟨A2, c2, rfl, hc⟩ := hu.form
  have HC := Lib.hid hc
  have hent := h.enter
  have HF := Lib.hid h.call
  clear hu hc h
  go_enter Tryd.func116, Tryd.ntmps116
  go_wp2_with fail
  go_loopg [8] xs.length (fun g i wr => ∃ k : Nat, k + g = xs.length ∧ i = .int .i64 (k : Int) ∧ Hid (∀ j y, j < k → xs[j]? = some y → p y = false) ∧ Below w.heap.size w wr)
  case atStart => exact ⟨0, by omega, rfl, fun j e h => by omega, Below.refl _ _⟩
  case round =>
    obtain ⟨k, hkg, rfl, hno, hB⟩ := hrel
    cases gk with
    | zero =>
      obtain rfl : k = xs.length := by omega
      have HN := Lib.hid (idxF_none hno.out)
      go_wp2_with fail
      go_ret
      exact ⟨ret_int (by rw [HN.out]), hB⟩
    | succ g2 =>
      have hlt : k < xs.length := by omega
      have hlt' : (k : Int) < (xs.length : Int) := by omega
      obtain ⟨y, hy⟩ : ∃ y, xs[k]? = some y := ⟨_, List.getElem?_eq_getElem hlt⟩
      obtain ⟨g, o, rfl, c0⟩ := HC.out k y hy
      have q0 := nearv.cell_keep c0 hB
      have HP := Lib.hid (HF.out wr hB y (List.mem_of_getElem? hy))
      clear c0
      cases hp : p y with
      | true =>
        have HN := Lib.hid (idxF_at hno.out hy hp)
        rw [hp] at HP
        clear hy hp
        go_wp2_with fail
        refine HP.out.mono ?_
        rintro e w1 ⟨rfl, b1⟩
        go_wp2_with fail
        go_ret
        exact ⟨ret_int (by rw [HN.out]), btrans hB b1⟩
      | false =>
        have HK := Lib.hid (no_succ hno.out hy hp)
        rw [hp] at HP
        clear hy hp
        go_wp2_with fail
        refine HP.out.mono ?_
        rintro e w1 ⟨rfl, b1⟩
        have hB1 := btrans hB b1
        clear hB b1 q0
        go_wp2_with fail
        go_roundg g2
        case measure => omega
        case rel => exact ⟨k + 1, by omega, by go_num, HK, hB1⟩
end Go.Proofs.YtdhbaegkogklgaaDoor.ups

/- The contracts of NeighborsOf: of the program and of the model. -/
namespace Go.Proofs.YtdhbaegkogklgaaDoor.neigh
open Go.RowKit P2 words edges ints good near adjs fns

theorem ret2 {a b c d : Value} (h : a = c) (h2 : b = d) : Ending.returned (.tuple #[a, b]) = .returned (.tuple #[c, d]) := by rw [h, h2]
theorem in64_small {x : Int} (h : -100 ≤ x) (h2 : x ≤ 100) : In64 x := by unfold In64; omega

theorem cell_keep {w w' : World} {b o : Nat} {v : Value} (h : w.cell? ⟨b, o, none⟩ = some v) (hb : Below w.heap.size w w') : w'.cell? ⟨b, o, none⟩ = some v :=
  (hb.cell (p := ⟨b, o, none⟩) (World.block_lt_of_cell? w (a := ⟨b, o, none⟩) h)).trans h

end Go.Proofs.YtdhbaegkogklgaaDoor.neigh

/- The contracts of the model's l2Neighbors and NeighborsOf. -/
namespace Go.Proofs.YtdhbaegkogklgaaDoor.neigh
open Go.RowKit P2 words edges ints good near adjs fns

set_option maxHeartbeats 1000000 in
theorem l2Neighbors_any (n : Nat) (x : Int) (v : Value) (l : List Ed) (w : World) (h : Edges w v l) (hl : l.length ≤ 1048576) (hn : n ≤ 8) :
    Calls Tryd.prog 150 #[.agg #[.int .i64 (n : Int), v], .int .i64 x] w fun e w' => ∃ A c, e = .returned (.slice A (nw (fun y => adj l x y) n).length c) ∧
      w'.ownsRow w.heap.size 3 1 (.slice A (nw (fun y => adj l x y) n).length c) (nw (fun y => adj l x y) n).length (cellsI (nw (fun y => adj l x y) n)) ∧ Below w.heap.size w w' := by
  obtain ⟨i0, hi, hz0, hz1, hz2⟩ := info_parts infoInt
  obtain ⟨A, c, rfl, -⟩ := h.form
  have H := Lib.hid h
  have B0 : Below w.heap.size w ((w.alloc (.cells #[.int .i64 (n : Int), .slice A l.length c] 29)).alloc (.cells #[] 3)) := ((Below.refl _ _).alloc (Nat.le_refl _) _).alloc (by simp) _
  have G0 := (Blk.new w 29 #[.int .i64 (n : Int), .slice A l.length c]).alloc (.cells #[] 3)
  have O0 := own_new0 (w.alloc (.cells #[.int .i64 (n : Int), .slice A l.length c] 29)) 3 1
  rw [World.size_alloc] at O0
  have HB0 := Lib.hid B0
  have HG0 := Lib.hid G0
  have HO0 := Lib.hid O0
  clear h B0 G0 O0
  go_enter Tryd.func150, Tryd.ntmps150
  go_wp2_with fail
  go_loopw [5, 6] (fun s i wr => ∃ k : Nat, k ≤ n ∧ i = .int .i64 (k : Int) ∧ wr.ownsRow (w.heap.size + 1) 3 1 s (nw (fun y => adj l x y) k).length (cellsI (nw (fun y => adj l x y) k)) ∧ Blk wr w.heap.size 29 #[.int .i64 (n : Int), .slice A l.length c] ∧ Below w.heap.size w wr)
    (fun _ i _ => n - (intOf i).toNat)
  case atStart => exact ⟨0, Nat.zero_le _, rfl, HO0.out, HG0.out, HB0.out⟩
  case round =>
    obtain ⟨k, hk, rfl, hrow, hbk, hB⟩ := hrel
    have hlen := nw_len (fun y => adj l x y) k
    obtain ⟨p0, p1, -, -⟩ := hbk.two
    have hsz := hbk.lt
    by_cases hlt : k < n
    · have hlt' : (k : Int) < (n : Int) := by omega
      have HP := Lib.hid (l2Near_any (n : Int) x (k : Int) _ l wr (H.out.below hB) hl)
      by_cases hp : adj l x (k : Int) = true
      · have HN := Lib.hid (nw_yes (p := fun y => adj l x y) hp)
        rw [hp] at HP
        clear hp
        generalize nw (fun y => adj l x y) k = m at *
        go_wp2_with fail
        refine HP.out.mono ?_
        rintro e w1 ⟨rfl, hb⟩
        have hrow1 := own_below hrow hb
        have hB1 := btrans hB hb
        have hbk1 := Lib.hid (hbk.below hb hsz)
        have hsz1 := hbk1.out.lt
        clear hrow p0 p1 hbk hb hB
        go_wp2_with (at_builtin; refine wpList_append_own _ rfl _ _ 25 rfl (w.heap.size + 1) 3 i0 (.int .i64 0) 1 8 Tryd.underlying25 hi hz0 hz1 hz2 rfl (by decide) _ _ _ rfl (hrow1.alloc _) ⟨w1.heap.size, 0, none⟩ 1 1 [.int .i64 (k : Int)] rfl rfl (cell_one_new _ _ _) (fun x hx => by simp at hx; subst hx; rfl) (by unfold maxLen; omega) (by omega) (by simp; omega) ?_; intro v2 w2 hown2 hgrow2 _)
        obtain ⟨hown3, hB2⟩ := push1 hrow1 hown2 hgrow2 (by omega)
        have hbk2 := Lib.hid (hbk1.out.below hB2 (by omega))
        clear hgrow2 hrow1 hown2
        go_roundw
        case rel => exact ⟨k + 1, by omega, by go_num, by rw [HN.out]; exact hown3, hbk2.out, hB1.trans (hB2.mono (by omega))⟩
        case measure => simp [intOf]; omega
      · have hp' : adj l x (k : Int) = false := by simpa using hp
        have HN := Lib.hid (nw_no (p := fun y => adj l x y) hp')
        rw [hp'] at HP
        clear hp hp'
        go_wp2_with fail
        refine HP.out.mono ?_
        rintro e w1 ⟨rfl, hb⟩
        have hrow1 := own_below hrow hb
        have hbk1 := Lib.hid (hbk.below hb hsz)
        have hB1 := btrans hB hb
        clear hrow p0 p1 hbk hb hB
        go_wp2_with fail
        go_roundw
        case rel => exact ⟨k + 1, by omega, by go_num, by rw [HN.out]; exact hrow1, hbk1.out, hB1⟩
        case measure => simp [intOf]; omega
    · obtain rfl : k = n := by omega
      obtain ⟨A2, c2, rfl⟩ := own_form hrow
      go_wp2_with fail
      go_ret
      exact ⟨A2, c2, rfl, own_base hrow (by omega), hB⟩
end Go.Proofs.YtdhbaegkogklgaaDoor.neigh
