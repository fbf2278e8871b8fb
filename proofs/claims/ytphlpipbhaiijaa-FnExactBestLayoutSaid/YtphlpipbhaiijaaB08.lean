/- The contract of the program's closedBits. -/
import Derived.Test.YtphlpipbhaiijaaB06
import Derived.Handy
import Derived.Test.YtphlpipbhaiijaaB05
import Derived.Test.YtphlpipbhaiijaaB07
import Derived.Test.YtphlpipbhaiijaaB02
import Derived.Deep.QuietTactic
import Derived.Test.YtphlpipbhaiijaaB04
import Derived.Maps.OwnSet
namespace Go.Proofs.Ytphlpipbhaiijaa.bitsI
open Go.RowKit P2 words edges ints good adjs fns sets rets covs
set_option linter.unusedVariables false

theorem infoU : (Try.prog.info? 68).map (fun i => (i.zero, i.size, i.bytes)) = some (some (.int .u64 0), 1, 8) := by kernel_rfl
theorem tneU : (68 : TypeId) ≠ 29 := by decide
theorem tneU2 : (68 : TypeId) ≠ 104 := by decide
/-- the first k powers, then noughts -/
def pws (n k : Nat) : List Nat := (List.range k).map (2 ^ ·) ++ List.replicate (n - k) 0
theorem pws_len {n k : Nat} (h : k ≤ n) : (pws n k).length = n := by simp [pws]; omega
theorem pws_set {n k : Nat} (h : k < n) : (pws n k).set k (2 ^ k) = pws n (k + 1) := by
  unfold pws
  rw [show n - k = (n - (k + 1)) + 1 from by omega, List.replicate_succ, List.set_append_right _ _ (by simp), List.length_map, List.length_range, Nat.sub_self, List.set_cons_zero, List.range_succ, List.map_append, List.append_assoc]
  rfl
/-- the neighborhoods by the first k edges -/
def closT (l : List Ed) (n k : Nat) : List Nat := (List.range n).map (cloB (l.take k))
theorem closT_len (l : List Ed) (n k : Nat) : (closT l n k).length = n := by simp [closT]
theorem closT_at {l : List Ed} {n k j : Nat} (h : j < n) : (closT l n k)[j]? = some (cloB (l.take k) j) := by simp [closT, h]
theorem closT_all (l : List Ed) (n : Nat) : closT l n l.length = clos l n := by simp [closT, clos]
theorem pws_all (l : List Ed) (n : Nat) : pws n n = closT l n 0 := by
  unfold pws closT
  rw [Nat.sub_self, List.replicate_zero, List.append_nil, List.take_zero]
  rfl
theorem closT_succ {l : List Ed} {n k p q : Nat} (h : l[k]? = some ((p : Int), (q : Int))) (hpq : p < q) (hq : q < n) :
    ((closT l n k).set p (cloB (l.take k) p ||| 2 ^ q)).set q (cloB (l.take k) q ||| 2 ^ p) = closT l n (k + 1) := by
  apply List.ext_getElem?
  intro j
  by_cases hj : j < n
  · rw [closT_at hj, cloB_succ h]
    have e : joinB (cloB (List.take k l) j) ((p : Int), (q : Int)) j = if p = j then cloB (l.take k) j ||| 2 ^ q else if q = j then cloB (l.take k) j ||| 2 ^ p else cloB (l.take k) j := by
      unfold joinB
      simp only [Int.ofNat_inj, Int.toNat_natCast]
    rw [e, List.getElem?_set]
    by_cases h2 : q = j
    · subst h2
      rw [if_pos rfl, if_pos (by rw [List.length_set, closT_len]; exact hj), if_neg (by omega), if_pos rfl]
    · rw [if_neg h2, List.getElem?_set]
      by_cases h1 : p = j
      · subst h1
        rw [if_pos rfl, if_pos (by rw [closT_len]; exact hj), if_pos rfl]
      · rw [if_neg h1, if_neg h1, if_neg h2, closT_at hj]
  · rw [List.getElem?_eq_none (by rw [List.length_set, List.length_set, closT_len]; omega), List.getElem?_eq_none (by rw [closT_len]; omega)]

set_option maxHeartbeats 4000000 in
set_option maxRecDepth 100000 in
theorem closedBits_own (n : Nat) (v : Value) (l : List Ed) (w : World) (h : Edges w v l) (hl : l.length ≤ 1048576) (hg : P2.Good n l) (hn : n ≤ 8) :
    Calls Try.prog 57 #[.agg #[.int .i64 (n : Int), v]] w fun e w' => ∃ A c, e = .returned (.slice A n c) ∧ w'.ownsRow w.heap.size 68 1 (.slice A n c) n (cellsU (clos l n)) ∧ Below w.heap.size w w' := by
  obtain ⟨A, c, rfl, hc⟩ := h.form
  obtain ⟨i0, hi, hz0, hz1, hz2⟩ := info_parts infoU
  have HC := Lib.hid hc
  have HG := Lib.hid hg
  have HLEN := Lib.hid (clos_len l n)
  have HALL := Lib.hid (closT_all l n)
  have HP := Lib.hid (pws_all l n)
  have hmk := fun (W : World) => run_make_rowN (P := Try.prog) 56 68 i0 (.int .u64 0) Try.underlying56 hi hz0 .i64 .i64 n n (Nat.le_refl _) (by rw [hz2]; omega) (by omega) W
  have hown := World.ownsRow_lit (base := w.heap.size + 1) (e := 68) (size := 1) (w.alloc (.cells #[.int .i64 (n : Int), .slice A l.length c] 29)) (madeCells #[Value.int .u64 0] (n * 1)) n (by simp) (by unfold maxLen; omega) (size_madeCells _ _)
  rw [toList_madeCells_one, Nat.mul_one, show List.replicate n (Value.int .u64 0) = cellsU (pws n 0) from by simp [pws, cellsU], World.size_alloc] at hown
  have HOWN := Lib.hid hown
  have b0 : Below w.heap.size w ((w.alloc (.cells #[.int .i64 (n : Int), .slice A l.length c] 29)).alloc (.cells (madeCells #[Value.int .u64 0] n) 68)) := ((Below.refl _ _).alloc (Nat.le_refl _) _).alloc (by simp) _
  have g0 := (Blk.new w 29 #[.int .i64 (n : Int), .slice A l.length c]).alloc (.cells (madeCells #[Value.int .u64 0] n) 68)
  clear h hc hg hown
  go_enter Try.func57, Try.ntmps57
  obtain ⟨p0, p1, -, -⟩ := (Blk.new w 29 #[.int .i64 (n : Int), .slice A l.length c]).two
  go_wp2_with fail
  clear p0 p1
  go_loopg [12] n (fun g i wr => ∃ k : Nat, k + g = n ∧ i = .int .i64 (k : Int) ∧ wr.ownsRow (w.heap.size + 1) 68 1 (.slice (some ⟨w.heap.size + 1, 0, none⟩) n n) n (cellsU (pws n k)) ∧ Blk wr w.heap.size 29 #[.int .i64 (n : Int), .slice A l.length c] ∧ Below w.heap.size w wr)
  case atStart => exact ⟨0, by omega, rfl, HOWN.out, g0, b0⟩
  case round =>
    obtain ⟨k, hkg, rfl, hrow, hgb, hB⟩ := hrel
    obtain ⟨p0, p1, -, -⟩ := hgb.two
    cases gk with
    | succ g2 =>
      have hlt : k < n := by omega
      have hlt' : (k : Int) < (n : Int) := by omega
      have hll := pws_len (n := n) (k := k) (by omega)
      obtain ⟨u, hu⟩ : ∃ u, (pws n k)[k]? = some u := ⟨_, List.getElem?_eq_getElem (by omega)⟩
      have f0 := hrow.cellAt k (by omega)
      rw [cellsU_at hu] at f0
      have z0 := hrow.frozenAt k
      have hw := wrap_pow (m := k) (by omega)
      have hst := (hrow.stored k (.int .u64 ((2 ^ k : Nat) : Int))).1
      rw [cellsU_set, pws_set hlt] at hst
      generalize 2 ^ k = z at *
      have HST := Lib.hid hst
      have HG2 := Lib.hid (hgb.far (p := ⟨w.heap.size + 1, k, none⟩) (by simp) (.int .u64 (z : Int)))
      have HB2 := Lib.hid (hB.setCell (p := ⟨w.heap.size + 1, k, none⟩) (by simp) (.int .u64 (z : Int)))
      clear hst hu hrow hB hgb hll
      go_wp2_with fail
      go_roundg g2
      case measure => omega
      case rel => exact ⟨k + 1, by omega, by go_num, HST.out, HG2.out, HB2.out⟩
    | zero =>
      obtain rfl : k = n := by omega
      rw [HP.out] at hrow
      have HR := Lib.hid hrow
      have HGB := Lib.hid hgb
      have HBB := Lib.hid hB
      clear hrow hB hgb
      go_wp2_with fail
      clear p0 p1
      go_loopg [24] l.length (fun g i wr => ∃ j : Nat, j + g = l.length ∧ i = .int .i64 (j : Int) ∧ wr.ownsRow (w.heap.size + 1) 68 1 (.slice (some ⟨w.heap.size + 1, 0, none⟩) k k) k (cellsU (closT l k j)) ∧ Below w.heap.size w wr)
      case atStart => exact ⟨0, by omega, rfl, HR.out, HBB.out⟩
      case round =>
        clear HR HGB HBB
        obtain ⟨j, hjg, rfl, hrow, hB⟩ := hrel
        cases gk with
        | zero =>
          obtain rfl : j = l.length := by omega
          rw [HALL.out] at hrow
          have HR := Lib.hid hrow
          clear hrow
          go_wp2_with fail
          go_ret
          exact ⟨_, _, rfl, own_base HR.out (by omega), hB⟩
        | succ g2 =>
          have hlt : j < l.length := by omega
          have hlt' : (j : Int) < (l.length : Int) := by omega
          obtain ⟨x, hx⟩ : ∃ x, l[j]? = some x := ⟨_, List.getElem?_eq_getElem hlt⟩
          have hm := HG.out.mem (List.mem_of_getElem? hx)
          obtain ⟨g, o, rfl, c0, c1⟩ := HC.out j x hx
          obtain ⟨x1, x2⟩ := x
          simp only at hm c0 c1
          obtain ⟨p, rfl⟩ : ∃ p : Nat, x1 = (p : Int) := ⟨x1.toNat, by omega⟩
          obtain ⟨q, rfl⟩ : ∃ q : Nat, x2 = (q : Int) := ⟨x2.toNat, by omega⟩
          have hp : p < k := by omega
          have hq : q < k := by omega
          have hpq : p < q := by omega
          have hp' : (p : Int) < (k : Int) := by omega
          have hq' : (q : Int) < (k : Int) := by omega
          have hp8 : p ≤ 8 := by omega
          have hq8 : q ≤ 8 := by omega
          have q0 := cell_keep c0 hB
          have q1 := cell_keep c1 hB
          have hsz := hB.size
          have HS := Lib.hid (closT_succ hx hpq hq)
          have hor1 := or_walk (cloB (l.take j) p) q (cloB_lt HG.out j p (by omega)) hq8
          have hor2 := or_walk (cloB (l.take j) q) p (cloB_lt HG.out j q (by omega)) hp8
          have R1 := hrow.alloc (.cells #[.int .i64 (p : Int), .int .i64 (q : Int)] 104)
          have G1 := Blk.new wr 104 #[.int .i64 (p : Int), .int .i64 (q : Int)]
          have B1 : Below w.heap.size w (wr.alloc (.cells #[.int .i64 (p : Int), .int .i64 (q : Int)] 104)) := hB.alloc hsz _
          have hne : wr.heap.size ≠ w.heap.size + 1 := by have := (hrow.lt (w.heap.size + 1) rfl).2; omega
          have hsb : ((closT l k j).set p (cloB (l.take j) p ||| 2 ^ q))[q]? = some (cloB (l.take j) q) := by rw [List.getElem?_set, if_neg (by omega)]; exact closT_at hq
          have hsa : (closT l k j)[p]? = some (cloB (l.take j) p) := closT_at hp
          have HN := Lib.hid hne
          have HSA := Lib.hid hsa
          have HSB := Lib.hid hsb
          clear hx c0 c1 hsb hsa hrow hB hne hm
          generalize cloB (l.take j) p ||| 2 ^ q = y1 at *
          generalize cloB (l.take j) q ||| 2 ^ p = y2 at *
          generalize cloB (l.take j) p = y3 at *
          generalize cloB (l.take j) q = y4 at *
          have HR1 := Lib.hid R1
          have HG1 := Lib.hid G1
          have HB1 := Lib.hid B1
          clear R1 G1 B1
          go_wp2_with fail
          generalize wr.alloc (.cells #[.int .i64 (p : Int), .int .i64 (q : Int)] 104) = W1 at *
          obtain ⟨m0, m1, -, -⟩ := HG1.out.two
          have ca := HR1.out.cellAt p (by omega)
          rw [cellsU_at HSA.out] at ca
          go_still_tail 10, (by kernel_rfl)
          change wpList _ _ _ _ _ W1.drew
          have HR2 := Lib.hid (own_below HR1.out (Below.refl _ _).drew)
          have HG2 := Lib.hid (HG1.out.drewN 1)
          have HB2 : Hid (Below w.heap.size w W1.drew) := HB1.out.drew
          have HG2 : Hid (Blk W1.drew wr.heap.size 104 #[.int .i64 (p : Int), .int .i64 (q : Int)]) := HG1.out.drewN 1
          clear ca m0 m1
          generalize W1.drew = W2 at *
          have ca := HR2.out.cellAt p (by omega)
          rw [cellsU_at HSA.out] at ca
          have za := HR2.out.frozenAt p
          go_wp2_with fail
          have HR3 := Lib.hid (HR2.out.stored p (.int .u64 (y1 : Int))).1
          have HG3 := Lib.hid (HG2.out.far (p := ⟨w.heap.size + 1, p, none⟩) HN.out (.int .u64 (y1 : Int)))
          have HB3 := Lib.hid (HB2.out.setCell (p := ⟨w.heap.size + 1, p, none⟩) (by simp) (.int .u64 (y1 : Int)))
          clear ca za
          generalize W2.setCell ⟨w.heap.size + 1, p, none⟩ (.int .u64 (y1 : Int)) = W3 at *
          obtain ⟨m0, m1, -, -⟩ := HG3.out.two
          have cb := HR3.out.cellAt q (by omega)
          rw [cellsU_set, cellsU_at HSB.out] at cb
          go_still_tail 10, (by kernel_rfl)
          change wpList _ _ _ _ _ W3.drew
          have HR4 := Lib.hid (own_below HR3.out (Below.refl _ _).drew)
          have HB4 : Hid (Below w.heap.size w W3.drew) := HB3.out.drew
          clear cb m0 m1
          generalize W3.drew = W4 at *
          have cb := HR4.out.cellAt q (by omega)
          rw [cellsU_set, cellsU_at HSB.out] at cb
          have zb := HR4.out.frozenAt q
          have HB5 := Lib.hid (HB4.out.setCell (p := ⟨w.heap.size + 1, q, none⟩) (by simp) (.int .u64 (y2 : Int)))
          have hr5 := (HR4.out.stored q (.int .u64 (y2 : Int))).1
          rw [cellsU_set, cellsU_set, HS.out] at hr5
          have HR5 := Lib.hid hr5
          clear hr5
          go_wp2_with fail
          clear cb zb
          go_roundg g2
          case measure => omega
          case rel => exact ⟨j + 1, by omega, by go_num, HR5.out, HB5.out⟩
theorem closedBits_any (n : Nat) (v : Value) (l : List Ed) (w : World) (h : Edges w v l) (hl : l.length ≤ 1048576) (hg : P2.Good n l) (hn : n ≤ 8) :
    Calls Try.prog 57 #[.agg #[.int .i64 (n : Int), v]] w fun e w' => ∃ A c, e = .returned (.slice A (clos l n).length c) ∧ Nums w' (.slice A (clos l n).length c) (clos l n) ∧ Below w.heap.size w w' :=
  (closedBits_own n v l w h hl hg hn).mono fun _ _ ⟨A, c, h1, h2, h3⟩ => by
    have h4 := clos_len l n
    have h5 := Reads.of_own h2
    refine ⟨A, c, by rw [h4]; exact h1, ?_, h3⟩
    unfold Nums
    rw [h4]
    exact h5
end Go.Proofs.Ytphlpipbhaiijaa.bitsI

/- Fronts: the contracts of the program's frontIn and FrontOf. -/
namespace Go.Proofs.Ytphlpipbhaiijaa.fronts
open Go.RowKit P2 words edges ints good adjs fns sets rets covs reach bags bitsI
set_option linter.unusedVariables false

theorem shl_all {n : Nat} (hn : n ≤ 8) : IntKind.u64.wrap (IntKind.u64.wrap ((2 : Int) ^ n) - 1) = ((numOf (fun _ => true) n : Nat) : Int) := by
  have hpn : 2 ^ n ≤ 256 := by have := Nat.pow_le_pow_right (show 0 < 2 by decide) hn; simpa using this
  have hp1 : 1 ≤ 2 ^ n := Nat.one_le_two_pow
  have e : numOf (fun _ => true) n = 2 ^ n - 1 := by
    apply Nat.eq_of_testBit_eq
    intro i
    rw [numOf_bit, Nat.testBit_two_pow_sub_one]; simp
  rw [e, wrap_pow hn, IntKind.wrap_u64]
  generalize 2 ^ n = z at *
  omega
theorem all_but {n : Nat} (S : Nat → Bool) (hn : n ≤ 8) : bits .andNot .u64 ((numOf (fun _ => true) n : Nat) : Int) ((numOf S n : Nat) : Int) = ((numOf (fun y => !S y) n : Nat) : Int) := by
  have h1 := numOf_lt (fun _ => true) hn
  refine andNot_num _ S n (by omega) hn _ fun z _ => ?_
  rw [numOf_bit]
  by_cases hz : z < n <;> simp [hz]
set_option maxHeartbeats 1000000 in
set_option maxRecDepth 100000 in
theorem frontIn_any (n : Nat) (S : Nat → Bool) (v : Value) (l : List Ed) (w : World) (h : Nums w v (clos l n)) (hg : P2.Good (n : Int) l) (hn : n ≤ 8) :
    Calls Try.prog 139 #[v, .int .u64 (numOf S n : Int)] w fun e w' => e = .returned (.int .u64 (numOf (frontB l n S) n : Int)) ∧ w = w' := by
  have HA := Lib.hid (closedAround_any n (numOf (fun y => !S y) n) v l w h hg hn (numOf_lt _ hn))
  obtain ⟨A, c, rfl, -⟩ := h.form
  have hcl := clos_len l n
  rw [hcl] at HA ⊢
  have hsh := shl_all hn
  have hno := all_but S hn
  have hand : bits .and .u64 ((arN l n (numOf (fun y => !S y) n) : Nat) : Int) ((numOf S n : Nat) : Int) = ((numOf (frontB l n S) n : Nat) : Int) := by
    have h1 : arN l n (numOf (fun y => !S y) n) < 256 := numOf_lt _ hn
    have h2 := numOf_lt S hn
    rw [bits_and_u64_nat _ _ (by omega) (by omega)]
    unfold arN
    rw [num_and, num_ext (fun z hz => front_bits hz)]
  clear h hg hcl
  generalize arN l n (numOf (fun y => !S y) n) = a at *
  generalize numOf (fun y => !S y) n = b at *
  generalize numOf (fun _ => true) n = d at *
  generalize numOf (frontB l n S) n = f at *
  generalize numOf S n = g at *
  go_enter Try.func139, Try.ntmps139
  go_wp2_with fail
  refine HA.out.mono ?_
  rintro e w' ⟨rfl, rfl⟩
  go_wp2_with fail
  go_ret
  exact ⟨rfl, rfl⟩
noncomputable def froL (n : Nat) (l : List Ed) (xs : List Int) : List Int := nw (frontB l n (goneB xs)) n
theorem fro_len (s : Int) (l : List Ed) (xs : List Int) (p : Prop) (h : p → s.toNat ≤ 8) : (inG p (froL s.toNat l xs)).length ≤ 1048576 := inG_len fun hp => by
  have h1 := nw_len (frontB l s.toNat (goneB xs)) s.toNat
  have h2 := h hp
  unfold froL; omega
end Go.Proofs.Ytphlpipbhaiijaa.fronts

/- The pathwidth: plain mathematics. -/
namespace Go.Proofs.Ytphlpipbhaiijaa.costs
open Go.RowKit P2 words edges ints good adjs fns sets rets covs reach bags bitsI fronts
set_option linter.unusedVariables false

theorem frontC_le (l : List Ed) (n : Nat) (hn : n ≤ 8) (g x : Nat) : frontC l n g x ≤ 100 := by
  unfold frontC frontN
  have := nw_len (frontB l n (bitB (g ||| 2 ^ x))) n
  omega
theorem frontC_pos (l : List Ed) (n g x : Nat) : 0 ≤ frontC l n g x := by unfold frontC frontN; omega
theorem num_code {n g : Nat} (hg : g < 2 ^ n) : numOf (bitB g) n = g := by
  apply Nat.eq_of_testBit_eq
  intro i
  rw [numOf_bit]
  unfold bitB
  by_cases hi : i < n
  · simp [hi]
  · simp only [hi, decide_false, Bool.false_and]
    exact (Nat.testBit_lt_two_pow (Nat.lt_of_lt_of_le hg (Nat.pow_le_pow_right (by decide) (by omega)))).symm
theorem put_code (g x z : Nat) : pput (bitB g) x z = bitB (g ||| 2 ^ x) z := by
  unfold pput bitB
  rw [Nat.testBit_or, Nat.testBit_two_pow]
  by_cases h : z = x
  · subst h; simp
  · have h2 : ¬ x = z := fun e => h e.symm
    simp [h, h2]
theorem front_put (l : List Ed) (n g x : Nat) : ((nw (frontB l n (pput (bitB g) x)) n).length : Int) = frontC l n g x := by
  unfold frontC frontN
  rw [reach.nw_congr fun z hz => frontB_congr (fun y hy => put_code g x y) hz]
theorem LcUp.pos {n : Nat} {cost : Nat → Nat → Int} {C : Nat → Int} (hn : n ≤ 8) (h : LcUp n cost 0 0 C) (hc : ∀ g x, 0 ≤ cost g x) : 0 ≤ C 0 := by
  by_cases e : 2 ^ n - 1 = 0
  · have := h.1; rw [e] at this; omega
  · obtain ⟨⟨x, _, _, hC⟩, _⟩ := h.2.1 0 (by omega) (by omega)
    have := hc 0 x
    omega
noncomputable def pwV (s : Int) (l : List Ed) : Int := leastV s.toNat (frontC l s.toNat) 0
theorem pw_lc {n : Nat} {l : List Ed} {C : Nat → Int} (hn : n ≤ 8) (h : LcUp n (frontC l n) 0 0 C) : pwV (n : Int) l = C 0 := by
  have e : pwV (n : Int) l = leastV n (frontC l n) 0 := rfl
  rw [e]
  exact Least.is (lc_least hn h.1 (fun c hc => h.2.1 c (by omega) hc) (h.pos hn (frontC_pos l n)))

/-- the model's table: the least separations of the sets below a number -/
def WUp (n : Nat) (cost : Nat → Nat → Int) (k : Nat) (W : Nat → Int) : Prop :=
  W 0 = 0 ∧ (∀ d, d < k → d ≠ 0 → WAt n cost W d) ∧ ∀ d, d < k → 0 ≤ W d ∧ W d ≤ 100
/-- the least of those below a set, so far -/
def BtAt (n : Nat) (W : Nat → Int) (d x : Nat) (b : Int) : Prop :=
  (b = -1 ∧ (∀ y, y < x → d.testBit y = false)) ∨ ((∃ y, y < x ∧ y < n ∧ d.testBit y = true ∧ b = W (d - 2 ^ y)) ∧ ∀ y, y < x → d.testBit y = true → b ≤ W (d - 2 ^ y))
theorem BtAt.start (n : Nat) (W : Nat → Int) (d : Nat) : BtAt n W d 0 (-1) := .inl ⟨rfl, fun y h => by omega⟩
theorem BtAt.skip {n : Nat} {W : Nat → Int} {d x : Nat} {b : Int} (h : BtAt n W d x b) (hb : d.testBit x = false) : BtAt n W d (x + 1) b := by
  rcases h with ⟨h1, h2⟩ | ⟨⟨y, h1, h2⟩, h3⟩
  · refine .inl ⟨h1, fun y hy => ?_⟩
    by_cases e : y = x
    · subst e; exact hb
    · exact h2 y (by omega)
  · refine .inr ⟨⟨y, by omega, h2⟩, fun z hz hzb => ?_⟩
    by_cases e : z = x
    · subst e; rw [hb] at hzb; cases hzb
    · exact h3 z (by omega) hzb
/-- it is less, or the first one -/
theorem BtAt.take {n : Nat} {W : Nat → Int} {d x : Nat} {b : Int} (h : BtAt n W d x b) (hx : x < n) (hb : d.testBit x = true) (hl : b < 0 ∨ W (d - 2 ^ x) < b) (hp : ∀ y, d.testBit y = true → y < n → 0 ≤ W (d - 2 ^ y)) : BtAt n W d (x + 1) (W (d - 2 ^ x)) := by
  refine .inr ⟨⟨x, by omega, hx, hb, rfl⟩, fun z hz hzb => ?_⟩
  by_cases e : z = x
  · subst e; exact Int.le_refl _
  · rcases h with ⟨_, h2⟩ | ⟨⟨y, h1, h2, h4, h5⟩, h3⟩
    · rw [h2 z (by omega)] at hzb; cases hzb
    · have := h3 z (by omega) hzb
      have := hp y h4 h2
      omega
/-- it is not -/
theorem BtAt.keep {n : Nat} {W : Nat → Int} {d x : Nat} {b : Int} (h : BtAt n W d x b) (hl0 : ¬ b < 0) (hl : ¬ W (d - 2 ^ x) < b) : BtAt n W d (x + 1) b := by
  rcases h with ⟨h1, _⟩ | ⟨⟨y, h1, h2⟩, h3⟩
  · omega
  · refine .inr ⟨⟨y, by omega, h2⟩, fun z hz hzb => ?_⟩
    by_cases e : z = x
    · subst e; omega
    · exact h3 z (by omega) hzb
theorem WUp.start (n : Nat) (cost : Nat → Nat → Int) : WUp n cost 1 (fun _ => 0) := ⟨rfl, fun d h1 h2 => by omega, fun d _ => ⟨by show (0 : Int) ≤ 0; omega, by show (0 : Int) ≤ 100; omega⟩⟩
theorem WUp.succ {n : Nat} {l : List Ed} {k : Nat} {W : Nat → Int} {b : Int} (hn : n ≤ 8) (h : WUp n (frontC l n) k W) (hk0 : 1 ≤ k) (hk : k < 2 ^ n) (hb : BtAt n W k n b) : WUp n (frontC l n) (k + 1) (upd W k (max b (frontN l n k))) := by
  have hp := pow8 hn
  obtain ⟨h1, h2, h3⟩ := h
  have hF : frontN l n k ≤ 8 := by unfold frontN; have := nw_len (frontB l n (bitB k)) n; omega
  have hF0 : 0 ≤ frontN l n k := by unfold frontN; omega
  have hfc : ∀ d y, d < 256 → y < 8 → d.testBit y = true → frontC l n (d - 2 ^ y) y = frontN l n d := fun d y hd hy hbt => by unfold frontC; rw [sub_or hd hy hbt]
  have hlt : ∀ d y, d ≠ 0 → d - 2 ^ y < d := fun d y hd => Nat.sub_lt (Nat.pos_of_ne_zero hd) (Nat.two_pow_pos y)
  have hdn : ∀ d y, d ≠ 0 → d ≤ k → d - 2 ^ y ≠ k := fun d y hd hdk => by have := hlt d y hd; omega
  obtain ⟨⟨y, _, hy, hyb, hbv⟩, hle⟩ : (∃ y, y < n ∧ y < n ∧ k.testBit y = true ∧ b = W (k - 2 ^ y)) ∧ ∀ y, y < n → k.testBit y = true → b ≤ W (k - 2 ^ y) := by
    rcases hb with ⟨_, h4⟩ | h4
    · obtain ⟨x, hx, hxb⟩ := in_bit hn hk (by omega)
      rw [h4 x hx] at hxb; cases hxb
    · exact h4
  have hb1 := h3 (k - 2 ^ y) (by have := hlt k y (by omega); omega)
  refine ⟨by rw [upd_ne W _ (by omega)]; exact h1, fun d hd hd0 => ?_, fun d hd => ?_⟩
  · by_cases e : d = k
    · subst e
      refine ⟨⟨y, hy, hyb, ?_⟩, fun z hz hzb => ?_⟩
      · rw [upd_at, upd_ne W _ (hdn d y hd0 (Nat.le_refl _)), hfc d y (by omega) (by omega) hyb, hbv]; omega
      · rw [upd_at, upd_ne W _ (hdn d z hd0 (Nat.le_refl _)), hfc d z (by omega) (by omega) hzb]
        have := hle z hz hzb
        omega
    · obtain ⟨⟨z, hz, hzb, hW⟩, hl2⟩ := h2 d (by omega) hd0
      refine ⟨⟨z, hz, hzb, ?_⟩, fun q hq hqb => ?_⟩
      · rw [upd_ne W _ e, upd_ne W _ (hdn d z hd0 (by omega))]; exact hW
      · rw [upd_ne W _ e, upd_ne W _ (hdn d q hd0 (by omega))]; exact hl2 q hq hqb
  · by_cases e : d = k
    · subst e; rw [upd_at]; omega
    · rw [upd_ne W _ e]; exact h3 d (by omega)
theorem pw_w {n : Nat} {l : List Ed} {W : Nat → Int} (hn : n ≤ 8) (h : WUp n (frontC l n) (2 ^ n) W) : pwV (n : Int) l = W (2 ^ n - 1) := by
  have e : pwV (n : Int) l = leastV n (frontC l n) 0 := rfl
  rw [e]
  exact Least.is (w_least hn h.1 (fun d hd hd0 => h.2.1 d hd hd0) (h.2.2 _ (by have := Nat.two_pow_pos n; omega)).1)
theorem rowF_app (k : Nat) (W : Nat → Int) (v : Int) : rowF (k + 1) (upd W k v) = rowF k W ++ [v] := by
  unfold rowF
  rw [List.range_succ, List.map_append, List.map_singleton, upd_at]
  congr 1
  exact List.map_congr_left fun d hd => upd_ne W v (by have := List.mem_range.1 hd; omega)
theorem gone_code {n d z : Nat} (hz : z < n) : goneB (nw (bitB d) n) z = bitB d z := by
  unfold goneB
  rw [Bool.eq_iff_iff, decide_eq_true_iff, mem_nw]
  constructor
  · rintro ⟨j, _, hj, e⟩
    have e2 : z = j := by omega
    rw [e2]; exact hj
  · intro h; exact ⟨z, hz, h, rfl⟩
theorem fro_code (l : List Ed) (n d : Nat) : (((froL n l (nw (bitB d) n)).length : Nat) : Int) = frontN l n d := by
  unfold froL frontN
  rw [reach.nw_congr fun z hz => frontB_congr (fun y hy => gone_code hy) hz]
end Go.Proofs.Ytphlpipbhaiijaa.costs

/- Lists that have each node once: the contracts of the program's hasOrder and of the model's l2Each. -/
namespace Go.Proofs.Ytphlpipbhaiijaa.each
open Go.RowKit Go.Maps P2 words edges ints good near adjs fns sets rets covs balls
set_option linter.unusedVariables false

theorem cell_keep {w w' : World} {b o : Nat} {v : Value} (h : w.cell? ⟨b, o, none⟩ = some v) (hb : Below w.heap.size w w') : w'.cell? ⟨b, o, none⟩ = some v :=
  (hb.cell (p := ⟨b, o, none⟩) (World.block_lt_of_cell? w (a := ⟨b, o, none⟩) h)).trans h
/-- a list has each node once -/
def EachS (n : Nat) (tl : List Int) : Prop := tl.length = n ∧ ∀ k : Nat, k < n → (k : Int) ∈ tl
theorem allN_nodup (n : Nat) : (allN n).Nodup := by
  unfold allN
  rw [List.Nodup, List.pairwise_map]
  exact List.pairwise_lt_range.imp (fun {a b} h e => by omega)
theorem EachS.range {n : Nat} {tl : List Int} (h : EachS n tl) : ∀ x ∈ tl, 0 ≤ x ∧ x < (n : Int) := fun x hx => by
  apply Classical.byContradiction
  intro hn
  have hnd : (x :: allN n).Nodup := List.nodup_cons.2 ⟨fun hm => hn (mem_allN.1 hm), allN_nodup n⟩
  have hsub : (x :: allN n) ⊆ tl := fun y hy => by
    rcases List.mem_cons.1 hy with rfl | hy
    · exact hx
    · have := mem_allN.1 hy
      have h2 := h.2 y.toNat (by omega)
      rwa [show ((y.toNat : Nat) : Int) = y from by omega] at h2
  have := hnd.length_le_of_subset hsub
  have h1 := h.1
  rw [List.length_cons, allN_len] at this
  omega

/-- the distinct numbers of a list -/
def addD (L : List Int) (x : Int) : List Int := if x ∈ L then L else L ++ [x]
def dst (xs : List Int) : List Int := xs.foldl addD []
theorem mem_addD {L : List Int} {x y : Int} : y ∈ addD L x ↔ y ∈ L ∨ y = x := by
  unfold addD
  split
  · rename_i h; exact ⟨.inl, fun hh => by rcases hh with hh | rfl; exact hh; exact h⟩
  · simp
theorem addD_nodup {L : List Int} {x : Int} (h : L.Nodup) : (addD L x).Nodup := by
  unfold addD
  split
  · exact h
  · rename_i hx
    rw [List.nodup_append]
    exact ⟨h, by simp, fun a ha b hb e => hx (by rw [List.mem_singleton] at hb; subst hb; rw [← e]; exact ha)⟩
theorem mem_fold : ∀ (xs L : List Int) (y : Int), y ∈ xs.foldl addD L ↔ y ∈ L ∨ y ∈ xs
  | [], L, y => by simp
  | x :: xs, L, y => by
    rw [List.foldl_cons, mem_fold xs, mem_addD, List.mem_cons, or_assoc]
theorem fold_nodup : ∀ (xs L : List Int), L.Nodup → (xs.foldl addD L).Nodup
  | [], L, h => h
  | x :: xs, L, h => by rw [List.foldl_cons]; exact fold_nodup xs _ (addD_nodup h)
theorem mem_dst {xs : List Int} {y : Int} : y ∈ dst xs ↔ y ∈ xs := by unfold dst; rw [mem_fold]; simp
theorem dst_nodup (xs : List Int) : (dst xs).Nodup := fold_nodup xs [] (by simp)
theorem dst_succ {xs : List Int} {k : Nat} {x : Int} (h : xs[k]? = some x) : dst (xs.take (k + 1)) = addD (dst (xs.take k)) x := by
  unfold dst
  rw [List.take_add_one, h, List.foldl_append]; rfl
theorem dst_len (xs : List Int) : (dst xs).length ≤ xs.length := (dst_nodup xs).length_le_of_subset (fun y hy => mem_dst.1 hy)
theorem each_dst {n : Nat} {tl : List Int} (hl : tl.length = n) (hr : ∀ x ∈ tl, 0 ≤ x ∧ x < (n : Int)) : EachS n tl ↔ (dst tl).length = n := by
  constructor
  · intro h
    have h1 : (allN n).length ≤ (dst tl).length := (allN_nodup n).length_le_of_subset (fun y hy => mem_dst.2 (by
      have := mem_allN.1 hy
      have h2 := h.2 y.toNat (by omega)
      rwa [show ((y.toNat : Nat) : Int) = y from by omega] at h2))
    have h2 := dst_len tl
    rw [allN_len] at h1
    omega
  · intro h
    refine ⟨hl, fun k hk => Classical.byContradiction fun hn => ?_⟩
    have hnd : ((k : Int) :: dst tl).Nodup := List.nodup_cons.2 ⟨fun hm => hn (mem_dst.1 hm), dst_nodup tl⟩
    have hsub : ((k : Int) :: dst tl) ⊆ allN n := fun y hy => by
      rcases List.mem_cons.1 hy with rfl | hy
      · exact mem_allN.2 (by omega)
      · exact mem_allN.2 (hr y (mem_dst.1 hy))
    have := hnd.length_le_of_subset hsub
    rw [List.length_cons, allN_len] at this
    omega

theorem lawI : Keyed Try.prog 3 := int_keyed Try.underlying3
theorem ikey {x : Int} (h : In64 x) : keyOf Try.prog 3 (.int .i64 x) = some (.int .i64 x) := keyOf_int_mk Try.underlying3 (wf64 h)
/-- the map has just these numbers -/
def MapI (D : DataW Unit) (xs : List Int) : Prop := Tidy D ∧ (∀ m : Int, has D (.int .i64 m) = decide (m ∈ xs)) ∧ Maps.size D = (dst xs).length
theorem mapI_nil : MapI (.map []) [] := ⟨tidy_empty, fun _ => by simp [has], rfl⟩
theorem MapI.put {D : DataW Unit} {xs : List Int} {k : Nat} {x : Int} (h : MapI D (xs.take k)) (hx : xs[k]? = some x) (hi : In64 x) : MapI (D.put (.int .i64 x) (.lit (.bool true))) (xs.take (k + 1)) := by
  have hk := lawI.key (ikey hi)
  have ht : xs.take (k + 1) = xs.take k ++ [x] := by rw [List.take_add_one, hx]; rfl
  refine ⟨h.1.put hk _, fun m => ?_, ?_⟩
  · by_cases e : m = x
    · subst e
      rw [has_put_same h.1.isMap hk, ht]
      simp
    · rw [has_put_other (fun hh => e (by simpa using hh)), h.2.1 m, ht, decide_eq_decide, List.mem_append]
      simp [e]
  · rw [size_put h.1, h.2.1 x, dst_succ hx, h.2.2]
    unfold addD
    by_cases hm : x ∈ xs.take k
    · rw [if_pos (by simpa using hm), if_pos (mem_dst.2 hm)]
    · rw [if_neg (by simpa using hm), if_neg (fun hh => hm (mem_dst.1 hh)), List.length_append]; rfl

theorem notEach_len {s : Int} {l : List Ed} {tl : List Int} (h : ¬ (tl.length : Int) = s) : ¬ (P2.Good s l ∧ EachS s.toNat tl) := fun hh => h (by
  have h1 := hh.2.1; have h2 := hh.1.1; omega)
theorem notEach_nodes {s : Int} {l : List Ed} {tl : List Int} (h : nodesB s l tl = false) : ¬ (P2.Good s l ∧ EachS s.toNat tl) := fun hh => by
  have h2 := hh.1.1
  have := nodesB_yes hh.1 (fun x hx => by have := hh.2.range x hx; omega)
  rw [h] at this; cases this

set_option maxHeartbeats 2000000 in
set_option maxRecDepth 100000 in
theorem hasOrder_any (s : Int) (v u : Value) (l : List Ed) (tl : List Int) (w : World) (h : Edges w v l) (hl : l.length ≤ 1048576) (hu : Ints w u tl) (htl : tl.length ≤ 1048576) :
    Calls Try.prog 54 #[.agg #[.int .i64 s, v], u] w fun e w' => e = .returned (.bool (okG (P2.Good s l ∧ EachS s.toNat tl))) ∧ Below w.heap.size w w' := by
  obtain ⟨A, c, rfl, -⟩ := h.form
  obtain ⟨A2, c2, rfl, hc2⟩ := hu.form
  have H := Lib.hid h
  have HU := Lib.hid hu
  have HC := Lib.hid hc2
  have hmm := @run_makeMap Try.prog
  have b0 : Below w.heap.size w (w.alloc (.cells #[.int .i64 s, .slice A l.length c] 29)) := (Below.refl _ _).alloc (Nat.le_refl _) _
  have g0 := Blk.new w 29 #[.int .i64 s, .slice A l.length c]
  have HN := Lib.hid (hasNodes_any s (.slice A l.length c) (.slice A2 tl.length c2) l tl _ (h.below b0) hl (hu.below b0) htl)
  clear h hu hc2
  by_cases hlen : (tl.length : Int) = s
  · have dl : ((tl.length : Int) != s) = false := by simp [hlen]
    cases hnd : nodesB s l tl with
    | true =>
      rw [hnd] at HN
      obtain ⟨hg, hr⟩ := nodesB_iff.1 hnd
      obtain ⟨n, rfl⟩ : ∃ n : Nat, s = (n : Int) := ⟨s.toNat, by have := hg.1; omega⟩
      have hn8 : n ≤ 8 := by have := hg.2.1; omega
      have hln : tl.length = n := by omega
      have HV : Hid (okG (P2.Good (n : Int) l ∧ EachS (n : Int).toNat tl) = ((dst tl).length == n)) := by
        show _ = _
        rw [Bool.eq_iff_iff, okG_iff, beq_iff_eq, Int.toNat_natCast]
        exact ⟨fun h => (each_dst hln hr).1 h.2, fun h => ⟨hg, (each_dst hln hr).2 h⟩⟩
      rw [HV.out]
      have HR := Lib.hid hr
      have hlt8 : tl.length ≤ 8 := by omega
      have HTK : Hid (tl.take tl.length = tl) := List.take_length
      clear hg hr hnd hlen hln
      go_enter Try.func54, Try.ntmps54
      obtain ⟨p0, p1, -, -⟩ := g0.two
      go_wp2_with fail
      refine HN.out.mono ?_
      rintro e w1 ⟨rfl, b1⟩
      have e1 := btrans b0 b1
      have g1 := g0.below b1 g0.lt
      have M1 := World.ownsMap_made (H := Unit) w1 Try.prog 3 (plainElem Try.prog 4)
      have hz1 := e1.size
      have g2 := g1.alloc (.map #[] 0)
      have hs1 := g1.lt
      have e2 : Below w.heap.size w (w1.alloc (.map #[] 0)) := e1.alloc hz1 _
      clear p0 p1 b0 b1 g0 g1
      go_wp2_with fail
      go_loopg [22] tl.length (fun g i wr => ∃ (k : Nat) (D : DataW Unit), k + g = tl.length ∧ i = .int .i64 (k : Int) ∧ wr.ownsMap Try.prog 3 (plainElem Try.prog 4) w1.heap.size k D ∧ MapI D (tl.take k) ∧ Blk wr w.heap.size 29 #[.int .i64 (n : Int), .slice A l.length c] ∧ Below w.heap.size w wr)
      case atStart => exact ⟨0, .map [], by omega, rfl, M1, by simpa using mapI_nil, g2, e2⟩
      case round =>
        clear M1 g2 e2
        obtain ⟨k, D, hkg, rfl, hown, hD, hgb, hB⟩ := hrel
        obtain ⟨p0, p1, -, -⟩ := hgb.two
        cases gk with
        | zero =>
          obtain rfl : k = tl.length := by omega
          rw [HTK.out] at hD
          have hln := hown.len Try.underlying107
          rw [hD.2.2] at hln
          have hdn : (((dst tl).length : Int) == (n : Int)) = ((dst tl).length == n) := by
            rw [Bool.eq_iff_iff, beq_iff_eq, beq_iff_eq]; omega
          have HDN := Lib.hid hdn
          clear hdn hD hown
          go_wp2_with fail
          go_ret
          exact ⟨ret_bool HDN.out, hB⟩
        | succ g3 =>
          have hlt : k < tl.length := by omega
          have hlt' : (k : Int) < (tl.length : Int) := by omega
          obtain ⟨x, hx⟩ : ∃ x, tl[k]? = some x := ⟨_, List.getElem?_eq_getElem hlt⟩
          obtain ⟨g, o, rfl, c0⟩ := HC.out k x hx
          have q0 := cell_keep c0 hB
          have hx0 := HR.out x (List.mem_of_getElem? hx)
          have hi64 : In64 x := by unfold In64; omega
          have HD := Lib.hid (hD.put hx hi64)
          have HK := Lib.hid (ikey hi64)
          have HG := Lib.hid hgb
          have hsz := hgb.lt
          have HBB := Lib.hid hB
          clear hx c0 hD hi64 hgb p0 p1 hB hx0
          go_wp2_with (at_mapUpdate; refine wpList_mapUpdate_own _ rfl _ _ _ 107 rfl 3 4 lawI Try.underlying107 _ w1.heap.size k _ rfl hown (by unfold maxLen; omega) _ _ _ rfl rfl HK.out _ [] (plainElem_bool Try.underlying4 true) ?_; intro w3 hown1 hgrow1)
          have hg3 := Lib.hid (HG.out.grown hgrow1 (by simp; omega))
          have hB3 : Below w.heap.size w w3 := HBB.out.grown hgrow1 HBB.out.size (fun j e => by simp at e; omega)
          clear hgrow1 q0
          go_roundg g3
          case measure => omega
          case rel => exact ⟨k + 1, _, by omega, by go_num, hown1, HD.out, hg3.out, hB3⟩
    | false =>
      rw [hnd] at HN
      have HNO := Lib.hid (okG_no (notEach_nodes hnd))
      clear hnd hlen
      go_enter Try.func54, Try.ntmps54
      obtain ⟨p0, p1, -, -⟩ := g0.two
      go_wp2_with fail
      refine HN.out.mono ?_
      rintro e w1 ⟨rfl, b1⟩
      have e1 := btrans b0 b1
      go_wp2_with fail
      go_ret
      exact ⟨ret_bool HNO.out.symm, e1⟩
  · have dl : ((tl.length : Int) != s) = true := by simp [hlen]
    have HNO := Lib.hid (okG_no (notEach_len (l := l) hlen))
    clear hlen HN
    go_enter Try.func54, Try.ntmps54
    obtain ⟨p0, p1, -, -⟩ := g0.two
    go_wp2_with fail
    go_ret
    exact ⟨ret_bool HNO.out.symm, b0⟩

set_option maxHeartbeats 1000000 in
theorem l2Each_any (n : Nat) (v u : Value) (l : List Ed) (tl : List Int) (w : World) (h : Edges w v l) (hu : Ints w u tl) (htl : tl.length ≤ 1048576) (hn8 : n ≤ 8) :
    Calls Try.prog 106 #[.agg #[.int .i64 (n : Int), v], u] w fun e w' => e = .returned (.bool (okG (EachS n tl))) ∧ Below w.heap.size w w' := by
  obtain ⟨A, c, rfl, -⟩ := h.form
  obtain ⟨A2, c2, rfl, -⟩ := hu.form
  have HU := Lib.hid hu
  have b0 : Below w.heap.size w (w.alloc (.cells #[.int .i64 (n : Int), .slice A l.length c] 29)) := (Below.refl _ _).alloc (Nat.le_refl _) _
  have g0 := Blk.new w 29 #[.int .i64 (n : Int), .slice A l.length c]
  have HH := Lib.hid (fun (x : Int) => l1Has_any _ tl x _ (hu.below b0) htl)
  clear h hu
  obtain ⟨p0, p1, -, -⟩ := g0.two
  go_enter Try.func106, Try.ntmps106
  go_wp2_with fail
  go_loop [5] (fun i => ∃ k : Nat, k ≤ n ∧ i = .int .i64 (k : Int) ∧ Hid (∀ j : Nat, j < k → (j : Int) ∈ tl)) (fun i => n - (intOf i).toNat)
  case atStart => exact ⟨0, by omega, rfl, fun j h => by omega⟩
  case round =>
    obtain ⟨k, hk, rfl, hin⟩ := hrel
    by_cases hlt : k < n
    · have hlt' : (k : Int) < (n : Int) := by omega
      have HHk := Lib.hid (HH.out (k : Int))
      by_cases hm : (k : Int) ∈ tl
      · have HK : Hid (∀ j : Nat, j < k + 1 → (j : Int) ∈ tl) := fun j hj => by
          by_cases e : j = k
          · subst e; exact hm
          · exact hin.out j (by omega)
        rw [show decide ((k : Int) ∈ tl) = true from decide_eq_true hm] at HHk
        clear hm
        go_wp2_with fail
        refine HHk.out.mono ?_
        rintro e w2 ⟨rfl, rfl⟩
        go_wp2_with fail
        go_round
        case rel => exact ⟨k + 1, by omega, by go_num, HK⟩
        case measure => simp [intOf]; omega
      · have HN : Hid (okG (EachS n tl) = false) := okG_no (fun h => hm (h.2 k hlt))
        rw [show decide ((k : Int) ∈ tl) = false from decide_eq_false hm] at HHk
        clear hm
        go_wp2_with fail
        refine HHk.out.mono ?_
        rintro e w2 ⟨rfl, rfl⟩
        go_wp2_with fail
        go_ret
        exact ⟨ret_bool HN.out.symm, b0⟩
    · have HV : Hid (((tl.length : Int) == (n : Int)) = okG (EachS n tl)) := by
        show _ = _
        rw [Bool.eq_iff_iff, beq_iff_eq, okG_iff]
        exact ⟨fun h => ⟨by omega, fun j hj => hin.out j (by omega)⟩, fun h => by have := h.1; omega⟩
      go_wp2_with fail
      go_ret
      exact ⟨ret_bool HV.out, b0⟩
end Go.Proofs.Ytphlpipbhaiijaa.each

/- Bags and widths of eliminations: plain mathematics. -/
namespace Go.Proofs.Ytphlpipbhaiijaa.bags
open Go.RowKit P2 words edges ints fns sets covs reach each
set_option linter.unusedVariables false

theorem fold_len : ∀ (xs L : List Int), (xs.foldl addD L).length ≤ L.length + xs.length
  | [], L => by simp
  | x :: xs, L => by
    rw [List.foldl_cons]
    have h1 := fold_len xs (addD L x)
    have h2 : (addD L x).length ≤ L.length + 1 := by unfold addD; split <;> simp
    simp only [List.length_cons]
    omega
theorem EachS.fresh {n : Nat} {tl : List Int} (h : EachS n tl) {k : Nat} {x : Int} (hx : tl[k]? = some x) : x ∉ tl.take k := fun hm => by
  have h1 := (each_dst h.1 h.range).1 h
  have hk := (List.getElem?_eq_some_iff.1 hx).1
  have h2 : dst (tl.take (k + 1)) = dst (tl.take k) := by rw [dst_succ hx]; unfold addD; rw [if_pos (mem_dst.2 hm)]
  have h3 : dst tl = (tl.drop (k + 1)).foldl addD (dst (tl.take (k + 1))) := by
    unfold dst
    rw [← List.foldl_append, List.take_append_drop]
  have h4 := fold_len (tl.drop (k + 1)) (dst (tl.take (k + 1)))
  rw [← h3, h2, List.length_drop] at h4
  have h5 := dst_len (tl.take k)
  rw [List.length_take] at h5
  have := h.1
  omega
theorem goneB_fresh {n : Nat} {tl : List Int} (h : EachS n tl) {k m : Nat} (hx : tl[k]? = some (m : Int)) : goneB (tl.take k) m = false := decide_eq_false (EachS.fresh h hx)
theorem goneB_succ {tl : List Int} {k m : Nat} (hx : tl[k]? = some (m : Int)) : goneB (tl.take (k + 1)) = pput (goneB (tl.take k)) m := by
  funext z
  unfold goneB pput
  rw [List.take_add_one, hx, Bool.eq_iff_iff, decide_eq_true_iff, Bool.or_eq_true, decide_eq_true_iff, decide_eq_true_iff]
  simp only [Option.toList, List.mem_append, List.mem_singleton]
  constructor
  · rintro (h1 | h1)
    · exact .inl h1
    · exact .inr (by omega)
  · rintro (h1 | h1)
    · exact .inl h1
    · exact .inr (by omega)
/-- the bag of a place -/
noncomputable def bagT (n : Nat) (l : List Ed) (tl : List Int) (i : Nat) : List Int := nw (bagB n l (goneB (tl.take i)) (tl.getD i 0).toNat) n
noncomputable def laterT (n : Nat) (l : List Ed) (tl : List Int) (i : Nat) : List Int := nw (laterB n l (goneB (tl.take i)) (tl.getD i 0).toNat) n
theorem getD_at {tl : List Int} {i m : Nat} (h : tl[i]? = some (m : Int)) : (tl.getD i 0).toNat = m := by rw [List.getD_eq_getElem?_getD, h]; simp
noncomputable def bagsK (n : Nat) (l : List Ed) (tl : List Int) (k : Nat) : List (List Int) := (List.range k).map (bagT n l tl)
theorem bagsK_len (n : Nat) (l : List Ed) (tl : List Int) (k : Nat) : (bagsK n l tl k).length = k := by simp [bagsK]
theorem bagsK_at {n : Nat} {l : List Ed} {tl : List Int} {k i : Nat} (h : i < k) : (bagsK n l tl k)[i]? = some (bagT n l tl i) := by simp [bagsK, h]
noncomputable def bagsR (n : Nat) (l : List Ed) (tl : List Int) (k : Nat) : List (List Int) := bagsK n l tl k ++ List.replicate (n - k) []
theorem bagsR_zero (n : Nat) (l : List Ed) (tl : List Int) : bagsR n l tl 0 = List.replicate n [] := by simp [bagsR, bagsK]
theorem bagsR_len (n : Nat) (l : List Ed) (tl : List Int) {k : Nat} (h : k ≤ n) : (bagsR n l tl k).length = n := by simp [bagsR, bagsK_len]; omega
theorem bagsR_all (n : Nat) (l : List Ed) (tl : List Int) : bagsR n l tl n = bagsK n l tl n := by simp [bagsR]
theorem bagsR_succ (n : Nat) (l : List Ed) (tl : List Int) {k : Nat} (h : k < n) : (bagsR n l tl k).set k (bagT n l tl k) = bagsR n l tl (k + 1) := by
  unfold bagsR
  obtain ⟨m, hm⟩ : ∃ m, n - k = m + 1 := ⟨n - k - 1, by omega⟩
  rw [List.set_append, if_neg (by rw [bagsK_len]; omega), bagsK_len, Nat.sub_self, hm, List.replicate_succ, List.set_cons_zero, show n - (k + 1) = m from by omega]
  unfold bagsK
  rw [List.range_succ, List.map_append, List.append_assoc]
  rfl
theorem bagT_len {n : Nat} {l : List Ed} {tl : List Int} {i m : Nat} (h : tl[i]? = some (m : Int)) (hm : m < n) : (bagT n l tl i).length = (laterT n l tl i).length + 1 := by
  unfold bagT laterT
  rw [getD_at h]
  exact bag_len hm
/-- the width by the first k places -/
noncomputable def widK (n : Nat) (l : List Ed) (tl : List Int) : Nat → Int
  | 0 => -1
  | k + 1 => max (widK n l tl k) ((laterT n l tl k).length : Int)
theorem widK_le (n : Nat) (l : List Ed) (tl : List Int) : ∀ k, -1 ≤ widK n l tl k ∧ widK n l tl k ≤ n
  | 0 => by unfold widK; omega
  | k + 1 => by
    have ih := widK_le n l tl k
    have : (laterT n l tl k).length ≤ n := nw_len _ _
    unfold widK
    omega
def ElimOk (s : Int) (l : List Ed) (tl : List Int) : Prop := P2.Good s l ∧ EachS s.toNat tl
end Go.Proofs.Ytphlpipbhaiijaa.bags

/- Slices of slices of integers: what a function returns that may fail; a row stored, rows made. -/
namespace Go.Proofs.Ytphlpipbhaiijaa.grid
open Go.RowKit P2 words edges ints owns rets
set_option linter.unusedVariables false

noncomputable def gdG (p : Prop) (rows : List (List Int)) : List (List Int) := if okG p = true then rows else []
theorem gdG_yes {p : Prop} (h : p) (l : List (List Int)) : gdG p l = l := by unfold gdG; rw [okG_yes h]; rfl
theorem gdG_no {p : Prop} (h : ¬ p) (l : List (List Int)) : gdG p l = [] := by unfold gdG; rw [okG_no h]; rfl
/-- rows and true where p holds, or none and false -/
def RetGr (w : World) (p : Prop) (rows : List (List Int)) (e : Ending) (w' : World) : Prop :=
  ∃ A c us, e = .returned (.tuple #[.slice A (gdG p rows).length c, .bool (okG p)]) ∧ OwnG w' w.heap.size (.slice A (gdG p rows).length c) us (gdG p rows) ∧ Below w.heap.size w w'
theorem RetGr.yes {w w' : World} {p : Prop} {rows : List (List Int)} {A : Option Addr} {c : Nat} {us : List Value} (hp : p) (ho : OwnG w' w.heap.size (.slice A rows.length c) us rows) (hb : Below w.heap.size w w') :
    RetGr w p rows (.returned (.tuple #[.slice A rows.length c, .bool true])) w' := by
  refine ⟨A, c, us, ?_, ?_, hb⟩
  · rw [gdG_yes hp, okG_yes hp]
  · rw [gdG_yes hp]; exact ho
theorem RetGr.no {w w' : World} {p : Prop} {rows : List (List Int)} {A : Option Addr} {c : Nat} (hp : ¬ p) (ho : w'.ownsRow w.heap.size 25 1 (.slice A 0 c) 0 []) (hb : Below w.heap.size w w') :
    RetGr w p rows (.returned (.tuple #[.slice A 0 c, .bool false])) w' := by
  refine ⟨A, c, [], ?_, ?_, hb⟩
  · rw [gdG_no hp, okG_no hp]; rfl
  · rw [gdG_no hp]
    exact ⟨ho, fun i u r hu => by simp at hu, fun i j u u' k _ hu => by simp at hu⟩
theorem RetGr.nil {w w' : World} {p : Prop} {rows : List (List Int)} (hp : ¬ p) (hb : Below w.heap.size w w') : RetGr w p rows (.returned (.tuple #[.slice none 0 0, .bool false])) w' :=
  RetGr.no hp (World.ownsRow_nil _ _ _ _) hb
theorem RetGr.congr {w w' : World} {p q : Prop} {rows rows' : List (List Int)} {e : Ending} (h : RetGr w p rows e w') (hp : p ↔ q) (hr : p → rows = rows') : RetGr w q rows' e w' := by
  have hpq : p = q := propext hp
  subst hpq
  by_cases h1 : p
  · rw [← hr h1]; exact h
  · obtain ⟨A, c, us, h2, h3, h4⟩ := h
    rw [gdG_no h1] at h2 h3
    exact ⟨A, c, us, by rw [gdG_no h1]; exact h2, by rw [gdG_no h1]; exact h3, h4⟩
section
variable {w w' : World} {B : Nat} {us : List Value} {rows : List (List Int)}
/-- a row stored into its place -/
theorem OwnG.store {g c k : Nat} {u : Value} {r : List Int} (h : OwnG w B (.slice (some ⟨g, 0, none⟩) rows.length c) us rows) (hk : k < rows.length) (hu : w.ownsRow B 3 1 u r.length (cellsI r))
    (hne : ∀ i x b, i ≠ k → us[i]? = some x → x.ownBlock = some b → u.ownBlock ≠ some b) : OwnG (w.setCell ⟨g, k, none⟩ u) B (.slice (some ⟨g, 0, none⟩) rows.length c) (us.set k u) (rows.set k r) := by
  have hl := h.len
  have hgr := gset (World.grownBy.refl w (some g)) k u
  have keep : ∀ {x : Value} {q : List Int}, w.ownsRow B 3 1 x q.length (cellsI q) → (w.setCell ⟨g, k, none⟩ u).ownsRow B 3 1 x q.length (cellsI q) := fun {x q} ho => by
    refine ho.kept hgr ?_
    cases hx : x.ownBlock with
    | none => exact .inl rfl
    | some b => exact .inr fun e => own_apart ho h.1 tneI b hx (by simp [Value.ownBlock]; cases e; rfl)
  refine ⟨?_, ?_, ?_⟩
  · rw [List.length_set]
    have := (h.1.stored k u).1
    simpa using this
  · intro i x q hx hq
    by_cases e : i = k
    · subst e
      rw [List.getElem?_set_self (by omega)] at hx
      rw [List.getElem?_set_self hk] at hq
      cases hx; cases hq
      exact keep hu
    · rw [List.getElem?_set_ne (fun hh => e hh.symm)] at hx hq
      exact keep (h.2.1 i x q hx hq)
  · intro i j x x' b hij hx hx' hb
    by_cases e : i = k
    · subst e
      rw [List.getElem?_set_self (by omega)] at hx
      cases hx
      rw [List.getElem?_set_ne (by omega)] at hx'
      intro hb'
      exact hne j x' b (by omega) hx' hb' hb
    · rw [List.getElem?_set_ne (fun hh => e hh.symm)] at hx
      by_cases e2 : j = k
      · subst e2
        rw [List.getElem?_set_self (by omega)] at hx'
        cases hx'
        exact hne i x b e hx hb
      · rw [List.getElem?_set_ne (fun hh => e2 hh.symm)] at hx'
        exact h.2.2 i j x x' b hij hx hx' hb
/-- a row made since is apart from all others -/
theorem OwnG.fresh {w0 : World} {v u : Value} {r : List Int} (h : OwnG w0 B v us rows) (hu : w.ownsRow w0.heap.size 3 1 u r.length (cellsI r)) : ∀ (i : Nat) x b, us[i]? = some x → x.ownBlock = some b → u.ownBlock ≠ some b := fun i x b hx hb hb' => by
  obtain ⟨q, hq⟩ : ∃ q, rows[i]? = some q := ⟨_, List.getElem?_eq_getElem (by have := (List.getElem?_eq_some_iff.1 hx).1; have := h.len; omega)⟩
  have h1 := ((h.2.1 i x q hx hq).lt b hb).2
  have h2 := (hu.lt b hb').1
  omega
/-- rows without numbers, just made -/
theorem OwnG.made (w : World) (n : Nat) (hn : n ≤ maxLen) : OwnG (w.alloc (.cells (madeCells #[.slice none 0 0] (n * 1)) 25)) w.heap.size (.slice (some ⟨w.heap.size, 0, none⟩) n n) (List.replicate n (.slice none 0 0)) (List.replicate n []) := by
  have hm : (madeCells #[Value.slice none 0 0] (n * 1)).toList = List.replicate n (.slice none 0 0) := by rw [toList_madeCells_one]; simp
  refine ⟨?_, ?_, ?_⟩
  · have hown := World.ownsRow_lit (base := w.heap.size) (e := 25) (size := 1) w (madeCells #[Value.slice none 0 0] (n * 1)) n (Nat.le_refl _) hn (size_madeCells _ _)
    rw [hm] at hown
    rw [List.length_replicate]
    exact hown
  · intro i x q hx hq
    have h1 : x = .slice none 0 0 := (List.mem_replicate.1 (List.mem_of_getElem? hx)).2
    have h2 : q = [] := (List.mem_replicate.1 (List.mem_of_getElem? hq)).2
    subst h1; subst h2
    exact World.ownsRow_nil _ _ _ _
  · intro i j x x' b hij hx hx' hb
    have h1 : x = .slice none 0 0 := (List.mem_replicate.1 (List.mem_of_getElem? hx)).2
    subst h1
    simp [Value.ownBlock] at hb
end
end Go.Proofs.Ytphlpipbhaiijaa.grid
