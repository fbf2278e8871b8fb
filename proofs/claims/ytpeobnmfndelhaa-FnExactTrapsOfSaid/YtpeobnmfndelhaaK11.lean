/- The contracts of the program's closedAround, connectedIn and bagOf. -/
import Derived.Handy
import Derived.Test.YtpeobnmfndelhaaK10
import Derived.Laws.BitsAllLaws
import Derived.StillTailTactics
import Derived.Test.YtpeobnmfndelhaaK02
import Derived.Test.YtpeobnmfndelhaaK03
import Derived.Test.YtpeobnmfndelhaaK01
import Derived.Laws.CopyOwn
import Derived.Deep.RegionLaw
import Derived.Test.YtpeobnmfndelhaaK04
namespace Go.Proofs.Ytpeobnmfndelhaa.bitsI
open Go.RowKit P2 words edges ints good adjs fns sets rets covs bags
set_option linter.unusedVariables false

theorem andNot_num (a : Nat) (p : Nat → Bool) (n : Nat) (ha : a < 18446744073709551616) (hn : n ≤ 8) (q : Nat → Bool) (hq : ∀ z, z < 64 → (a.testBit z && !(decide (z < n) && p z)) = (decide (z < n) && q z)) :
    bits .andNot .u64 (a : Int) (numOf p n : Int) = (numOf q n : Int) := by
  have hb := numOf_lt p hn
  rw [u64_andNot_nat a _ ha (by omega)]
  congr 1
  apply Nat.eq_of_testBit_eq
  intro i
  rw [Nat.testBit_and, show (18446744073709551615 - numOf p n) = 2 ^ 64 - (numOf p n + 1) from by omega, Nat.testBit_two_pow_sub_succ (by omega), numOf_bit, numOf_bit]
  by_cases hi : i < 64
  · rw [← hq i hi]; simp [hi]
  · have h1 : decide (i < 64) = false := decide_eq_false hi
    have h2 : decide (i < n) = false := decide_eq_false (by omega)
    rw [h1, h2]; simp
theorem num_one {n x : Nat} (hx : x < n) : numOf (fun y => decide (y = x)) n = 2 ^ x := by
  apply Nat.eq_of_testBit_eq
  intro i
  rw [numOf_bit, Nat.testBit_two_pow]
  by_cases e : i = x
  · subst e; simp [hx]
  · have h9 : ¬ x = i := fun h => e h.symm
    simp [e, h9]
theorem num_or_one (p : Nat → Bool) {n x : Nat} (hx : x < n) : numOf p n ||| 2 ^ x = numOf (reach.pput p x) n := by
  apply Nat.eq_of_testBit_eq
  intro i
  rw [Nat.testBit_or, numOf_bit, numOf_bit, Nat.testBit_two_pow]
  unfold reach.pput
  by_cases e : i = x
  · subst e; simp [hx]
  · have h9 : ¬ x = i := fun h => e h.symm
    simp [e, h9]
set_option maxHeartbeats 1000000 in
set_option maxRecDepth 100000 in
theorem closedAround_any (n c : Nat) (v : Value) (l : List Ed) (w : World) (h : Nums w v (clos l n)) (hg : P2.Good (n : Int) l) (hn : n ≤ 8) (hc : c < 256) :
    Calls Try.prog 148 #[v, .int .u64 (c : Int)] w fun e w' => e = .returned (.int .u64 (arN l n c : Int)) ∧ w = w' := by
  obtain ⟨A, cc, rfl, hcl⟩ := h.form
  have HC := Lib.hid hcl
  have HG := Lib.hid hg
  have hlen := clos_len l n
  rw [hlen]
  clear h hcl hg hlen
  go_enter Try.func148, Try.ntmps148
  go_wp2_with fail
  go_loop [5, 10] (fun s i => ∃ k : Nat, k ≤ n ∧ i = .int .i64 (k : Int) ∧ s = .int .u64 (arK l c k : Int)) (fun _ i => n - (intOf i).toNat)
  case atStart => exact ⟨0, Nat.zero_le _, rfl, rfl⟩
  case round =>
    obtain ⟨k, hk, rfl, rfl⟩ := hrel
    by_cases hlt : k < n
    · have hlt' : (k : Int) < (n : Int) := by omega
      obtain ⟨g, o, rfl, c0⟩ := HC.out k _ (clos_at hlt)
      have HH := Lib.hid (fun (W : World) => has_any c k W (by omega) (by omega))
      cases hb : c.testBit k with
      | true =>
        have HN := Lib.hid (arK_yes (l := l) hb)
        have HT : Hid (bits .or .u64 (arK l c k : Int) (cloB l k : Int) = ((arK l c k ||| cloB l k : Nat) : Int)) :=
          bits_or_u64_nat _ _ (by have := arK_lt HG.out c (k := k) (by omega); omega) (by have := cloB_lt' HG.out k (by omega); omega)
        rw [hb] at HH
        clear hb
        go_wp2_with fail
        refine (HH.out _).mono ?_
        rintro e w' ⟨rfl, rfl⟩
        go_wp2_with fail
        go_round
        case rel => exact ⟨k + 1, by omega, by go_num, by rw [HN.out, HT.out]⟩
        case measure => simp [intOf]; omega
      | false =>
        have HN := Lib.hid (arK_no (l := l) hb)
        rw [hb] at HH
        clear hb
        go_wp2_with fail
        refine (HH.out _).mono ?_
        rintro e w' ⟨rfl, rfl⟩
        go_wp2_with fail
        go_round
        case rel => exact ⟨k + 1, by omega, by go_num, by rw [HN.out]⟩
        case measure => simp [intOf]; omega
    · obtain rfl : k = n := by omega
      have HE := Lib.hid (arK_all HG.out c)
      go_wp2_with fail
      go_ret
      exact ⟨ret_int (by rw [HE.out]), rfl⟩
set_option maxHeartbeats 1000000 in
set_option maxRecDepth 100000 in
theorem connectedIn_any (n : Nat) (q P : Nat → Bool) (v : Value) (l : List Ed) (w : World) (h : Nums w v (clos l n)) (hg : P2.Good (n : Int) l) (hn : n ≤ 8) (hP : ∀ z, z < n → P z = true → q z = true) :
    Calls Try.prog 149 #[v, .int .u64 (numOf q n : Int), .int .u64 (numOf P n : Int)] w fun e w' => e = .returned (.int .u64 (numOf (connB n (J2 l) q P) n : Int)) ∧ w = w' := by
  have HA := Lib.hid (fun p => closedAround_any n (numOf p n) v l w h hg hn (numOf_lt p hn))
  have H0 : Hid (Conn n l q P P) := Conn.first hP
  have hq := numOf_lt q hn
  clear h hg hP
  go_enter Try.func149, Try.ntmps149
  go_wp2_with fail
  go_loopg [2] n (fun g s wr => ∃ p, s = .int .u64 (numOf p n : Int) ∧ Hid (Conn n l q P p) ∧ n ≤ (nw p n).length + g ∧ wr = w)
  case atStart => exact ⟨P, rfl, H0, by omega, rfl⟩
  case round =>
    clear H0
    obtain ⟨p, rfl, hcn, hmeas, rfl⟩ := hrel
    have hand : bits .and .u64 ((arN l n (numOf p n) : Nat) : Int) ((numOf q n : Nat) : Int) = ((numOf (mored l n q p) n : Nat) : Int) := by
      have h1 : arN l n (numOf p n) < 256 := numOf_lt _ hn
      rw [bits_and_u64_nat _ _ (by omega) (by omega)]
      unfold arN
      rw [num_and]; rfl
    have HAP := Lib.hid (HA.out p)
    by_cases he : numOf (mored l n q p) n = numOf p n
    · have HE := Lib.hid (hcn.out.done he)
      have d0 : (numOf (mored l n q p) n == numOf p n) = true := by simpa using he
      have d1 : (((numOf (mored l n q p) n : Nat) : Int) == ((numOf p n : Nat) : Int)) = true := by rw [he]; simp
      have HEE := Lib.hid he
      clear he hcn
      generalize arN l n (numOf p n) = a at *
      generalize numOf (mored l n q p) n = m at *
      go_wp2_with fail
      refine HAP.out.mono ?_
      rintro e w' ⟨rfl, rfl⟩
      go_wp2_with fail
      go_ret
      exact ⟨ret_int (by rw [HEE.out, HE.out]), rfl⟩
    · have hgr := hcn.out.grow he
      have HN := Lib.hid hcn.out.next
      have hle := nw_len (mored l n q p) n
      obtain ⟨g2, rfl⟩ : ∃ g2, gk = g2 + 1 := ⟨gk - 1, by omega⟩
      have HM : Hid (n ≤ (nw (mored l n q p) n).length + g2) := by show _ ≤ _; omega
      have d0 : (numOf (mored l n q p) n == numOf p n) = false := by simpa using he
      have d1 : (((numOf (mored l n q p) n : Nat) : Int) == ((numOf p n : Nat) : Int)) = false := by
        have : ¬ ((numOf (mored l n q p) n : Nat) : Int) = ((numOf p n : Nat) : Int) := by omega
        simpa using this
      clear he hcn hgr hle hmeas
      generalize arN l n (numOf p n) = a at *
      generalize hmm : numOf (mored l n q p) n = m at *
      have HMM := Lib.hid hmm
      clear hmm
      go_wp2_with fail
      refine HAP.out.mono ?_
      rintro e w' ⟨rfl, rfl⟩
      go_wp2_with fail
      go_roundg g2
      case measure => omega
      case rel => exact ⟨mored l n q p, by rw [HMM.out], HN, HM.out, rfl⟩
set_option maxHeartbeats 1000000 in
set_option maxRecDepth 100000 in
theorem bagOf_any (n x : Nat) (G : Nat → Bool) (v : Value) (l : List Ed) (w : World) (h : Nums w v (clos l n)) (hg : P2.Good (n : Int) l) (hn : n ≤ 8) (hx : x < n) (hG : G x = false) :
    Calls Try.prog 101 #[v, .int .u64 (numOf G n : Int), .int .i64 (x : Int)] w fun e w' => e = .returned (.int .u64 (numOf (bagB n l G x) n : Int)) ∧ ∃ m, w' = w.drewN m := by
  have HX := Lib.hid (fun (W : World) (hW : Nums W v (clos l n)) => connectedIn_any n (reach.pput G x) (fun y => decide (y = x)) v l W hW hg hn (fun z _ hz => by unfold reach.pput; simp [of_decide_eq_true hz]))
  have HY := Lib.hid (fun (W : World) (hW : Nums W v (clos l n)) => closedAround_any n (numOf (connB n (J2 l) (reach.pput G x) (fun y => decide (y = x))) n) v l W hW hg hn (numOf_lt _ hn))
  have HD := Lib.hid (fun (m : Nat) => (show Nums (w.drewN m) v (clos l n) from h))
  have hGl := numOf_lt G hn
  have hpw : IntKind.u64.wrap ((2 : Int) ^ x) = ((numOf (fun y => decide (y = x)) n : Nat) : Int) := by rw [num_one hx]; exact wrap_pow (by omega)
  have hor : bits .or .u64 ((numOf G n : Nat) : Int) ((numOf (fun y => decide (y = x)) n : Nat) : Int) = ((numOf (reach.pput G x) n : Nat) : Int) := by
    have h1 := numOf_lt (fun y => decide (y = x)) hn
    rw [bits_or_u64_nat _ _ (by omega) (by omega), num_one hx, num_or_one G hx]
  have hno : bits .andNot .u64 ((arN l n (numOf (connB n (J2 l) (reach.pput G x) (fun y => decide (y = x))) n) : Nat) : Int) ((numOf G n : Nat) : Int) = ((numOf (bagB n l G x) n : Nat) : Int) := by
    have h1 : arN l n (numOf (connB n (J2 l) (reach.pput G x) (fun y => decide (y = x))) n) < 256 := numOf_lt _ hn
    refine andNot_num _ G n (by omega) hn _ fun z _ => ?_
    unfold arN
    rw [numOf_bit]
    by_cases hz : z < n
    · have := bag_is (l := l) hx hG hz
      rw [← this]; simp [hz]
    · simp [hz]
  clear h hG hg
  generalize arN l n (numOf (connB n (J2 l) (reach.pput G x) (fun y => decide (y = x))) n) = a at *
  generalize numOf (connB n (J2 l) (reach.pput G x) (fun y => decide (y = x))) n = b at *
  generalize numOf (fun y => decide (y = x)) n = c at *
  generalize numOf (reach.pput G x) n = d at *
  generalize numOf (bagB n l G x) n = f at *
  generalize numOf G n = gg at *
  go_enter Try.func101, Try.ntmps101
  go_wp2_with fail
  go_quiet (first | (go_at_call 149; exact quiet_left (HX.out _ (HD.out _))) | (go_at_call 148; exact quiet_left (HY.out _ (HD.out _))))
  go_wp2_with fail
  go_ret
  exact ⟨rfl, _, rfl⟩
end Go.Proofs.Ytpeobnmfndelhaa.bitsI

/- The contract of the program's closedBits. -/
namespace Go.Proofs.Ytpeobnmfndelhaa.bitsI
open Go.RowKit P2 words edges ints good adjs fns sets rets covs
set_option linter.unusedVariables false

theorem infoU : (Try.prog.info? 71).map (fun i => (i.zero, i.size, i.bytes)) = some (some (.int .u64 0), 1, 8) := by kernel_rfl
theorem tneU : (71 : TypeId) ≠ 30 := by decide
theorem tneU2 : (71 : TypeId) ≠ 115 := by decide
/-- the first k powers, then noughts -/
def pws (n k : Nat) : List Nat := (List.range k).map (2 ^ ·) ++ List.replicate (n - k) 0
theorem pws_len {n k : Nat} (h : k ≤ n) : (pws n k).length = n := by simp [pws]; omega
theorem pws_set {n k : Nat} (h : k < n) : (pws n k).set k (2 ^ k) = pws n (k + 1) := by
  unfold pws
  rw [show n - k = (n - (k + 1)) + 1 from by omega, List.replicate_succ, List.set_append_right _ _ (by simp), List.length_map, List.length_range, Nat.sub_self, List.set_cons_zero, List.range_succ, List.map_append, List.append_assoc]
  rfl
/-- the neighborhoods by the first k edges -/
def closT (l : List Ed) (n k : Nat) : List Nat := (List.range n).map (cloB (l.take k))
theorem closT_len (l : List Ed) (n k : Nat) : (closT l n k).length = n := by simp [closT]
theorem closT_at {l : List Ed} {n k j : Nat} (h : j < n) : (closT l n k)[j]? = some (cloB (l.take k) j) := by simp [closT, h]
theorem closT_all (l : List Ed) (n : Nat) : closT l n l.length = clos l n := by simp [closT, clos]
theorem pws_all (l : List Ed) (n : Nat) : pws n n = closT l n 0 := by
  unfold pws closT
  rw [Nat.sub_self, List.replicate_zero, List.append_nil, List.take_zero]
  rfl
theorem closT_succ {l : List Ed} {n k p q : Nat} (h : l[k]? = some ((p : Int), (q : Int))) (hpq : p < q) (hq : q < n) :
    ((closT l n k).set p (cloB (l.take k) p ||| 2 ^ q)).set q (cloB (l.take k) q ||| 2 ^ p) = closT l n (k + 1) := by
  apply List.ext_getElem?
  intro j
  by_cases hj : j < n
  · rw [closT_at hj, cloB_succ h]
    have e : joinB (cloB (List.take k l) j) ((p : Int), (q : Int)) j = if p = j then cloB (l.take k) j ||| 2 ^ q else if q = j then cloB (l.take k) j ||| 2 ^ p else cloB (l.take k) j := by
      unfold joinB
      simp only [Int.ofNat_inj, Int.toNat_natCast]
    rw [e, List.getElem?_set]
    by_cases h2 : q = j
    · subst h2
      rw [if_pos rfl, if_pos (by rw [List.length_set, closT_len]; exact hj), if_neg (by omega), if_pos rfl]
    · rw [if_neg h2, List.getElem?_set]
      by_cases h1 : p = j
      · subst h1
        rw [if_pos rfl, if_pos (by rw [closT_len]; exact hj), if_pos rfl]
      · rw [if_neg h1, if_neg h1, if_neg h2, closT_at hj]
  · rw [List.getElem?_eq_none (by rw [List.length_set, List.length_set, closT_len]; omega), List.getElem?_eq_none (by rw [closT_len]; omega)]

set_option maxHeartbeats 4000000 in
set_option maxRecDepth 100000 in
theorem closedBits_own (n : Nat) (v : Value) (l : List Ed) (w : World) (h : Edges w v l) (hl : l.length ≤ 1048576) (hg : P2.Good n l) (hn : n ≤ 8) :
    Calls Try.prog 55 #[.agg #[.int .i64 (n : Int), v]] w fun e w' => ∃ A c, e = .returned (.slice A n c) ∧ w'.ownsRow w.heap.size 71 1 (.slice A n c) n (cellsU (clos l n)) ∧ Below w.heap.size w w' := by
  obtain ⟨A, c, rfl, hc⟩ := h.form
  obtain ⟨i0, hi, hz0, hz1, hz2⟩ := info_parts infoU
  have HC := Lib.hid hc
  have HG := Lib.hid hg
  have HLEN := Lib.hid (clos_len l n)
  have HALL := Lib.hid (closT_all l n)
  have HP := Lib.hid (pws_all l n)
  have hmk := fun (W : World) => run_make_rowN (P := Try.prog) 65 71 i0 (.int .u64 0) Try.underlying65 hi hz0 .i64 .i64 n n (Nat.le_refl _) (by rw [hz2]; omega) (by omega) W
  have hown := World.ownsRow_lit (base := w.heap.size + 1) (e := 71) (size := 1) (w.alloc (.cells #[.int .i64 (n : Int), .slice A l.length c] 30)) (madeCells #[Value.int .u64 0] (n * 1)) n (by simp) (by unfold maxLen; omega) (size_madeCells _ _)
  rw [toList_madeCells_one, Nat.mul_one, show List.replicate n (Value.int .u64 0) = cellsU (pws n 0) from by simp [pws, cellsU], World.size_alloc] at hown
  have HOWN := Lib.hid hown
  have b0 : Below w.heap.size w ((w.alloc (.cells #[.int .i64 (n : Int), .slice A l.length c] 30)).alloc (.cells (madeCells #[Value.int .u64 0] n) 71)) := ((Below.refl _ _).alloc (Nat.le_refl _) _).alloc (by simp) _
  have g0 := (Blk.new w 30 #[.int .i64 (n : Int), .slice A l.length c]).alloc (.cells (madeCells #[Value.int .u64 0] n) 71)
  clear h hc hg hown
  go_enter Try.func55, Try.ntmps55
  obtain ⟨p0, p1, -, -⟩ := (Blk.new w 30 #[.int .i64 (n : Int), .slice A l.length c]).two
  go_wp2_with fail
  clear p0 p1
  go_loopg [12] n (fun g i wr => ∃ k : Nat, k + g = n ∧ i = .int .i64 (k : Int) ∧ wr.ownsRow (w.heap.size + 1) 71 1 (.slice (some ⟨w.heap.size + 1, 0, none⟩) n n) n (cellsU (pws n k)) ∧ Blk wr w.heap.size 30 #[.int .i64 (n : Int), .slice A l.length c] ∧ Below w.heap.size w wr)
  case atStart => exact ⟨0, by omega, rfl, HOWN.out, g0, b0⟩
  case round =>
    obtain ⟨k, hkg, rfl, hrow, hgb, hB⟩ := hrel
    obtain ⟨p0, p1, -, -⟩ := hgb.two
    cases gk with
    | succ g2 =>
      have hlt : k < n := by omega
      have hlt' : (k : Int) < (n : Int) := by omega
      have hll := pws_len (n := n) (k := k) (by omega)
      obtain ⟨u, hu⟩ : ∃ u, (pws n k)[k]? = some u := ⟨_, List.getElem?_eq_getElem (by omega)⟩
      have f0 := hrow.cellAt k (by omega)
      rw [cellsU_at hu] at f0
      have z0 := hrow.frozenAt k
      have hw := wrap_pow (m := k) (by omega)
      have hst := (hrow.stored k (.int .u64 ((2 ^ k : Nat) : Int))).1
      rw [cellsU_set, pws_set hlt] at hst
      generalize 2 ^ k = z at *
      have HST := Lib.hid hst
      have HG2 := Lib.hid (hgb.far (p := ⟨w.heap.size + 1, k, none⟩) (by simp) (.int .u64 (z : Int)))
      have HB2 := Lib.hid (hB.setCell (p := ⟨w.heap.size + 1, k, none⟩) (by simp) (.int .u64 (z : Int)))
      clear hst hu hrow hB hgb hll
      go_wp2_with fail
      go_roundg g2
      case measure => omega
      case rel => exact ⟨k + 1, by omega, by go_num, HST.out, HG2.out, HB2.out⟩
    | zero =>
      obtain rfl : k = n := by omega
      rw [HP.out] at hrow
      have HR := Lib.hid hrow
      have HGB := Lib.hid hgb
      have HBB := Lib.hid hB
      clear hrow hB hgb
      go_wp2_with fail
      clear p0 p1
      go_loopg [24] l.length (fun g i wr => ∃ j : Nat, j + g = l.length ∧ i = .int .i64 (j : Int) ∧ wr.ownsRow (w.heap.size + 1) 71 1 (.slice (some ⟨w.heap.size + 1, 0, none⟩) k k) k (cellsU (closT l k j)) ∧ Below w.heap.size w wr)
      case atStart => exact ⟨0, by omega, rfl, HR.out, HBB.out⟩
      case round =>
        clear HR HGB HBB
        obtain ⟨j, hjg, rfl, hrow, hB⟩ := hrel
        cases gk with
        | zero =>
          obtain rfl : j = l.length := by omega
          rw [HALL.out] at hrow
          have HR := Lib.hid hrow
          clear hrow
          go_wp2_with fail
          go_ret
          exact ⟨_, _, rfl, own_base HR.out (by omega), hB⟩
        | succ g2 =>
          have hlt : j < l.length := by omega
          have hlt' : (j : Int) < (l.length : Int) := by omega
          obtain ⟨x, hx⟩ : ∃ x, l[j]? = some x := ⟨_, List.getElem?_eq_getElem hlt⟩
          have hm := HG.out.mem (List.mem_of_getElem? hx)
          obtain ⟨g, o, rfl, c0, c1⟩ := HC.out j x hx
          obtain ⟨x1, x2⟩ := x
          simp only at hm c0 c1
          obtain ⟨p, rfl⟩ : ∃ p : Nat, x1 = (p : Int) := ⟨x1.toNat, by omega⟩
          obtain ⟨q, rfl⟩ : ∃ q : Nat, x2 = (q : Int) := ⟨x2.toNat, by omega⟩
          have hp : p < k := by omega
          have hq : q < k := by omega
          have hpq : p < q := by omega
          have hp' : (p : Int) < (k : Int) := by omega
          have hq' : (q : Int) < (k : Int) := by omega
          have hp8 : p ≤ 8 := by omega
          have hq8 : q ≤ 8 := by omega
          have q0 := cell_keep c0 hB
          have q1 := cell_keep c1 hB
          have hsz := hB.size
          have HS := Lib.hid (closT_succ hx hpq hq)
          have hor1 := or_walk (cloB (l.take j) p) q (cloB_lt HG.out j p (by omega)) hq8
          have hor2 := or_walk (cloB (l.take j) q) p (cloB_lt HG.out j q (by omega)) hp8
          have R1 := hrow.alloc (.cells #[.int .i64 (p : Int), .int .i64 (q : Int)] 115)
          have G1 := Blk.new wr 115 #[.int .i64 (p : Int), .int .i64 (q : Int)]
          have B1 : Below w.heap.size w (wr.alloc (.cells #[.int .i64 (p : Int), .int .i64 (q : Int)] 115)) := hB.alloc hsz _
          have hne : wr.heap.size ≠ w.heap.size + 1 := by have := (hrow.lt (w.heap.size + 1) rfl).2; omega
          have hsb : ((closT l k j).set p (cloB (l.take j) p ||| 2 ^ q))[q]? = some (cloB (l.take j) q) := by rw [List.getElem?_set, if_neg (by omega)]; exact closT_at hq
          have hsa : (closT l k j)[p]? = some (cloB (l.take j) p) := closT_at hp
          have HN := Lib.hid hne
          have HSA := Lib.hid hsa
          have HSB := Lib.hid hsb
          clear hx c0 c1 hsb hsa hrow hB hne hm
          generalize cloB (l.take j) p ||| 2 ^ q = y1 at *
          generalize cloB (l.take j) q ||| 2 ^ p = y2 at *
          generalize cloB (l.take j) p = y3 at *
          generalize cloB (l.take j) q = y4 at *
          have HR1 := Lib.hid R1
          have HG1 := Lib.hid G1
          have HB1 := Lib.hid B1
          clear R1 G1 B1
          go_wp2_with fail
          generalize wr.alloc (.cells #[.int .i64 (p : Int), .int .i64 (q : Int)] 115) = W1 at *
          obtain ⟨m0, m1, -, -⟩ := HG1.out.two
          have ca := HR1.out.cellAt p (by omega)
          rw [cellsU_at HSA.out] at ca
          go_still_tail 10, (by kernel_rfl)
          change wpList _ _ _ _ _ W1.drew
          have HR2 := Lib.hid (own_below HR1.out (Below.refl _ _).drew)
          have HG2 := Lib.hid (HG1.out.drewN 1)
          have HB2 : Hid (Below w.heap.size w W1.drew) := HB1.out.drew
          have HG2 : Hid (Blk W1.drew wr.heap.size 115 #[.int .i64 (p : Int), .int .i64 (q : Int)]) := HG1.out.drewN 1
          clear ca m0 m1
          generalize W1.drew = W2 at *
          have ca := HR2.out.cellAt p (by omega)
          rw [cellsU_at HSA.out] at ca
          have za := HR2.out.frozenAt p
          go_wp2_with fail
          have HR3 := Lib.hid (HR2.out.stored p (.int .u64 (y1 : Int))).1
          have HG3 := Lib.hid (HG2.out.far (p := ⟨w.heap.size + 1, p, none⟩) HN.out (.int .u64 (y1 : Int)))
          have HB3 := Lib.hid (HB2.out.setCell (p := ⟨w.heap.size + 1, p, none⟩) (by simp) (.int .u64 (y1 : Int)))
          clear ca za
          generalize W2.setCell ⟨w.heap.size + 1, p, none⟩ (.int .u64 (y1 : Int)) = W3 at *
          obtain ⟨m0, m1, -, -⟩ := HG3.out.two
          have cb := HR3.out.cellAt q (by omega)
          rw [cellsU_set, cellsU_at HSB.out] at cb
          go_still_tail 10, (by kernel_rfl)
          change wpList _ _ _ _ _ W3.drew
          have HR4 := Lib.hid (own_below HR3.out (Below.refl _ _).drew)
          have HB4 : Hid (Below w.heap.size w W3.drew) := HB3.out.drew
          clear cb m0 m1
          generalize W3.drew = W4 at *
          have cb := HR4.out.cellAt q (by omega)
          rw [cellsU_set, cellsU_at HSB.out] at cb
          have zb := HR4.out.frozenAt q
          have HB5 := Lib.hid (HB4.out.setCell (p := ⟨w.heap.size + 1, q, none⟩) (by simp) (.int .u64 (y2 : Int)))
          have hr5 := (HR4.out.stored q (.int .u64 (y2 : Int))).1
          rw [cellsU_set, cellsU_set, HS.out] at hr5
          have HR5 := Lib.hid hr5
          clear hr5
          go_wp2_with fail
          clear cb zb
          go_roundg g2
          case measure => omega
          case rel => exact ⟨j + 1, by omega, by go_num, HR5.out, HB5.out⟩
theorem closedBits_any (n : Nat) (v : Value) (l : List Ed) (w : World) (h : Edges w v l) (hl : l.length ≤ 1048576) (hg : P2.Good n l) (hn : n ≤ 8) :
    Calls Try.prog 55 #[.agg #[.int .i64 (n : Int), v]] w fun e w' => ∃ A c, e = .returned (.slice A (clos l n).length c) ∧ Nums w' (.slice A (clos l n).length c) (clos l n) ∧ Below w.heap.size w w' :=
  (closedBits_own n v l w h hl hg hn).mono fun _ _ ⟨A, c, h1, h2, h3⟩ => by
    have h4 := clos_len l n
    have h5 := Reads.of_own h2
    refine ⟨A, c, by rw [h4]; exact h1, ?_, h3⟩
    unfold Nums
    rw [h4]
    exact h5
end Go.Proofs.Ytpeobnmfndelhaa.bitsI

/- The contracts of the program's lostBehind and extend: one round of a game. -/
namespace Go.Proofs.Ytpeobnmfndelhaa.times
open Go.RowKit P2 words edges ints good adjs fns sets rets covs bitsI bags gridr mids
set_option linter.unusedVariables false

theorem blk4 {w : World} {g : Nat} {t : TypeId} {a b c d : Value} (h : Blk w g t #[a, b, c, d]) :
    w.cell? ⟨g, 0, none⟩ = some a ∧ w.cell? ⟨g, 1, none⟩ = some b ∧ w.cell? ⟨g, 2, none⟩ = some c ∧ w.cell? ⟨g, 3, none⟩ = some d := ⟨h.cell 0, h.cell 1, h.cell 2, h.cell 3⟩
/-- a game as the program has it -/
structure ChaseR (w : World) (G : Game) (l : List Ed) (ml : List (List Int)) (cv tv mv : Value) (us : List Value) : Prop where
  good : P2.Good (G.n : Int) l
  ball : G.ball = ballB l
  moves : MovesOf G ml
  small : G.P ≤ 200
  short : ∀ mvs ∈ ml, mvs.length ≤ 200
  some : 0 < G.P → 0 < G.n
  closed : Nums w cv (clos l G.n)
  taken : Nums w tv (codesL G.P G.n G.tk)
  lists : ReadsG w mv us ml
theorem ChaseR.n8 {w : World} {G : Game} {l : List Ed} {ml : List (List Int)} {cv tv mv : Value} {us : List Value} (h : ChaseR w G l ml cv tv mv us) : G.n ≤ 8 := by have := h.good.2.1; omega
theorem ChaseR.below {w w' : World} {G : Game} {l : List Ed} {ml : List (List Int)} {cv tv mv : Value} {us : List Value} (h : ChaseR w G l ml cv tv mv us) (hb : Below w.heap.size w w') : ChaseR w' G l ml cv tv mv us :=
  { h with closed := h.closed.below hb, taken := h.taken.below hb, lists := h.lists.below hb }
/-- the nodes ahead of k, and those of the cops -/
def lostTo (G : Game) (W : Nat → Nat → Bool) (q k r : Nat) : Bool := G.tk q r || (decide (r < k) && (List.range G.n).all fun x => !G.ball r x || W q x)
theorem lostTo_zero (G : Game) (W : Nat → Nat → Bool) (q : Nat) : lostTo G W q 0 = G.tk q := by funext r; simp [lostTo]
theorem lostTo_all {G : Game} {W : Nat → Nat → Bool} {q : Nat} : numOf (lostTo G W q G.n) G.n = numOf (lostOf G W q) G.n := num_ext fun z hz => by unfold lostTo lostOf; rw [decide_eq_true hz, Bool.true_and]
theorem lostTo_yes {G : Game} {W : Nat → Nat → Bool} {q k : Nat} (hk : k < G.n) (h : ((List.range G.n).all fun x => !G.ball k x || W q x) = true) : numOf (lostTo G W q k) G.n ||| 2 ^ k = numOf (lostTo G W q (k + 1)) G.n := by
  rw [num_or_one _ hk]
  refine num_ext fun z hz => ?_
  unfold reach.pput lostTo
  by_cases e : z = k
  · subst e
    rw [h]; simp
  · rw [show decide (z < k + 1) = decide (z < k) from by rw [decide_eq_decide]; omega]
    simp [e]
theorem lostTo_no {G : Game} {W : Nat → Nat → Bool} {q k : Nat} (h : ((List.range G.n).all fun x => !G.ball k x || W q x) = false) : numOf (lostTo G W q (k + 1)) G.n = numOf (lostTo G W q k) G.n := num_ext fun z hz => by
  unfold lostTo
  by_cases e : z = k
  · subst e
    rw [h]; simp
  · rw [show decide (z < k + 1) = decide (z < k) from by rw [decide_eq_decide]; omega]
theorem flee_is {G : Game} {l : List Ed} (hg : P2.Good (G.n : Int) l) (hb : G.ball = ballB l) {W : Nat → Bool} {k : Nat} (hk : k < G.n) : decide (cloB l k &&& numOf W G.n = cloB l k) = (List.range G.n).all fun x => !G.ball k x || W x := by
  rw [Bool.eq_iff_iff, decide_eq_true_iff, sub_iff, List.all_eq_true]
  constructor
  · intro h x hx
    have hxn := List.mem_range.1 hx
    cases hbx : G.ball k x with
    | false => rfl
    | true =>
      have := h x (by rw [cloB_bit hg]; rw [hb] at hbx; exact hbx)
      rw [numOf_bit] at this
      simpa [hxn] using this
  · intro h z hz
    rw [cloB_bit hg] at hz
    have hzn : z < G.n := by
      rcases Bool.or_eq_true_iff.1 hz with h1 | h1
      · have : k = z := by simpa using h1
        omega
      · have := (adj_node hg h1).2; omega
    have := h z (List.mem_range.2 hzn)
    rw [hb, show ballB l k z = true from hz] at this
    rw [numOf_bit]
    simpa [hzn] using this

set_option maxHeartbeats 2000000 in
set_option maxRecDepth 100000 in
theorem lostBehind_any (G : Game) (W : Nat → Nat → Bool) (q : Nat) (l : List Ed) (ml : List (List Int)) (cv tv mv xv : Value) (us : List Value) (w : World) (h : ChaseR w G l ml cv tv mv us) (hq : q < G.P) :
    Calls Try.prog 162 #[.agg #[cv, tv, mv, xv], .int .i64 (q : Int), .int .u64 (numOf (W q) G.n : Int)] w fun e w' => e = .returned (.int .u64 (numOf (lostOf G W q) G.n : Int)) ∧ Below w.heap.size w w' := by
  have hn := h.n8
  have HGD := Lib.hid h.good
  have HBL := Lib.hid h.ball
  obtain ⟨Ac, cc, rfl, hcc⟩ := h.closed.form
  obtain ⟨At, ct, rfl, hct⟩ := h.taken.form
  rw [clos_len l G.n, codesL_len G.P G.n G.tk]
  have b0 : Below w.heap.size w (w.alloc (.cells #[.slice Ac G.n cc, .slice At G.P ct, mv, xv] 80)) := (Below.refl _ _).alloc (Nat.le_refl _) _
  have HB0 := Lib.hid b0
  obtain ⟨gt, ot, rfl, t0⟩ := hct q _ (codesL_at hq)
  have q0 := nearv.cell_keep t0 b0
  have g0 := Blk.new w 80 #[.slice Ac G.n cc, .slice (some ⟨gt, ot, none⟩) G.P ct, mv, xv]
  obtain ⟨p0, p1, -, -⟩ := blk4 g0
  have HC := Lib.hid hcc
  have hqi : (q : Int) < (G.P : Int) := by omega
  have hq0 : (0 : Int) ≤ (q : Int) := by omega
  have HZ : Hid (numOf (lostTo G W q 0) G.n = numOf (G.tk q) G.n) := by show _ = _; rw [lostTo_zero]
  have HALL := Lib.hid (lostTo_all (G := G) (W := W) (q := q))
  clear h hcc hct t0 b0 g0
  go_enter Try.func162, Try.ntmps162
  go_wp2_with fail
  go_loopg [7, 18] G.n (fun g s i wr => ∃ k : Nat, k + g = G.n ∧ i = .int .i64 (k : Int) ∧ s = .int .u64 ((numOf (lostTo G W q k) G.n : Nat) : Int) ∧ wr = w.alloc (.cells #[.slice Ac G.n cc, .slice (some ⟨gt, ot, none⟩) G.P ct, mv, xv] 80))
  case atStart => exact ⟨0, by omega, rfl, by rw [HZ.out], rfl⟩
  case round =>
    clear HZ p0 p1 q0
    obtain ⟨k, hkg, rfl, rfl, rfl⟩ := hrel
    cases gk with
    | zero =>
      obtain rfl : k = G.n := by omega
      go_wp2_with fail
      go_ret
      exact ⟨ret_int (by rw [HALL.out]), HB0.out⟩
    | succ g2 =>
      have hlt : k < G.n := by omega
      have hlt' : (k : Int) < (G.n : Int) := by omega
      obtain ⟨g, o, rfl, c0⟩ := HC.out k _ (clos_at hlt)
      have q0 := nearv.cell_keep c0 HB0.out
      have ha := cloB_lt' HGD.out k (by omega)
      have hw := numOf_lt (W q) hn
      have hfl := flee_is HGD.out HBL.out (W := W q) hlt
      have hnot := bits_andNot0 (cloB l k) (numOf (W q) G.n) (by omega) (by omega)
      rw [hfl] at hnot
      have hsm := numOf_lt (lostTo G W q k) hn
      have HOR := Lib.hid (or_walk (numOf (lostTo G W q k) G.n) k hsm (by omega))
      have HY := Lib.hid (fun h => lostTo_yes (G := G) (W := W) (q := q) hlt h)
      have HN := Lib.hid (fun h => lostTo_no (G := G) (W := W) (q := q) (k := k) h)
      have hk8 : k ≤ 8 := by omega
      clear hfl c0
      cases hall : (List.range G.n).all fun x => !G.ball k x || W q x with
      | true =>
        rw [hall] at hnot
        have HK := Lib.hid (HY.out hall)
        clear hall HY HN
        generalize cloB l k = a at *
        generalize numOf (W q) G.n = b at *
        go_wp2_with fail
        go_roundg g2
        case measure => omega
        case rel => exact ⟨k + 1, by omega, by go_num, by rw [← HK.out, HOR.out], rfl⟩
      | false =>
        rw [hall] at hnot
        have HK := Lib.hid (HN.out hall)
        clear hall HY HN
        generalize cloB l k = a at *
        generalize numOf (W q) G.n = b at *
        go_wp2_with fail
        go_roundg g2
        case measure => omega
        case rel => exact ⟨k + 1, by omega, by go_num, by rw [HK.out], rfl⟩

/-- the table of lost nodes, by its first k places -/
def lostK (G : Game) (W : Nat → Nat → Bool) (k : Nat) : List Nat := codesL G.P G.n fun p => if p < k then lostOf G W p else fun _ => false
theorem lostK_zero (G : Game) (W : Nat → Nat → Bool) : lostK G W 0 = List.replicate G.P 0 := by
  apply List.ext_getElem?
  intro i
  unfold lostK
  by_cases hi : i < G.P
  · rw [codesL_at hi, List.getElem?_replicate, if_pos hi, if_neg (by omega), numOf_zero.2 (fun _ _ => rfl)]
  · rw [List.getElem?_eq_none (by rw [codesL_len]; omega), List.getElem?_eq_none (by simp; omega)]
theorem lostK_len (G : Game) (W : Nat → Nat → Bool) (k : Nat) : (lostK G W k).length = G.P := codesL_len _ _ _
theorem lostK_at {G : Game} {W : Nat → Nat → Bool} {k p : Nat} (hp : p < G.P) : (lostK G W k)[p]? = some (numOf (if p < k then lostOf G W p else fun _ => false) G.n) := codesL_at hp
theorem lostK_set {G : Game} {W : Nat → Nat → Bool} {k : Nat} (hk : k < G.P) : (lostK G W k).set k (numOf (lostOf G W k) G.n) = lostK G W (k + 1) := by
  unfold lostK
  rw [codesL_set hk]
  refine codesL_congr fun p r _ _ => ?_
  by_cases e : p = k
  · subst e; rw [if_pos rfl, if_pos (by omega)]
  · rw [if_neg e]
    by_cases h : p < k
    · rw [if_pos h, if_pos (by omega)]
    · rw [if_neg h, if_neg (by omega)]
/-- the sets of situations won, the first k places with one round more, and i moves of place k -/
def wonK (G : Game) (W V : Nat → Nat → Bool) (k : Nat) (q : Nat → Bool) : List Nat := codesL G.P G.n fun p => if p < k then V p else if p = k then q else W p
theorem wonK_len (G : Game) (W V : Nat → Nat → Bool) (k : Nat) (q : Nat → Bool) : (wonK G W V k q).length = G.P := codesL_len _ _ _
theorem wonK_at {G : Game} {W V : Nat → Nat → Bool} {k : Nat} {q : Nat → Bool} (hk : k < G.P) : (wonK G W V k q)[k]? = some (numOf q G.n) := by
  unfold wonK; rw [codesL_at hk, if_neg (by omega), if_pos rfl]
theorem wonK_set {G : Game} {W V : Nat → Nat → Bool} {k : Nat} {q q' : Nat → Bool} (hk : k < G.P) : (wonK G W V k q).set k (numOf q' G.n) = wonK G W V k q' := by
  unfold wonK
  rw [codesL_set hk]
  refine codesL_congr fun p r _ _ => ?_
  by_cases e : p = k
  · subst e; rw [if_pos rfl, if_neg (by omega), if_pos rfl]
  · rw [if_neg e]
    by_cases h : p < k
    · rw [if_pos h, if_pos h]
    · rw [if_neg h, if_neg h, if_neg e, if_neg e]
theorem wonK_start (G : Game) (W V : Nat → Nat → Bool) : codesL G.P G.n W = wonK G W V 0 (W 0) := by
  unfold wonK
  refine codesL_congr fun p r _ _ => ?_
  rw [if_neg (by omega)]
  by_cases e : p = 0
  · subst e; rw [if_pos rfl]
  · rw [if_neg e]
theorem wonK_next {G : Game} {W V : Nat → Nat → Bool} {k : Nat} {q : Nat → Bool} (h : ∀ r, r < G.n → q r = V k r) : wonK G W V k q = wonK G W V (k + 1) (W (k + 1)) := by
  unfold wonK
  refine codesL_congr fun p r _ hr => ?_
  by_cases e : p = k
  · subst e; rw [if_neg (by omega), if_pos rfl, if_pos (by omega)]; exact h r hr
  · by_cases hp : p < k
    · rw [if_pos hp, if_pos (by omega)]
    · rw [if_neg hp, if_neg e, if_neg (by omega)]
      by_cases e2 : p = k + 1
      · subst e2; rw [if_pos rfl]
      · rw [if_neg e2]
theorem wonK_all (G : Game) (W V : Nat → Nat → Bool) (q : Nat → Bool) : wonK G W V G.P q = codesL G.P G.n V := codesL_congr fun p r hp _ => by rw [if_pos hp]
theorem ownU_far {wr : World} {B O n j : Nat} {v u : Value} {xs : List Value} (h : wr.ownsRow B 71 1 v n xs) (hO : v.ownBlock ≠ some O) : (wr.setCell ⟨O, j, none⟩ u).ownsRow B 71 1 v n xs := by
  have hk : wr.grownBy (wr.setCell ⟨O, j, none⟩ u) (some O) := ⟨rfl, rfl, rfl, by simp [World.setCell], fun k _ hk => Below.heap_setCell _ _ _ _ (fun e => hk (by simp [e]))⟩
  exact h.kept hk (.inr hO)

set_option maxHeartbeats 8000000 in
set_option maxRecDepth 100000 in
theorem extend_any (G : Game) (t B : Nat) (l : List Ed) (ml : List (List Int)) (cv tv mv xv wv : Value) (us : List Value) (w0 w : World) (h : ChaseR w0 G l ml cv tv mv us) (h0 : Below w0.heap.size w0 w) (hB : w0.heap.size ≤ B)
    (hw : w.ownsRow B 71 1 wv G.P (cellsU (codesL G.P G.n (win G t)))) :
    Calls Try.prog 156 #[.agg #[cv, tv, mv, xv], wv] w fun e w' => (∃ v, e = .returned v) ∧ w'.ownsRow B 71 1 wv G.P (cellsU (codesL G.P G.n (win G (t + 1)))) ∧ w.grownBy w' wv.ownBlock := by
  obtain ⟨i0, hi, hz0, hz1, hz2⟩ := info_parts infoU
  have hn := h.n8
  have hP := h.small
  obtain ⟨Am, cm, rfl, -⟩ := h.lists.1
  have hml := h.moves.1
  rw [hml] at h ⊢
  have HH := Lib.hid h
  clear hml
  have hmk := fun (W : World) => run_make_rowN (P := Try.prog) 65 71 i0 (.int .u64 0) Try.underlying65 hi hz0 .i64 .i64 G.P G.P (Nat.le_refl _) (by rw [hz2]; omega) (by omega) W
  obtain ⟨Aw, cw, rfl⟩ := own_form hw
  have hown := World.ownsRow_lit (base := w.heap.size + 1) (e := 71) (size := 1) (w.alloc (.cells #[cv, tv, .slice Am G.P cm, xv] 80)) (madeCells #[Value.int .u64 0] (G.P * 1)) G.P (by simp) (by unfold maxLen; omega) (size_madeCells _ _)
  rw [toList_madeCells_one, Nat.mul_one, show List.replicate G.P (Value.int .u64 0) = cellsU (lostK G (win G t) 0) from by rw [lostK_zero]; simp [cellsU], World.size_alloc] at hown
  have HOWN := Lib.hid hown
  have b0 : Below w.heap.size w ((w.alloc (.cells #[cv, tv, .slice Am G.P cm, xv] 80)).alloc (.cells (madeCells #[Value.int .u64 0] G.P) 71)) := ((Below.refl _ _).alloc (Nat.le_refl _) _).alloc (by simp) _
  have g0 := (Blk.new w 80 #[cv, tv, .slice Am G.P cm, xv]).alloc (.cells (madeCells #[Value.int .u64 0] G.P) 71)
  have HB0 := Lib.hid b0
  have HG0 := Lib.hid g0
  have HW := Lib.hid hw
  have H0 := Lib.hid h0
  clear h hown b0 g0 hw h0
  go_enter Try.func156, Try.ntmps156
  go_wp2_with fail
  clear hmk
  go_loopg [15] G.P (fun g i wr => ∃ k : Nat, k + g = G.P ∧ i = .int .i64 (k : Int) ∧ wr.ownsRow (w.heap.size + 1) 71 1 (.slice (some ⟨w.heap.size + 1, 0, none⟩) G.P G.P) G.P (cellsU (lostK G (win G t) k)) ∧ Blk wr w.heap.size 80 #[cv, tv, .slice Am G.P cm, xv] ∧ Below w.heap.size w wr)
  case atStart => exact ⟨0, by omega, rfl, HOWN.out, HG0.out, HB0.out⟩
  case round =>
    clear HOWN HB0 HG0
    obtain ⟨k, hkg, rfl, hrow, hgb, hBw⟩ := hrel
    cases gk with
    | succ g2 =>
      have hlt : k < G.P := by omega
      have hlt' : (k : Int) < (G.P : Int) := by omega
      have hwr := own_below HW.out hBw
      obtain ⟨gw, capw, hf⟩ : ∃ g cap, Value.slice Aw G.P cw = .slice (some ⟨g, 0, none⟩) G.P cap := by
        rcases hwr.2 with ⟨hf, hz⟩ | ⟨g, cap, cur, hf, _⟩
        · exact absurd hf (by intro hh; simp at hh; omega)
        · exact ⟨g, cap, hf⟩
      obtain ⟨rfl, rfl⟩ : Aw = some ⟨gw, 0, none⟩ ∧ cw = capw := by simpa using hf
      have c0 := hwr.cellAt k (by omega)
      rw [cellsU_at (codesL_at hlt)] at c0
      obtain ⟨p0, p1, p2, p3⟩ := blk4 hgb
      have HLB := Lib.hid (lostBehind_any G (win G t) k l ml cv tv (.slice Am G.P cm) xv us wr.drew (HH.out.below ((H0.out.trans (hBw.mono H0.out.size)).drew)) hlt)
      have HROW := Lib.hid hrow
      have HG := Lib.hid hgb
      have HBW := Lib.hid hBw
      have HS := Lib.hid (lostK_set (W := win G t) hlt)
      clear hwr hf hrow hgb hBw
      go_wp2_with fail
      go_region_with (first
        | (go_at_call 162; (with_reducible refine HLB.out.mono ?_); rintro e w3 ⟨rfl, b3⟩; have d3 : Below wr.heap.size wr w3 := (Below.refl _ _).drew.trans b3; have hr3 := own_below HROW.out d3; have f0 := hr3.cellAt k (by omega); rw [cellsU_at (lostK_at hlt)] at f0; have z0 := hr3.frozenAt k))
      all_goals
        have hst := (hr3.stored k (.int .u64 ((numOf (lostOf G (win G t) k) G.n : Nat) : Int))).1
        rw [cellsU_set, HS.out] at hst
        have HST := Lib.hid hst
        have HG3 := Lib.hid ((HG.out.below d3 HG.out.lt).far (p := ⟨w.heap.size + 1, k, none⟩) (by simp) (.int .u64 ((numOf (lostOf G (win G t) k) G.n : Nat) : Int)))
        have HB3 := Lib.hid ((btrans HBW.out d3).setCell (p := ⟨w.heap.size + 1, k, none⟩) (by simp) (.int .u64 ((numOf (lostOf G (win G t) k) G.n : Nat) : Int)))
        clear hst hr3 f0 z0 b3 d3 c0 p0 p1 p2 p3
        go_wp2_with fail
        go_roundg g2
        case measure => omega
        case rel => exact ⟨k + 1, by omega, by go_num, HST.out, HG3.out, HB3.out⟩
    | zero =>
      obtain rfl : k = G.P := by omega
      have HLO := Lib.hid hrow
      have HGB := Lib.hid hgb
      have HBW := Lib.hid hBw
      have HWR := Lib.hid (own_below HW.out hBw)
      have HWS := Lib.hid (wonK_start G (win G t) (win G (t + 1)))
      clear hrow hgb hBw
      obtain ⟨p0, p1, p2, p3⟩ := blk4 HGB.out
      go_wp2_with fail
      clear p0 p1 p2 p3
      go_loopg [32] G.P (fun g i wr' => ∃ k : Nat, k + g = G.P ∧ i = .int .i64 (k : Int) ∧ wr'.ownsRow (w.heap.size + 1) 71 1 (.slice (some ⟨w.heap.size + 1, 0, none⟩) G.P G.P) G.P (cellsU (lostK G (win G t) G.P)) ∧
        wr'.ownsRow B 71 1 (.slice Aw G.P cw) G.P (cellsU (wonK G (win G t) (win G (t + 1)) k (win G t k))) ∧ w.grownBy wr' (Value.slice Aw G.P cw).ownBlock ∧ Below w0.heap.size w0 wr')
      case atStart => exact ⟨0, by omega, rfl, HLO.out, by rw [← HWS.out]; exact HWR.out, gof HBW.out _, H0.out.trans (HBW.out.mono H0.out.size)⟩
      case round =>
        clear HLO HGB HBW HWR HWS
        obtain ⟨k, hkg, rfl, hlo, hwr, hgr, hB0⟩ := hrel
        cases gk with
        | zero =>
          obtain rfl : k = G.P := by omega
          rw [wonK_all] at hwr
          have HA := Lib.hid hwr
          have HGR := Lib.hid hgr
          clear hlo hwr hgr hB0
          go_wp2_with fail
          exact bodyPost_end (v := .tuple #[]) (by simp [results, Try.results156, go_sem]) rfl ⟨⟨_, rfl⟩, HA.out, HGR.out⟩
        | succ g2 =>
          have hlt : k < G.P := by omega
          have hlt' : (k : Int) < (G.P : Int) := by omega
          obtain ⟨mvs, hmv⟩ : ∃ mvs, ml[k]? = some mvs := ⟨_, List.getElem?_eq_getElem (by rw [HH.out.moves.1]; exact hlt)⟩
          obtain ⟨u, gm, om, hu, rfl, m0, hmr⟩ := (show ReadsG w0 (.slice Am ml.length cm) us ml by rw [HH.out.moves.1]; exact HH.out.lists).row hmv
          obtain ⟨Ar, cr, rfl, -⟩ := hmr.form
          have HMR := Lib.hid hmr
          have q0 := nearv.cell_keep m0 hB0
          have HMV := Lib.hid hmv
          have HRG := Lib.hid (HH.out.moves.2 k mvs hmv).1
          have HN : Hid (wonK G (win G t) (win G (t + 1)) k (moreW G (win G t) mvs mvs.length k) = wonK G (win G t) (win G (t + 1)) (k + 1) (win G t (k + 1))) := wonK_next fun r _ => more_all HH.out.moves hmv
          have HLO := Lib.hid hlo
          have HWR : Hid (wr.ownsRow B 71 1 (.slice Aw G.P cw) G.P (cellsU (wonK G (win G t) (win G (t + 1)) k (moreW G (win G t) mvs 0 k)))) := by
            show World.ownsRow _ _ _ _ _ _ _
            rw [moreW_zero]; exact hwr
          have HGR := Lib.hid hgr
          have HB0 := Lib.hid hB0
          have hml9 : mvs.length ≤ 200 := HH.out.short mvs (List.mem_of_getElem? hmv)
          clear hmv hmr m0 hlo hwr hgr hB0 hu
          go_wp2_with fail
          clear q0
          go_loopg [39] mvs.length (fun g iv wi => ∃ i : Nat, i + g = mvs.length ∧ iv = .int .i64 (i : Int) ∧ wi.ownsRow (w.heap.size + 1) 71 1 (.slice (some ⟨w.heap.size + 1, 0, none⟩) G.P G.P) G.P (cellsU (lostK G (win G t) G.P)) ∧
            wi.ownsRow B 71 1 (.slice Aw G.P cw) G.P (cellsU (wonK G (win G t) (win G (t + 1)) k (moreW G (win G t) mvs i k))) ∧ w.grownBy wi (Value.slice Aw G.P cw).ownBlock ∧ Below w0.heap.size w0 wi)
          case atStart => exact ⟨0, by omega, rfl, HLO.out, HWR.out, HGR.out, HB0.out⟩
          case round =>
            clear HLO HWR HGR HB0
            obtain ⟨i, hig, rfl, hlo, hwr, hgr, hB0⟩ := hrel
            cases gk with
            | zero =>
              obtain rfl : i = mvs.length := by omega
              rw [HN.out] at hwr
              have HLO := Lib.hid hlo
              have HWR := Lib.hid hwr
              have HGR := Lib.hid hgr
              have HB0 := Lib.hid hB0
              clear hlo hwr hgr hB0
              go_wp2_with fail
              go_roundg g2
              case measure => omega
              case rel => exact ⟨k + 1, by omega, by go_num, HLO.out, HWR.out, HGR.out, HB0.out⟩
            | succ g4 =>
              have hit : (i : Int) < (mvs.length : Int) := by omega
              obtain ⟨q, hq⟩ : ∃ q, mvs[i]? = some q := ⟨_, List.getElem?_eq_getElem (by omega)⟩
              have hqr := HRG.out q (List.mem_of_getElem? hq)
              have HMS := Lib.hid (moreW_succ (G := G) (W := win G t) (p := k) hq G.n)
              obtain ⟨m, rfl⟩ : ∃ m : Nat, q = (m : Int) := ⟨q.toNat, by omega⟩
              rw [Int.toNat_natCast] at HMS
              obtain ⟨_, _, hf, hcc⟩ := (show Ints wr (.slice Ar mvs.length cr) mvs from HMR.out.below hB0).form
              cases hf
              obtain ⟨gr, gx, rfl, q1⟩ := hcc i _ hq
              have hmP : m < G.P := by omega
              obtain ⟨gw, capw, hf⟩ : ∃ g cap, Value.slice Aw G.P cw = .slice (some ⟨g, 0, none⟩) G.P cap := by
                rcases hwr.2 with ⟨hf, hz⟩ | ⟨g, cap, cur, hf, _⟩
                · exact absurd hf (by intro hh; simp at hh; omega)
                · exact ⟨g, cap, hf⟩
              obtain ⟨rfl, rfl⟩ : Aw = some ⟨gw, 0, none⟩ ∧ cw = capw := by simpa using hf
              have hgw := HW.out.lt gw rfl
              have c0 := hwr.cellAt k (by omega)
              rw [cellsU_at (wonK_at hlt)] at c0
              have c1 := hlo.cellAt m (by omega)
              rw [cellsU_at (lostK_at hmP), if_pos hmP] at c1
              have HB4 : Hid (Below w0.heap.size w0 wr.drew) := hB0.drew
              have HL4 : Hid (wr.drew.ownsRow (w.heap.size + 1) 71 1 (.slice (some ⟨w.heap.size + 1, 0, none⟩) G.P G.P) G.P (cellsU (lostK G (win G t) G.P))) := own_below hlo (Below.refl _ _).drew
              have HW4 : Hid (wr.drew.ownsRow B 71 1 (.slice (some ⟨gw, 0, none⟩) G.P cw) G.P (cellsU (wonK G (win G t) (win G (t + 1)) k (moreW G (win G t) mvs i k)))) := own_below hwr (Below.refl _ _).drew
              have HG4 : Hid (w.grownBy wr.drew (some gw)) := gtrans hgr (gof (Below.refl _ _).drew _)
              have HOR : Hid (bits .or .u64 ((numOf (moreW G (win G t) mvs i k) G.n : Nat) : Int) ((numOf (lostOf G (win G t) m) G.n : Nat) : Int) = ((numOf (moreW G (win G t) mvs (i + 1) k) G.n : Nat) : Int)) := by
                show _ = _
                have h1 := numOf_lt (moreW G (win G t) mvs i k) hn
                have h2 := numOf_lt (lostOf G (win G t) m) hn
                rw [bits_or_u64_nat _ _ (by omega) (by omega), HMS.out]
              have hor := HOR.out
              have hkk : (k : Int) < (G.P : Int) := hlt'
              have hmm : (m : Int) < (G.P : Int) := by omega
              clear hlo hwr hgr hB0 hq hcc hf HMS HOR
              generalize numOf (moreW G (win G t) mvs i k) G.n = a at *
              generalize numOf (lostOf G (win G t) m) G.n = b at *
              go_wp2_with fail
              go_still_tail 10, (by kernel_rfl)
              change wpList _ _ _ _ _ wr.drew
              clear c0 c1 q1
              generalize wr.drew = w4 at *
              have c0 := HW4.out.cellAt k (by omega)
              rw [cellsU_at (wonK_at hlt)] at c0
              have z0 := HW4.out.frozenAt k
              have hst := (HW4.out.stored k (.int .u64 ((numOf (moreW G (win G t) mvs (i + 1) k) G.n : Nat) : Int))).1
              rw [cellsU_set, wonK_set hlt] at hst
              have HST := Lib.hid hst
              have HL5 := Lib.hid (ownU_far (O := gw) (j := k) (u := .int .u64 ((numOf (moreW G (win G t) mvs (i + 1) k) G.n : Nat) : Int)) HL4.out (by intro hh; simp [Value.ownBlock] at hh; omega))
              have HG5 := Lib.hid (gset HG4.out k (.int .u64 ((numOf (moreW G (win G t) mvs (i + 1) k) G.n : Nat) : Int)))
              have HB5 := Lib.hid (HB4.out.setCell (p := ⟨gw, k, none⟩) (by show w0.heap.size ≤ gw; omega) (.int .u64 ((numOf (moreW G (win G t) mvs (i + 1) k) G.n : Nat) : Int)))
              clear hst
              go_wp2_with fail
              go_roundg g4
              case measure => omega
              case rel => exact ⟨i + 1, by omega, by go_num, HL5.out, HST.out, HG5.out, HB5.out⟩
end Go.Proofs.Ytpeobnmfndelhaa.times

/- The contract of slices.Repeat of one number. -/
namespace Go.Proofs.Ytpeobnmfndelhaa.reps
open Go.RowKit P2 words ints fns
set_option linter.unusedVariables false

theorem mul64_small (n : Nat) (hn : n ≤ 8) (w : World) :
    Calls Try.prog 164 #[.int .u64 1, .int .u64 (n : Int)] w fun e w' => e = .returned (.tuple #[.int .u64 0, .int .u64 (n : Int)]) ∧ w = w' := by
  have hc : n = 0 ∨ n = 1 ∨ n = 2 ∨ n = 3 ∨ n = 4 ∨ n = 5 ∨ n = 6 ∨ n = 7 ∨ n = 8 := by omega
  rcases hc with rfl | rfl | rfl | rfl | rfl | rfl | rfl | rfl | rfl
  all_goals
    go_enter Try.func164, Try.ntmps164
    go_wp2_with fail
    go_ret2
    exact ⟨rfl, rfl⟩
theorem mul_small (n : Nat) (hn : n ≤ 8) (w : World) :
    Calls Try.prog 159 #[.int .u64 1, .int .u64 (n : Int)] w fun e w' => e = .returned (.tuple #[.int .u64 0, .int .u64 (n : Int)]) ∧ w = w' := by
  have HM := Lib.hid (mul64_small n hn w)
  have h1 : (n : Int) ≤ 8 := by omega
  go_enter Try.func159, Try.ntmps159
  go_wp2_with fail
  refine HM.out.mono ?_
  rintro e w' ⟨rfl, rfl⟩
  go_wp2_with fail
  go_ret2
  exact ⟨rfl, rfl⟩

theorem oneI (l : List Int) : ∀ x ∈ cellsI l, x.oneCell' = true := fun x hx => by
  simp only [cellsI, List.mem_map] at hx
  obtain ⟨e, _, rfl⟩ := hx
  rfl
theorem addr_add (g o j : Nat) : (⟨g, o, none⟩ : Addr).add j = ⟨g, o + j, none⟩ := by unfold Addr.add; split <;> simp_all
/-- k numbers, then noughts -/
def filled (x : Int) (n k : Nat) : List Value := cellsI (List.replicate k x ++ List.replicate (n - k) 0)
theorem filled_len (x : Int) (n k : Nat) (h : k ≤ n) : (filled x n k).length = n := by simp [filled, cellsI]; omega
theorem filled_all (x : Int) (n : Nat) : filled x n n = cellsI (List.replicate n x) := by simp [filled]
theorem filled_splice (x : Int) {n k j : Nat} (h : k + j ≤ n) : splice (filled x n k) k (cellsI (List.replicate j x)) = filled x n (k + j) := by
  unfold filled splice cellsI
  rw [← List.map_take, ← List.map_drop, ← List.map_append, ← List.map_append]
  congr 1
  rw [List.take_append_of_le_length (by simp), List.take_of_length_le (by simp), List.drop_append]
  simp only [List.length_map, List.length_replicate, List.drop_replicate]
  rw [show k - (k + j) = 0 from by omega, List.replicate_zero, List.nil_append, show n - k - (k + j - k) = n - (k + j) from by omega, ← List.append_assoc, List.replicate_append_replicate]
theorem made1 (n : Nat) : (madeCells #[Value.int .i64 0] (n * 1)).toList = filled 0 n 0 := by
  rw [toList_madeCells_one]
  simp [filled, cellsI]

set_option maxHeartbeats 2000000 in
set_option maxRecDepth 100000 in
theorem repeat_any (x : Int) (g0 n : Nat) (w : World) (hn : n ≤ 8) (hn1 : 1 ≤ n) (hx : w.cell? ⟨g0, 0, none⟩ = some (.int .i64 x)) :
    Calls Try.prog 139 #[.slice (some ⟨g0, 0, none⟩) 1 1, .int .i64 (n : Int)] w fun e w' => ∃ A c, e = .returned (.slice A (List.replicate n x).length c) ∧
      w'.ownsRow w.heap.size 3 1 (.slice A (List.replicate n x).length c) (List.replicate n x).length (cellsI (List.replicate n x)) ∧ Below w.heap.size w w' := by
  obtain ⟨i0, hi, hz0, hz1, hz2⟩ := info_parts infoInt
  have HM := Lib.hid (mul_small n hn w)
  have hsz1 : (Try.prog.info? 3).map (·.size) = some 1 := by kernel_rfl
  have h1 : (n : Int) ≤ 8 := by omega
  have h2 : (0 : Int) ≤ (n : Int) := by omega
  have hmk := fun (W : World) => run_make_rowN (P := Try.prog) 25 3 i0 (.int .i64 0) Try.underlying25 hi hz0 .i64 .i64 n n (Nat.le_refl _) (by rw [hz2]; omega) (by omega) W
  go_enter Try.func139, Try.ntmps139
  go_wp2_with fail
  refine HM.out.mono ?_
  rintro e w' ⟨rfl, rfl⟩
  have hlt0 := World.block_lt_of_cell? w (a := ⟨g0, 0, none⟩) hx
  have hB0 : Below w.heap.size w (w.alloc (.cells (madeCells #[.int .i64 0] n) 3)) := (Below.refl _ _).alloc (Nat.le_refl _) _
  have hx1 : (w.alloc (.cells (madeCells #[.int .i64 0] n) 3)).cell? ⟨g0, 0, none⟩ = some (.int .i64 x) := (hB0.cell (p := ⟨g0, 0, none⟩) hlt0).trans hx
  have hG0 : Hid ((w.alloc (.cells (madeCells #[.int .i64 0] n) 3)).heap[w.heap.size]? = some (.cells (filled x n 0).toArray 3 (0, 0))) := by
    have e : (madeCells #[Value.int .i64 0] n) = (filled x n 0).toArray := by
      have := made1 n
      rw [Nat.mul_one] at this
      rw [show filled x n 0 = filled 0 n 0 from by simp [filled], ← this]
    rw [e]; exact Blk.new _ _ _
  have hl0 := filled_len x n 0 (Nat.zero_le _)
  have hS0 : Hid (splice (filled x n 0) 0 [.int .i64 x] = filled x n 1) := by show _ = _; have := filled_splice x (n := n) (k := 0) (j := 1) (by omega); simpa [cellsI] using this
  have HX := Lib.hid hx1
  have HB := Lib.hid hB0
  have HL := Lib.hid hl0
  clear hx hx1 hB0 hl0
  have HSRC : Hid (∀ (j : Nat) (v : Value), [Value.int .i64 x][j]? = some v → (w.alloc (.cells (madeCells #[.int .i64 0] n) 3)).cell? ((⟨g0, 0, none⟩ : Addr).add j) = some v) := fun j v hj => by
    match j, hj with
    | 0, hj =>
      cases hj
      rw [addr_add]
      exact HX.out
  have HFIT : Hid (0 + [Value.int .i64 x].length ≤ (filled x n 0).length) := by show _ ≤ _; rw [HL.out]; exact hn1
  have HMIN : Hid ([Value.int .i64 x].length = Nat.min 1 n) := by show 1 = min 1 n; omega
  go_wp2_with (refine wpList_copy_splice (o := ⟨some 33, _, _, _, _, _⟩) rfl (.tmp 31) (.tmp 32) 25 25 rfl 3 Try.underlying25 hsz1 (some ⟨w.heap.size, 0, none⟩) (some ⟨g0, 0, none⟩) n n 1 1 rfl rfl w.heap.size 0 (filled x n 0) 3 hG0.out [.int .i64 x] HMIN.out (fun _ => ⟨rfl, _, rfl, HSRC.out⟩) HFIT.out (oneI [x]) w.heap.size w HB.out (Nat.le_refl _) ?_; intro w1 hg1 hb1)
  rw [hS0.out] at hg1
  clear hG0 hS0 HX HB HL hmk HSRC HFIT HMIN
  have HG1 : Hid (Blk w1 w.heap.size 3 (filled x n 1).toArray) := hg1
  clear hg1
  go_loopg [8] n (fun g i wr => ∃ k : Nat, 1 ≤ k ∧ k ≤ n ∧ n ≤ k + g ∧ i = .int .i64 (k : Int) ∧ Hid (Blk wr w.heap.size 3 (filled x n k).toArray) ∧ Below w.heap.size w wr)
  case atStart => exact ⟨1, by omega, hn1, by omega, rfl, HG1, hb1⟩
  case round =>
    obtain ⟨k, hk1, hkn, hkg, rfl, hgb, hB⟩ := hrel
    by_cases hlt : k < n
    · have hlt' : (k : Int) < (n : Int) := by omega
      obtain ⟨jj, hjj⟩ : ∃ jj, jj = min k (n - k) := ⟨_, rfl⟩
      obtain ⟨cs, hcs⟩ : ∃ cs, cs = cellsI (List.replicate jj x) := ⟨_, rfl⟩
      have hcl : cs.length = jj := by rw [hcs]; simp [cellsI]
      have HSP : Hid (splice (filled x n k) k cs = filled x n (k + jj)) := by show _ = _; rw [hcs]; exact filled_splice x (by omega)
      have hL : Hid ((filled x n k).length = n) := filled_len x n k hkn
      have HFIT : Hid (k + cs.length ≤ (filled x n k).length) := by show _ ≤ _; rw [hL.out, hcl]; omega
      have HMIN : Hid (cs.length = Nat.min k (n - k)) := by show _ = min k (n - k); rw [hcl, hjj]
      have HSRC : Hid (∀ (j : Nat) (v : Value), cs[j]? = some v → wr.drew.cell? ((⟨w.heap.size, 0, none⟩ : Addr).add j) = some v) := fun j v hj => by
        have hjl := (List.getElem?_eq_some_iff.1 hj).1
        rw [hcl] at hjl
        have hv : v = .int .i64 x := by
          rw [hcs] at hj
          simp [cellsI, List.getElem?_replicate] at hj
          exact hj.2.symm
        subst hv
        rw [addr_add]
        show wr.cell? ⟨w.heap.size, 0 + j, none⟩ = _
        rw [Nat.zero_add, hgb.out.cell j]
        simp [filled, cellsI, List.getElem?_append, show j < k from by omega]
      have HO := Lib.hid (show ∀ y ∈ cs, y.oneCell' = true from by rw [hcs]; exact oneI _)
      have hG : Hid (wr.drew.heap[w.heap.size]? = some (.cells (filled x n k).toArray 3 (0, 0))) := hgb.out
      have hBd := Lib.hid hB.drew
      have hne : (n == k) = false := by simp; omega
      have hne2 : ¬ (n = k) := by omega
      have hj8 : (jj : Int) ≤ 8 := by omega
      have HJ := Lib.hid hjj
      have HCL := Lib.hid hcl
      have HW : Hid (IntKind.i64.wrap ((k : Int) + (cs.length : Int)) = (k : Int) + (cs.length : Int)) := by show _ = _; rw [hcl]; exact IntWalk.i64_in _ (by omega)
      clear hcs hgb hjj hcl
      go_wp2_with fail
      go_region_law (refine step_copy_splice rfl (.tmp 41) (.tmp 44) 25 25 rfl 3 Try.underlying25 hsz1 (some ⟨w.heap.size, k, none⟩) (some ⟨w.heap.size, 0, none⟩) (n - k) (n - k) k n ?_ ?_ w.heap.size k (filled x n k) 3 hG.out cs HMIN.out (fun _ => ⟨rfl, _, rfl, HSRC.out⟩) HFIT.out HO.out w.heap.size w hBd.out (Nat.le_refl _) ?_; (focus go_simp); (focus go_simp); intro w4 hg4 hb4)
      rw [HSP.out] at hg4
      have HG4 : Hid (Blk w4 w.heap.size 3 (filled x n (k + jj)).toArray) := hg4
      have HB4 := Lib.hid hb4
      have hcl8 : (cs.length : Int) ≤ 8 := by rw [HCL.out]; exact hj8
      have HJN := Lib.hid (show k + jj ≤ n ∧ 1 ≤ jj ∧ n ≤ k + gk + 0 from by have := HJ.out; omega)
      clear hg4 hb4 hG hBd HO HSRC HMIN HFIT hL HSP HJ hB
      go_wp2_with fail
      cases gk with
      | zero => omega
      | succ g2 =>
        go_roundg g2
        case measure => omega
        case rel => exact ⟨k + cs.length, by omega, by have := HJN.out; have := HCL.out; omega, by have := HJN.out; have := HCL.out; omega, by first | (rw [HW.out]; go_num) | go_num, by rw [HCL.out]; exact HG4, HB4.out⟩
    · obtain rfl : k = n := by omega
      have HF : Hid ((filled x k k).toArray.toList = cellsI (List.replicate k x)) := by show _ = _; rw [filled_all]
      have HL : Hid ((filled x k k).toArray.size = k) := by show _ = _; simpa using filled_len x k k (Nat.le_refl _)
      have hge : ¬ ((k : Int) < (k : Int)) := by omega
      go_wp2_with fail
      go_ret
      refine ⟨some ⟨w.heap.size, 0, none⟩, k, by simp [go_sem], ⟨by simp [cellsI], .inr ⟨w.heap.size, k, _, by simp, Nat.le_refl _, hgb.out, by simp, by unfold maxLen; omega, by rw [HL.out, Nat.mul_one], ?_⟩⟩, hB⟩
      rw [HF.out, Nat.mul_one]
      exact List.take_of_length_le (by simp [cellsI])
end Go.Proofs.Ytpeobnmfndelhaa.reps

/- The contracts of slices.IndexFunc and slices.ContainsFunc over integers and over pairs, for a function value that tests. -/
namespace Go.Proofs.Ytpeobnmfndelhaa.func
open Go.RowKit P2 words edges ints fns
set_option linter.unusedVariables false

/-- a function value that answers for the elements of a list, in every world that goes on from w -/
structure FnI (w : World) (f : FuncId) (caps : Array Value) (xs : List Int) (p : Int → Bool) : Prop where
  enter : ∀ (args : Array Value) (W : World), (callFunc f args).run Try.prog W = .ok (.enter f args) W
  call : ∀ W, Below w.heap.size w W → ∀ x ∈ xs, Calls Try.prog f (#[.int .i64 x] ++ caps) W fun e W' => e = .returned (.bool (p x)) ∧ Below W.heap.size W W'
structure FnP (w : World) (f : FuncId) (caps : Array Value) (xs : List Ed) (p : Ed → Bool) : Prop where
  enter : ∀ (args : Array Value) (W : World), (callFunc f args).run Try.prog W = .ok (.enter f args) W
  call : ∀ W, Below w.heap.size w W → ∀ x ∈ xs, Calls Try.prog f (#[.agg #[.int .i64 x.1, .int .i64 x.2]] ++ caps) W fun e W' => e = .returned (.bool (p x)) ∧ Below W.heap.size W W'

/-- the place of the first element for which p holds, or -1 -/
def idxF {α : Type} (p : α → Bool) (xs : List α) : Int := match xs.findIdx? p with | some k => (k : Int) | none => -1
theorem idxF_at {α : Type} {p : α → Bool} {xs : List α} {k : Nat} {y : α} (hno : ∀ j z, j < k → xs[j]? = some z → p z = false) (hy : xs[k]? = some y) (hp : p y = true) : idxF p xs = (k : Int) := by
  unfold idxF
  have hk := (List.getElem?_eq_some_iff.1 hy)
  rw [List.findIdx?_eq_some_iff_getElem.2 ⟨hk.1, by rw [hk.2]; exact hp, fun j hj => by have := hno j _ hj (List.getElem?_eq_getElem (Nat.lt_trans hj hk.1)); simp [this]⟩]
theorem idxF_none {α : Type} {p : α → Bool} {xs : List α} (hno : ∀ j z, j < xs.length → xs[j]? = some z → p z = false) : idxF p xs = -1 := by
  unfold idxF
  rw [List.findIdx?_eq_none_iff.2 (fun x hx => by
    obtain ⟨j, hj⟩ := List.getElem?_of_mem hx
    exact hno j x (List.getElem?_eq_some_iff.1 hj).1 hj)]
theorem idxF_any {α : Type} (p : α → Bool) (xs : List α) : decide (0 ≤ idxF p xs) = xs.any p := by
  unfold idxF
  cases h : xs.findIdx? p with
  | none =>
    have := List.findIdx?_eq_none_iff.1 h
    rw [List.any_eq_false.2 (fun x hx => by simp [this x hx])]
    rfl
  | some k =>
    obtain ⟨hk, hp, _⟩ := List.findIdx?_eq_some_iff_getElem.1 h
    rw [List.any_eq_true.2 ⟨_, List.getElem_mem hk, hp⟩]
    simp
theorem no_succ {α : Type} {p : α → Bool} {xs : List α} {k : Nat} {y : α} (h : ∀ j z, j < k → xs[j]? = some z → p z = false) (hy : xs[k]? = some y) (hp : p y = false) : ∀ j z, j < k + 1 → xs[j]? = some z → p z = false := fun j z hj hz => by
  by_cases e : j = k
  · subst e; rw [hy] at hz; cases hz; exact hp
  · exact h j z (by omega) hz

set_option maxHeartbeats 1000000 in
theorem indexFuncI_any (u : Value) (xs : List Int) (f : FuncId) (caps : Array Value) (p : Int → Bool) (w : World) (hu : Ints w u xs) (hxl : xs.length ≤ 1048576) (h : FnI w f caps xs p) :
    Calls Try.prog 107 #[u, .func (.func f) #[] caps] w fun e w' => e = .returned (.int .i64 (idxF p xs)) ∧ Below w.heap.size w w' := by
  obtain ⟨A2, c2, rfl, hc⟩ := hu.form
  have HC := Lib.hid hc
  have hent := h.enter
  have HF := Lib.hid h.call
  clear hu hc h
  go_enter Try.func107, Try.ntmps107
  go_wp2_with fail
  go_loopg [8] xs.length (fun g i wr => ∃ k : Nat, k + g = xs.length ∧ i = .int .i64 (k : Int) ∧ Hid (∀ j y, j < k → xs[j]? = some y → p y = false) ∧ Below w.heap.size w wr)
  case atStart => exact ⟨0, by omega, rfl, fun j e h => by omega, Below.refl _ _⟩
  case round =>
    obtain ⟨k, hkg, rfl, hno, hB⟩ := hrel
    cases gk with
    | zero =>
      obtain rfl : k = xs.length := by omega
      have HN := Lib.hid (idxF_none hno.out)
      go_wp2_with fail
      go_ret
      exact ⟨ret_int (by rw [HN.out]), hB⟩
    | succ g2 =>
      have hlt : k < xs.length := by omega
      have hlt' : (k : Int) < (xs.length : Int) := by omega
      obtain ⟨y, hy⟩ : ∃ y, xs[k]? = some y := ⟨_, List.getElem?_eq_getElem hlt⟩
      obtain ⟨g, o, rfl, c0⟩ := HC.out k y hy
      have q0 := nearv.cell_keep c0 hB
      have HP := Lib.hid (HF.out wr hB y (List.mem_of_getElem? hy))
      clear c0
      cases hp : p y with
      | true =>
        have HN := Lib.hid (idxF_at hno.out hy hp)
        rw [hp] at HP
        clear hy hp
        go_wp2_with fail
        refine HP.out.mono ?_
        rintro e w1 ⟨rfl, b1⟩
        go_wp2_with fail
        go_ret
        exact ⟨ret_int (by rw [HN.out]), btrans hB b1⟩
      | false =>
        have HK := Lib.hid (no_succ hno.out hy hp)
        rw [hp] at HP
        clear hy hp
        go_wp2_with fail
        refine HP.out.mono ?_
        rintro e w1 ⟨rfl, b1⟩
        have hB1 := btrans hB b1
        clear hB b1 q0
        go_wp2_with fail
        go_roundg g2
        case measure => omega
        case rel => exact ⟨k + 1, by omega, by go_num, HK, hB1⟩
theorem containsFuncI_any (u : Value) (xs : List Int) (f : FuncId) (caps : Array Value) (p : Int → Bool) (w : World) (hu : Ints w u xs) (hxl : xs.length ≤ 1048576) (h : FnI w f caps xs p) :
    Calls Try.prog 86 #[u, .func (.func f) #[] caps] w fun e w' => e = .returned (.bool (xs.any p)) ∧ Below w.heap.size w w' := by
  have HI := Lib.hid (indexFuncI_any u xs f caps p w hu hxl h)
  have HD := Lib.hid (idxF_any p xs)
  obtain ⟨A2, c2, rfl, -⟩ := hu.form
  clear hu h
  go_enter Try.func86, Try.ntmps86
  go_wp2_with fail
  refine HI.out.mono ?_
  rintro e w1 ⟨rfl, b1⟩
  go_wp2_with fail
  go_ret
  exact ⟨ret_bool HD.out, b1⟩
end Go.Proofs.Ytpeobnmfndelhaa.func

/- The contracts of slices.Index, slices.Contains over integers, and of slices.IndexFunc, slices.ContainsFunc over slices of integers. -/
namespace Go.Proofs.Ytpeobnmfndelhaa.idx
open Go.RowKit P2 words edges ints fns func gridr
set_option linter.unusedVariables false

def idxE (tl : List Int) (x : Int) : Int := idxF (fun y => y == x) tl
set_option maxHeartbeats 1000000 in
theorem index_any (u : Value) (xs : List Int) (x : Int) (w : World) (hu : Ints w u xs) (hxl : xs.length ≤ 1048576) :
    Calls Try.prog 134 #[u, .int .i64 x] w fun e w' => e = .returned (.int .i64 (idxE xs x)) ∧ w = w' := by
  obtain ⟨A2, c2, rfl, hc⟩ := hu.form
  have HC := Lib.hid hc
  clear hu hc
  go_enter Try.func134, Try.ntmps134
  go_wp2_with fail
  go_loop [8] (fun i => ∃ k : Nat, k ≤ xs.length ∧ i = .int .i64 (k : Int) ∧ Hid (∀ j y, j < k → xs[j]? = some y → (y == x) = false)) (fun i => xs.length - (intOf i).toNat)
  case atStart => exact ⟨0, by omega, rfl, fun j e h => by omega⟩
  case round =>
    obtain ⟨k, hk, rfl, hno⟩ := hrel
    by_cases hlt : k < xs.length
    · have hlt' : (k : Int) < (xs.length : Int) := by omega
      obtain ⟨y, hy⟩ : ∃ y, xs[k]? = some y := ⟨_, List.getElem?_eq_getElem hlt⟩
      obtain ⟨g, o, rfl, c0⟩ := HC.out k y hy
      cases hp : (y == x) with
      | true =>
        have HN := Lib.hid (idxF_at (p := fun y => y == x) hno.out hy hp)
        have hp2 : (x == y) = true := by rw [BEq.comm]; exact hp
        clear hy hp
        go_wp2_with fail
        go_ret
        exact ⟨ret_int HN.out.symm, rfl⟩
      | false =>
        have HK := Lib.hid (func.no_succ (p := fun y => y == x) hno.out hy hp)
        have hp2 : (x == y) = false := by rw [BEq.comm]; exact hp
        clear hy hp
        go_wp2_with fail
        go_round
        case rel => exact ⟨k + 1, by omega, by go_num, HK⟩
        case measure => simp [intOf]; omega
    · obtain rfl : k = xs.length := by omega
      have HN := Lib.hid (idxF_none hno.out)
      go_wp2_with fail
      go_ret
      exact ⟨ret_int HN.out.symm, rfl⟩
theorem idx_mem (xs : List Int) (x : Int) : decide (0 ≤ idxE xs x) = decide (x ∈ xs) := by
  unfold idxE
  rw [idxF_any]
  by_cases h : x ∈ xs
  · rw [decide_eq_true h, List.any_eq_true]; exact ⟨x, h, by simp⟩
  · rw [decide_eq_false h, Bool.eq_false_iff]
    intro hh
    obtain ⟨y, hy, e⟩ := List.any_eq_true.1 hh
    have : y = x := by simpa using e
    subst this
    exact h hy
theorem contains_any (u : Value) (xs : List Int) (x : Int) (w : World) (hu : Ints w u xs) (hxl : xs.length ≤ 1048576) :
    Calls Try.prog 80 #[u, .int .i64 x] w fun e w' => e = .returned (.bool (decide (x ∈ xs))) ∧ w = w' := by
  have HI := Lib.hid (index_any u xs x w hu hxl)
  have HM := Lib.hid (idx_mem xs x)
  clear hu
  generalize idxE xs x = k at *
  go_enter Try.func80, Try.ntmps80
  go_wp2_with fail
  refine HI.out.mono ?_
  rintro e w' ⟨rfl, rfl⟩
  go_wp2_with fail
  go_ret
  exact ⟨ret_bool HM.out, rfl⟩
/-- a function value that answers for the rows of a slice of slices, in every world that goes on from w -/
structure FnG (w : World) (f : FuncId) (caps : Array Value) (us : List Value) (xs : List (List Int)) (p : List Int → Bool) : Prop where
  enter : ∀ (args : Array Value) (W : World), (callFunc f args).run Try.prog W = .ok (.enter f args) W
  call : ∀ W, Below w.heap.size w W → ∀ (k : Nat) u x, us[k]? = some u → xs[k]? = some x → Calls Try.prog f (#[u] ++ caps) W fun e W' => e = .returned (.bool (p x)) ∧ Below W.heap.size W W'
set_option maxHeartbeats 1000000 in
theorem indexFuncG_any (u : Value) (us : List Value) (xs : List (List Int)) (f : FuncId) (caps : Array Value) (p : List Int → Bool) (w : World) (hu : ReadsG w u us xs) (hxl : xs.length ≤ 1048576) (h : FnG w f caps us xs p) :
    Calls Try.prog 117 #[u, .func (.func f) #[] caps] w fun e w' => e = .returned (.int .i64 (idxF p xs)) ∧ Below w.heap.size w w' := by
  obtain ⟨A2, c2, rfl, -⟩ := hu.1
  have HC := Lib.hid hu
  have hent := h.enter
  have HF := Lib.hid h.call
  clear hu h
  go_enter Try.func117, Try.ntmps117
  go_wp2_with fail
  go_loopg [8] xs.length (fun g i wr => ∃ k : Nat, k + g = xs.length ∧ i = .int .i64 (k : Int) ∧ Hid (∀ j y, j < k → xs[j]? = some y → p y = false) ∧ Below w.heap.size w wr)
  case atStart => exact ⟨0, by omega, rfl, fun j e h => by omega, Below.refl _ _⟩
  case round =>
    obtain ⟨k, hkg, rfl, hno, hB⟩ := hrel
    cases gk with
    | zero =>
      obtain rfl : k = xs.length := by omega
      have HN := Lib.hid (idxF_none hno.out)
      go_wp2_with fail
      go_ret
      exact ⟨ret_int (by rw [HN.out]), hB⟩
    | succ g2 =>
      have hlt : k < xs.length := by omega
      have hlt' : (k : Int) < (xs.length : Int) := by omega
      obtain ⟨y, hy⟩ : ∃ y, xs[k]? = some y := ⟨_, List.getElem?_eq_getElem hlt⟩
      obtain ⟨u, g, o, hu, rfl, c0, -⟩ := HC.out.row hy
      have q0 := nearv.cell_keep c0 hB
      have HP := Lib.hid (HF.out wr hB k u y hu hy)
      clear c0
      cases hp : p y with
      | true =>
        have HN := Lib.hid (idxF_at hno.out hy hp)
        rw [hp] at HP
        clear hy hp
        go_wp2_with fail
        refine HP.out.mono ?_
        rintro e w1 ⟨rfl, b1⟩
        go_wp2_with fail
        go_ret
        exact ⟨ret_int (by rw [HN.out]), btrans hB b1⟩
      | false =>
        have HK := Lib.hid (no_succ hno.out hy hp)
        rw [hp] at HP
        clear hy hp
        go_wp2_with fail
        refine HP.out.mono ?_
        rintro e w1 ⟨rfl, b1⟩
        have hB1 := btrans hB b1
        clear hB b1 q0
        go_wp2_with fail
        go_roundg g2
        case measure => omega
        case rel => exact ⟨k + 1, by omega, by go_num, HK, hB1⟩
theorem containsFuncG_any (u : Value) (us : List Value) (xs : List (List Int)) (f : FuncId) (caps : Array Value) (p : List Int → Bool) (w : World) (hu : ReadsG w u us xs) (hxl : xs.length ≤ 1048576) (h : FnG w f caps us xs p) :
    Calls Try.prog 129 #[u, .func (.func f) #[] caps] w fun e w' => e = .returned (.bool (xs.any p)) ∧ Below w.heap.size w w' := by
  have HI := Lib.hid (indexFuncG_any u us xs f caps p w hu hxl h)
  have HD := Lib.hid (idxF_any p xs)
  obtain ⟨A2, c2, rfl, -⟩ := hu.1
  clear hu h
  go_enter Try.func129, Try.ntmps129
  go_wp2_with fail
  refine HI.out.mono ?_
  rintro e w1 ⟨rfl, b1⟩
  go_wp2_with fail
  go_ret
  exact ⟨ret_bool HD.out, b1⟩
end Go.Proofs.Ytpeobnmfndelhaa.idx
