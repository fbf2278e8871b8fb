/- The contracts of the program's lostBehind and extend: one round of a game. -/
import Derived.Handy
import Derived.Test.YtjcnngnahijceaaGameM
import Derived.Test.YtjcnngnahijceaaBitsI
import Derived.Test.YtjcnngnahijceaaAround
import Derived.Test.YtjcnngnahijceaaClosed
import Derived.Test.YtjcnngnahijceaaGridR
import Derived.Test.YtjcnngnahijceaaMid
import Derived.StillTailTactics
namespace Go.Proofs.Ytjcnngnahijceaa.times
open Go.RowKit P2 words edges ints good adjs fns sets rets covs bitsI bags gridr mids
set_option linter.unusedVariables false

theorem blk4 {w : World} {g : Nat} {t : TypeId} {a b c d : Value} (h : Blk w g t #[a, b, c, d]) :
    w.cell? ⟨g, 0, none⟩ = some a ∧ w.cell? ⟨g, 1, none⟩ = some b ∧ w.cell? ⟨g, 2, none⟩ = some c ∧ w.cell? ⟨g, 3, none⟩ = some d := ⟨h.cell 0, h.cell 1, h.cell 2, h.cell 3⟩
/-- a game as the program has it -/
structure ChaseR (w : World) (G : Game) (l : List Ed) (ml : List (List Int)) (cv tv mv : Value) (us : List Value) : Prop where
  good : P2.Good (G.n : Int) l
  ball : G.ball = ballB l
  moves : MovesOf G ml
  small : G.P ≤ 200
  short : ∀ mvs ∈ ml, mvs.length ≤ 200
  some : 0 < G.P → 0 < G.n
  closed : Nums w cv (clos l G.n)
  taken : Nums w tv (codesL G.P G.n G.tk)
  lists : ReadsG w mv us ml
theorem ChaseR.n8 {w : World} {G : Game} {l : List Ed} {ml : List (List Int)} {cv tv mv : Value} {us : List Value} (h : ChaseR w G l ml cv tv mv us) : G.n ≤ 8 := by have := h.good.2.1; omega
theorem ChaseR.below {w w' : World} {G : Game} {l : List Ed} {ml : List (List Int)} {cv tv mv : Value} {us : List Value} (h : ChaseR w G l ml cv tv mv us) (hb : Below w.heap.size w w') : ChaseR w' G l ml cv tv mv us :=
  { h with closed := h.closed.below hb, taken := h.taken.below hb, lists := h.lists.below hb }
/-- the nodes ahead of k, and those of the cops -/
def lostTo (G : Game) (W : Nat → Nat → Bool) (q k r : Nat) : Bool := G.tk q r || (decide (r < k) && (List.range G.n).all fun x => !G.ball r x || W q x)
theorem lostTo_zero (G : Game) (W : Nat → Nat → Bool) (q : Nat) : lostTo G W q 0 = G.tk q := by funext r; simp [lostTo]
theorem lostTo_all {G : Game} {W : Nat → Nat → Bool} {q : Nat} : numOf (lostTo G W q G.n) G.n = numOf (lostOf G W q) G.n := num_ext fun z hz => by unfold lostTo lostOf; rw [decide_eq_true hz, Bool.true_and]
theorem lostTo_yes {G : Game} {W : Nat → Nat → Bool} {q k : Nat} (hk : k < G.n) (h : ((List.range G.n).all fun x => !G.ball k x || W q x) = true) : numOf (lostTo G W q k) G.n ||| 2 ^ k = numOf (lostTo G W q (k + 1)) G.n := by
  rw [num_or_one _ hk]
  refine num_ext fun z hz => ?_
  unfold reach.pput lostTo
  by_cases e : z = k
  · subst e
    rw [h]; simp
  · rw [show decide (z < k + 1) = decide (z < k) from by rw [decide_eq_decide]; omega]
    simp [e]
theorem lostTo_no {G : Game} {W : Nat → Nat → Bool} {q k : Nat} (h : ((List.range G.n).all fun x => !G.ball k x || W q x) = false) : numOf (lostTo G W q (k + 1)) G.n = numOf (lostTo G W q k) G.n := num_ext fun z hz => by
  unfold lostTo
  by_cases e : z = k
  · subst e
    rw [h]; simp
  · rw [show decide (z < k + 1) = decide (z < k) from by rw [decide_eq_decide]; omega]
theorem flee_is {G : Game} {l : List Ed} (hg : P2.Good (G.n : Int) l) (hb : G.ball = ballB l) {W : Nat → Bool} {k : Nat} (hk : k < G.n) : decide (cloB l k &&& numOf W G.n = cloB l k) = (List.range G.n).all fun x => !G.ball k x || W x := by
  rw [Bool.eq_iff_iff, decide_eq_true_iff, sub_iff, List.all_eq_true]
  constructor
  · intro h x hx
    have hxn := List.mem_range.1 hx
    cases hbx : G.ball k x with
    | false => rfl
    | true =>
      have := h x (by rw [cloB_bit hg]; rw [hb] at hbx; exact hbx)
      rw [numOf_bit] at this
      simpa [hxn] using this
  · intro h z hz
    rw [cloB_bit hg] at hz
    have hzn : z < G.n := by
      rcases Bool.or_eq_true_iff.1 hz with h1 | h1
      · have : k = z := by simpa using h1
        omega
      · have := (adj_node hg h1).2; omega
    have := h z (List.mem_range.2 hzn)
    rw [hb, show ballB l k z = true from hz] at this
    rw [numOf_bit]
    simpa [hzn] using this

set_option maxHeartbeats 2000000 in
set_option maxRecDepth 100000 in
theorem lostBehind_any (G : Game) (W : Nat → Nat → Bool) (q : Nat) (l : List Ed) (ml : List (List Int)) (cv tv mv xv : Value) (us : List Value) (w : World) (h : ChaseR w G l ml cv tv mv us) (hq : q < G.P) :
    Calls Try.prog 172 #[.agg #[cv, tv, mv, xv], .int .i64 (q : Int), .int .u64 (numOf (W q) G.n : Int)] w fun e w' => e = .returned (.int .u64 (numOf (lostOf G W q) G.n : Int)) ∧ Below w.heap.size w w' := by
  have hn := h.n8
  have HGD := Lib.hid h.good
  have HBL := Lib.hid h.ball
  obtain ⟨Ac, cc, rfl, hcc⟩ := h.closed.form
  obtain ⟨At, ct, rfl, hct⟩ := h.taken.form
  rw [clos_len l G.n, codesL_len G.P G.n G.tk]
  have b0 : Below w.heap.size w (w.alloc (.cells #[.slice Ac G.n cc, .slice At G.P ct, mv, xv] 95)) := (Below.refl _ _).alloc (Nat.le_refl _) _
  have HB0 := Lib.hid b0
  obtain ⟨gt, ot, rfl, t0⟩ := hct q _ (codesL_at hq)
  have q0 := nearv.cell_keep t0 b0
  have g0 := Blk.new w 95 #[.slice Ac G.n cc, .slice (some ⟨gt, ot, none⟩) G.P ct, mv, xv]
  obtain ⟨p0, p1, -, -⟩ := blk4 g0
  have HC := Lib.hid hcc
  have hqi : (q : Int) < (G.P : Int) := by omega
  have hq0 : (0 : Int) ≤ (q : Int) := by omega
  have HZ : Hid (numOf (lostTo G W q 0) G.n = numOf (G.tk q) G.n) := by show _ = _; rw [lostTo_zero]
  have HALL := Lib.hid (lostTo_all (G := G) (W := W) (q := q))
  clear h hcc hct t0 b0 g0
  go_enter Try.func172, Try.ntmps172
  go_wp2_with fail
  go_loopg [7, 18] G.n (fun g s i wr => ∃ k : Nat, k + g = G.n ∧ i = .int .i64 (k : Int) ∧ s = .int .u64 ((numOf (lostTo G W q k) G.n : Nat) : Int) ∧ wr = w.alloc (.cells #[.slice Ac G.n cc, .slice (some ⟨gt, ot, none⟩) G.P ct, mv, xv] 95))
  case atStart => exact ⟨0, by omega, rfl, by rw [HZ.out], rfl⟩
  case round =>
    clear HZ p0 p1 q0
    obtain ⟨k, hkg, rfl, rfl, rfl⟩ := hrel
    cases gk with
    | zero =>
      obtain rfl : k = G.n := by omega
      go_wp2_with fail
      go_ret
      exact ⟨ret_int (by rw [HALL.out]), HB0.out⟩
    | succ g2 =>
      have hlt : k < G.n := by omega
      have hlt' : (k : Int) < (G.n : Int) := by omega
      obtain ⟨g, o, rfl, c0⟩ := HC.out k _ (clos_at hlt)
      have q0 := nearv.cell_keep c0 HB0.out
      have ha := cloB_lt' HGD.out k (by omega)
      have hw := numOf_lt (W q) hn
      have hfl := flee_is HGD.out HBL.out (W := W q) hlt
      have hnot := bits_andNot0 (cloB l k) (numOf (W q) G.n) (by omega) (by omega)
      rw [hfl] at hnot
      have hsm := numOf_lt (lostTo G W q k) hn
      have HOR := Lib.hid (or_walk (numOf (lostTo G W q k) G.n) k hsm (by omega))
      have HY := Lib.hid (fun h => lostTo_yes (G := G) (W := W) (q := q) hlt h)
      have HN := Lib.hid (fun h => lostTo_no (G := G) (W := W) (q := q) (k := k) h)
      have hk8 : k ≤ 8 := by omega
      clear hfl c0
      cases hall : (List.range G.n).all fun x => !G.ball k x || W q x with
      | true =>
        rw [hall] at hnot
        have HK := Lib.hid (HY.out hall)
        clear hall HY HN
        generalize cloB l k = a at *
        generalize numOf (W q) G.n = b at *
        go_wp2_with fail
        go_roundg g2
        case measure => omega
        case rel => exact ⟨k + 1, by omega, by go_num, by rw [← HK.out, HOR.out], rfl⟩
      | false =>
        rw [hall] at hnot
        have HK := Lib.hid (HN.out hall)
        clear hall HY HN
        generalize cloB l k = a at *
        generalize numOf (W q) G.n = b at *
        go_wp2_with fail
        go_roundg g2
        case measure => omega
        case rel => exact ⟨k + 1, by omega, by go_num, by rw [HK.out], rfl⟩

/-- the table of lost nodes, by its first k places -/
def lostK (G : Game) (W : Nat → Nat → Bool) (k : Nat) : List Nat := codesL G.P G.n fun p => if p < k then lostOf G W p else fun _ => false
theorem lostK_zero (G : Game) (W : Nat → Nat → Bool) : lostK G W 0 = List.replicate G.P 0 := by
  apply List.ext_getElem?
  intro i
  unfold lostK
  by_cases hi : i < G.P
  · rw [codesL_at hi, List.getElem?_replicate, if_pos hi, if_neg (by omega), numOf_zero.2 (fun _ _ => rfl)]
  · rw [List.getElem?_eq_none (by rw [codesL_len]; omega), List.getElem?_eq_none (by simp; omega)]
theorem lostK_len (G : Game) (W : Nat → Nat → Bool) (k : Nat) : (lostK G W k).length = G.P := codesL_len _ _ _
theorem lostK_at {G : Game} {W : Nat → Nat → Bool} {k p : Nat} (hp : p < G.P) : (lostK G W k)[p]? = some (numOf (if p < k then lostOf G W p else fun _ => false) G.n) := codesL_at hp
theorem lostK_set {G : Game} {W : Nat → Nat → Bool} {k : Nat} (hk : k < G.P) : (lostK G W k).set k (numOf (lostOf G W k) G.n) = lostK G W (k + 1) := by
  unfold lostK
  rw [codesL_set hk]
  refine codesL_congr fun p r _ _ => ?_
  by_cases e : p = k
  · subst e; rw [if_pos rfl, if_pos (by omega)]
  · rw [if_neg e]
    by_cases h : p < k
    · rw [if_pos h, if_pos (by omega)]
    · rw [if_neg h, if_neg (by omega)]
/-- the sets of situations won, the first k places with one round more, and i moves of place k -/
def wonK (G : Game) (W V : Nat → Nat → Bool) (k : Nat) (q : Nat → Bool) : List Nat := codesL G.P G.n fun p => if p < k then V p else if p = k then q else W p
theorem wonK_len (G : Game) (W V : Nat → Nat → Bool) (k : Nat) (q : Nat → Bool) : (wonK G W V k q).length = G.P := codesL_len _ _ _
theorem wonK_at {G : Game} {W V : Nat → Nat → Bool} {k : Nat} {q : Nat → Bool} (hk : k < G.P) : (wonK G W V k q)[k]? = some (numOf q G.n) := by
  unfold wonK; rw [codesL_at hk, if_neg (by omega), if_pos rfl]
theorem wonK_set {G : Game} {W V : Nat → Nat → Bool} {k : Nat} {q q' : Nat → Bool} (hk : k < G.P) : (wonK G W V k q).set k (numOf q' G.n) = wonK G W V k q' := by
  unfold wonK
  rw [codesL_set hk]
  refine codesL_congr fun p r _ _ => ?_
  by_cases e : p = k
  · subst e; rw [if_pos rfl, if_neg (by omega), if_pos rfl]
  · rw [if_neg e]
    by_cases h : p < k
    · rw [if_pos h, if_pos h]
    · rw [if_neg h, if_neg h, if_neg e, if_neg e]
theorem wonK_start (G : Game) (W V : Nat → Nat → Bool) : codesL G.P G.n W = wonK G W V 0 (W 0) := by
  unfold wonK
  refine codesL_congr fun p r _ _ => ?_
  rw [if_neg (by omega)]
  by_cases e : p = 0
  · subst e; rw [if_pos rfl]
  · rw [if_neg e]
theorem wonK_next {G : Game} {W V : Nat → Nat → Bool} {k : Nat} {q : Nat → Bool} (h : ∀ r, r < G.n → q r = V k r) : wonK G W V k q = wonK G W V (k + 1) (W (k + 1)) := by
  unfold wonK
  refine codesL_congr fun p r _ hr => ?_
  by_cases e : p = k
  · subst e; rw [if_neg (by omega), if_pos rfl, if_pos (by omega)]; exact h r hr
  · by_cases hp : p < k
    · rw [if_pos hp, if_pos (by omega)]
    · rw [if_neg hp, if_neg e, if_neg (by omega)]
      by_cases e2 : p = k + 1
      · subst e2; rw [if_pos rfl]
      · rw [if_neg e2]
theorem wonK_all (G : Game) (W V : Nat → Nat → Bool) (q : Nat → Bool) : wonK G W V G.P q = codesL G.P G.n V := codesL_congr fun p r hp _ => by rw [if_pos hp]
theorem ownU_far {wr : World} {B O n j : Nat} {v u : Value} {xs : List Value} (h : wr.ownsRow B 67 1 v n xs) (hO : v.ownBlock ≠ some O) : (wr.setCell ⟨O, j, none⟩ u).ownsRow B 67 1 v n xs := by
  have hk : wr.grownBy (wr.setCell ⟨O, j, none⟩ u) (some O) := ⟨rfl, rfl, rfl, by simp [World.setCell], fun k _ hk => Below.heap_setCell _ _ _ _ (fun e => hk (by simp [e]))⟩
  exact h.kept hk (.inr hO)

set_option maxHeartbeats 8000000 in
set_option maxRecDepth 100000 in
theorem extend_any (G : Game) (t B : Nat) (l : List Ed) (ml : List (List Int)) (cv tv mv xv wv : Value) (us : List Value) (w0 w : World) (h : ChaseR w0 G l ml cv tv mv us) (h0 : Below w0.heap.size w0 w) (hB : w0.heap.size ≤ B)
    (hw : w.ownsRow B 67 1 wv G.P (cellsU (codesL G.P G.n (win G t)))) :
    Calls Try.prog 167 #[.agg #[cv, tv, mv, xv], wv] w fun e w' => (∃ v, e = .returned v) ∧ w'.ownsRow B 67 1 wv G.P (cellsU (codesL G.P G.n (win G (t + 1)))) ∧ w.grownBy w' wv.ownBlock := by
  obtain ⟨i0, hi, hz0, hz1, hz2⟩ := info_parts infoU
  have hn := h.n8
  have hP := h.small
  obtain ⟨Am, cm, rfl, -⟩ := h.lists.1
  have hml := h.moves.1
  rw [hml] at h ⊢
  have HH := Lib.hid h
  clear hml
  have hmk := fun (W : World) => run_make_rowN (P := Try.prog) 63 67 i0 (.int .u64 0) Try.underlying63 hi hz0 .i64 .i64 G.P G.P (Nat.le_refl _) (by rw [hz2]; omega) (by omega) W
  obtain ⟨Aw, cw, rfl⟩ := own_form hw
  have hown := World.ownsRow_lit (base := w.heap.size + 1) (e := 67) (size := 1) (w.alloc (.cells #[cv, tv, .slice Am G.P cm, xv] 95)) (madeCells #[Value.int .u64 0] (G.P * 1)) G.P (by simp) (by unfold maxLen; omega) (size_madeCells _ _)
  rw [toList_madeCells_one, Nat.mul_one, show List.replicate G.P (Value.int .u64 0) = cellsU (lostK G (win G t) 0) from by rw [lostK_zero]; simp [cellsU], World.size_alloc] at hown
  have HOWN := Lib.hid hown
  have b0 : Below w.heap.size w ((w.alloc (.cells #[cv, tv, .slice Am G.P cm, xv] 95)).alloc (.cells (madeCells #[Value.int .u64 0] G.P) 67)) := ((Below.refl _ _).alloc (Nat.le_refl _) _).alloc (by simp) _
  have g0 := (Blk.new w 95 #[cv, tv, .slice Am G.P cm, xv]).alloc (.cells (madeCells #[Value.int .u64 0] G.P) 67)
  have HB0 := Lib.hid b0
  have HG0 := Lib.hid g0
  have HW := Lib.hid hw
  have H0 := Lib.hid h0
  clear h hown b0 g0 hw h0
  go_enter Try.func167, Try.ntmps167
  go_wp2_with fail
  clear hmk
  go_loopg [15] G.P (fun g i wr => ∃ k : Nat, k + g = G.P ∧ i = .int .i64 (k : Int) ∧ wr.ownsRow (w.heap.size + 1) 67 1 (.slice (some ⟨w.heap.size + 1, 0, none⟩) G.P G.P) G.P (cellsU (lostK G (win G t) k)) ∧ Blk wr w.heap.size 95 #[cv, tv, .slice Am G.P cm, xv] ∧ Below w.heap.size w wr)
  case atStart => exact ⟨0, by omega, rfl, HOWN.out, HG0.out, HB0.out⟩
  case round =>
    clear HOWN HB0 HG0
    obtain ⟨k, hkg, rfl, hrow, hgb, hBw⟩ := hrel
    cases gk with
    | succ g2 =>
      have hlt : k < G.P := by omega
      have hlt' : (k : Int) < (G.P : Int) := by omega
      have hwr := own_below HW.out hBw
      obtain ⟨gw, capw, hf⟩ : ∃ g cap, Value.slice Aw G.P cw = .slice (some ⟨g, 0, none⟩) G.P cap := by
        rcases hwr.2 with ⟨hf, hz⟩ | ⟨g, cap, cur, hf, _⟩
        · exact absurd hf (by intro hh; simp at hh; omega)
        · exact ⟨g, cap, hf⟩
      obtain ⟨rfl, rfl⟩ : Aw = some ⟨gw, 0, none⟩ ∧ cw = capw := by simpa using hf
      have c0 := hwr.cellAt k (by omega)
      rw [cellsU_at (codesL_at hlt)] at c0
      obtain ⟨p0, p1, p2, p3⟩ := blk4 hgb
      have HLB := Lib.hid (lostBehind_any G (win G t) k l ml cv tv (.slice Am G.P cm) xv us wr.drew (HH.out.below ((H0.out.trans (hBw.mono H0.out.size)).drew)) hlt)
      have HROW := Lib.hid hrow
      have HG := Lib.hid hgb
      have HBW := Lib.hid hBw
      have HS := Lib.hid (lostK_set (W := win G t) hlt)
      clear hwr hf hrow hgb hBw
      go_wp2_with fail
      go_region_with (first
        | (go_at_call 172; (with_reducible refine HLB.out.mono ?_); rintro e w3 ⟨rfl, b3⟩; have d3 : Below wr.heap.size wr w3 := (Below.refl _ _).drew.trans b3; have hr3 := own_below HROW.out d3; have f0 := hr3.cellAt k (by omega); rw [cellsU_at (lostK_at hlt)] at f0; have z0 := hr3.frozenAt k))
      all_goals
        have hst := (hr3.stored k (.int .u64 ((numOf (lostOf G (win G t) k) G.n : Nat) : Int))).1
        rw [cellsU_set, HS.out] at hst
        have HST := Lib.hid hst
        have HG3 := Lib.hid ((HG.out.below d3 HG.out.lt).far (p := ⟨w.heap.size + 1, k, none⟩) (by simp) (.int .u64 ((numOf (lostOf G (win G t) k) G.n : Nat) : Int)))
        have HB3 := Lib.hid ((btrans HBW.out d3).setCell (p := ⟨w.heap.size + 1, k, none⟩) (by simp) (.int .u64 ((numOf (lostOf G (win G t) k) G.n : Nat) : Int)))
        clear hst hr3 f0 z0 b3 d3 c0 p0 p1 p2 p3
        go_wp2_with fail
        go_roundg g2
        case measure => omega
        case rel => exact ⟨k + 1, by omega, by go_num, HST.out, HG3.out, HB3.out⟩
    | zero =>
      obtain rfl : k = G.P := by omega
      have HLO := Lib.hid hrow
      have HGB := Lib.hid hgb
      have HBW := Lib.hid hBw
      have HWR := Lib.hid (own_below HW.out hBw)
      have HWS := Lib.hid (wonK_start G (win G t) (win G (t + 1)))
      clear hrow hgb hBw
      obtain ⟨p0, p1, p2, p3⟩ := blk4 HGB.out
      go_wp2_with fail
      clear p0 p1 p2 p3
      go_loopg [32] G.P (fun g i wr' => ∃ k : Nat, k + g = G.P ∧ i = .int .i64 (k : Int) ∧ wr'.ownsRow (w.heap.size + 1) 67 1 (.slice (some ⟨w.heap.size + 1, 0, none⟩) G.P G.P) G.P (cellsU (lostK G (win G t) G.P)) ∧
        wr'.ownsRow B 67 1 (.slice Aw G.P cw) G.P (cellsU (wonK G (win G t) (win G (t + 1)) k (win G t k))) ∧ w.grownBy wr' (Value.slice Aw G.P cw).ownBlock ∧ Below w0.heap.size w0 wr')
      case atStart => exact ⟨0, by omega, rfl, HLO.out, by rw [← HWS.out]; exact HWR.out, gof HBW.out _, H0.out.trans (HBW.out.mono H0.out.size)⟩
      case round =>
        clear HLO HGB HBW HWR HWS
        obtain ⟨k, hkg, rfl, hlo, hwr, hgr, hB0⟩ := hrel
        cases gk with
        | zero =>
          obtain rfl : k = G.P := by omega
          rw [wonK_all] at hwr
          have HA := Lib.hid hwr
          have HGR := Lib.hid hgr
          clear hlo hwr hgr hB0
          go_wp2_with fail
          exact bodyPost_end (v := .tuple #[]) (by simp [results, Try.results167, go_sem]) rfl ⟨⟨_, rfl⟩, HA.out, HGR.out⟩
        | succ g2 =>
          have hlt : k < G.P := by omega
          have hlt' : (k : Int) < (G.P : Int) := by omega
          obtain ⟨mvs, hmv⟩ : ∃ mvs, ml[k]? = some mvs := ⟨_, List.getElem?_eq_getElem (by rw [HH.out.moves.1]; exact hlt)⟩
          obtain ⟨u, gm, om, hu, rfl, m0, hmr⟩ := (show ReadsG w0 (.slice Am ml.length cm) us ml by rw [HH.out.moves.1]; exact HH.out.lists).row hmv
          obtain ⟨Ar, cr, rfl, -⟩ := hmr.form
          have HMR := Lib.hid hmr
          have q0 := nearv.cell_keep m0 hB0
          have HMV := Lib.hid hmv
          have HRG := Lib.hid (HH.out.moves.2 k mvs hmv).1
          have HN : Hid (wonK G (win G t) (win G (t + 1)) k (moreW G (win G t) mvs mvs.length k) = wonK G (win G t) (win G (t + 1)) (k + 1) (win G t (k + 1))) := wonK_next fun r _ => more_all HH.out.moves hmv
          have HLO := Lib.hid hlo
          have HWR : Hid (wr.ownsRow B 67 1 (.slice Aw G.P cw) G.P (cellsU (wonK G (win G t) (win G (t + 1)) k (moreW G (win G t) mvs 0 k)))) := by
            show World.ownsRow _ _ _ _ _ _ _
            rw [moreW_zero]; exact hwr
          have HGR := Lib.hid hgr
          have HB0 := Lib.hid hB0
          have hml9 : mvs.length ≤ 200 := HH.out.short mvs (List.mem_of_getElem? hmv)
          clear hmv hmr m0 hlo hwr hgr hB0 hu
          go_wp2_with fail
          clear q0
          go_loopg [39] mvs.length (fun g iv wi => ∃ i : Nat, i + g = mvs.length ∧ iv = .int .i64 (i : Int) ∧ wi.ownsRow (w.heap.size + 1) 67 1 (.slice (some ⟨w.heap.size + 1, 0, none⟩) G.P G.P) G.P (cellsU (lostK G (win G t) G.P)) ∧
            wi.ownsRow B 67 1 (.slice Aw G.P cw) G.P (cellsU (wonK G (win G t) (win G (t + 1)) k (moreW G (win G t) mvs i k))) ∧ w.grownBy wi (Value.slice Aw G.P cw).ownBlock ∧ Below w0.heap.size w0 wi)
          case atStart => exact ⟨0, by omega, rfl, HLO.out, HWR.out, HGR.out, HB0.out⟩
          case round =>
            clear HLO HWR HGR HB0
            obtain ⟨i, hig, rfl, hlo, hwr, hgr, hB0⟩ := hrel
            cases gk with
            | zero =>
              obtain rfl : i = mvs.length := by omega
              rw [HN.out] at hwr
              have HLO := Lib.hid hlo
              have HWR := Lib.hid hwr
              have HGR := Lib.hid hgr
              have HB0 := Lib.hid hB0
              clear hlo hwr hgr hB0
              go_wp2_with fail
              go_roundg g2
              case measure => omega
              case rel => exact ⟨k + 1, by omega, by go_num, HLO.out, HWR.out, HGR.out, HB0.out⟩
            | succ g4 =>
              have hit : (i : Int) < (mvs.length : Int) := by omega
              obtain ⟨q, hq⟩ : ∃ q, mvs[i]? = some q := ⟨_, List.getElem?_eq_getElem (by omega)⟩
              have hqr := HRG.out q (List.mem_of_getElem? hq)
              have HMS := Lib.hid (moreW_succ (G := G) (W := win G t) (p := k) hq G.n)
              obtain ⟨m, rfl⟩ : ∃ m : Nat, q = (m : Int) := ⟨q.toNat, by omega⟩
              rw [Int.toNat_natCast] at HMS
              obtain ⟨_, _, hf, hcc⟩ := (show Ints wr (.slice Ar mvs.length cr) mvs from HMR.out.below hB0).form
              cases hf
              obtain ⟨gr, gx, rfl, q1⟩ := hcc i _ hq
              have hmP : m < G.P := by omega
              obtain ⟨gw, capw, hf⟩ : ∃ g cap, Value.slice Aw G.P cw = .slice (some ⟨g, 0, none⟩) G.P cap := by
                rcases hwr.2 with ⟨hf, hz⟩ | ⟨g, cap, cur, hf, _⟩
                · exact absurd hf (by intro hh; simp at hh; omega)
                · exact ⟨g, cap, hf⟩
              obtain ⟨rfl, rfl⟩ : Aw = some ⟨gw, 0, none⟩ ∧ cw = capw := by simpa using hf
              have hgw := HW.out.lt gw rfl
              have c0 := hwr.cellAt k (by omega)
              rw [cellsU_at (wonK_at hlt)] at c0
              have c1 := hlo.cellAt m (by omega)
              rw [cellsU_at (lostK_at hmP), if_pos hmP] at c1
              have HB4 : Hid (Below w0.heap.size w0 wr.drew) := hB0.drew
              have HL4 : Hid (wr.drew.ownsRow (w.heap.size + 1) 67 1 (.slice (some ⟨w.heap.size + 1, 0, none⟩) G.P G.P) G.P (cellsU (lostK G (win G t) G.P))) := own_below hlo (Below.refl _ _).drew
              have HW4 : Hid (wr.drew.ownsRow B 67 1 (.slice (some ⟨gw, 0, none⟩) G.P cw) G.P (cellsU (wonK G (win G t) (win G (t + 1)) k (moreW G (win G t) mvs i k)))) := own_below hwr (Below.refl _ _).drew
              have HG4 : Hid (w.grownBy wr.drew (some gw)) := gtrans hgr (gof (Below.refl _ _).drew _)
              have HOR : Hid (bits .or .u64 ((numOf (moreW G (win G t) mvs i k) G.n : Nat) : Int) ((numOf (lostOf G (win G t) m) G.n : Nat) : Int) = ((numOf (moreW G (win G t) mvs (i + 1) k) G.n : Nat) : Int)) := by
                show _ = _
                have h1 := numOf_lt (moreW G (win G t) mvs i k) hn
                have h2 := numOf_lt (lostOf G (win G t) m) hn
                rw [bits_or_u64_nat _ _ (by omega) (by omega), HMS.out]
              have hor := HOR.out
              have hkk : (k : Int) < (G.P : Int) := hlt'
              have hmm : (m : Int) < (G.P : Int) := by omega
              clear hlo hwr hgr hB0 hq hcc hf HMS HOR
              generalize numOf (moreW G (win G t) mvs i k) G.n = a at *
              generalize numOf (lostOf G (win G t) m) G.n = b at *
              go_wp2_with fail
              go_still_tail 10, (by kernel_rfl)
              change wpList _ _ _ _ _ wr.drew
              clear c0 c1 q1
              generalize wr.drew = w4 at *
              have c0 := HW4.out.cellAt k (by omega)
              rw [cellsU_at (wonK_at hlt)] at c0
              have z0 := HW4.out.frozenAt k
              have hst := (HW4.out.stored k (.int .u64 ((numOf (moreW G (win G t) mvs (i + 1) k) G.n : Nat) : Int))).1
              rw [cellsU_set, wonK_set hlt] at hst
              have HST := Lib.hid hst
              have HL5 := Lib.hid (ownU_far (O := gw) (j := k) (u := .int .u64 ((numOf (moreW G (win G t) mvs (i + 1) k) G.n : Nat) : Int)) HL4.out (by intro hh; simp [Value.ownBlock] at hh; omega))
              have HG5 := Lib.hid (gset HG4.out k (.int .u64 ((numOf (moreW G (win G t) mvs (i + 1) k) G.n : Nat) : Int)))
              have HB5 := Lib.hid (HB4.out.setCell (p := ⟨gw, k, none⟩) (by show w0.heap.size ≤ gw; omega) (.int .u64 ((numOf (moreW G (win G t) mvs (i + 1) k) G.n : Nat) : Int)))
              clear hst
              go_wp2_with fail
              go_roundg g4
              case measure => omega
              case rel => exact ⟨i + 1, by omega, by go_num, HL5.out, HST.out, HG5.out, HB5.out⟩
end Go.Proofs.Ytjcnngnahijceaa.times
