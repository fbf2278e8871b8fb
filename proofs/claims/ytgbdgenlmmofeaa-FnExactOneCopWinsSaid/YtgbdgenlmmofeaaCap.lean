/- The contracts of CaptureTime and OneCopWins: of the program and of the model. -/
import Derived.Test.YtgbdgenlmmofeaaCopT
import Derived.Test.YtgbdgenlmmofeaaSome
import Derived.Test.YtgbdgenlmmofeaaMaxI
import Derived.Test.YtgbdgenlmmofeaaMinMax
namespace Go.Proofs.Ytgbdgenlmmofeaa.times
open Go.RowKit P2 words edges ints good adjs fns sets rets covs bitsI bags gridr mids grid reps apps owns idx maxi filled
set_option linter.unusedVariables false

/-- the greatest time of a place, -1 if one is -1 -/
def worstR (n : Nat) (T : Nat → Nat → Int) (c : Nat) : Int := worstL (fun x => x) (rowG n (T c))
def capK (n : Nat) (T : Nat → Nat → Int) : Nat → Option Nat
  | 0 => none
  | k + 1 => match capK n T k with
    | none => if 0 ≤ worstR n T k then some k else none
    | some b => if 0 ≤ worstR n T k ∧ worstR n T k < worstR n T b then some k else some b
def capN (o : Option Nat) : Int := match o with | some b => (b : Int) | none => 0
def capV (n : Nat) (T : Nat → Nat → Int) (o : Option Nat) : Int := match o with | some b => worstR n T b | none => 0
theorem capK_lt {n : Nat} {T : Nat → Nat → Int} : ∀ {k b : Nat}, capK n T k = some b → b < k ∧ 0 ≤ worstR n T b
  | 0, b, h => by cases h
  | k + 1, b, h => by
    unfold capK at h
    cases hk : capK n T k with
    | none =>
      rw [hk] at h
      simp only at h
      split at h
      · rename_i h0; cases h; exact ⟨by omega, h0⟩
      · cases h
    | some b' =>
      rw [hk] at h
      have ih := capK_lt hk
      simp only at h
      split at h
      · rename_i h0; cases h; exact ⟨by omega, h0.1⟩
      · cases h; exact ⟨by omega, ih.2⟩
theorem capK_skip {n k : Nat} {T : Nat → Nat → Int} (h : worstR n T k < 0) : capK n T (k + 1) = capK n T k := by
  show (match capK n T k with | none => _ | some b => _) = _
  cases capK n T k with
  | none => simp only; rw [if_neg (by omega)]
  | some b => simp only; rw [if_neg (by omega)]
theorem capK_first {n k : Nat} {T : Nat → Nat → Int} (h : 0 ≤ worstR n T k) (ho : capK n T k = none) : capK n T (k + 1) = some k := by
  show (match capK n T k with | none => _ | some b => _) = _
  rw [ho]; simp only; rw [if_pos h]
theorem capK_less {n k b : Nat} {T : Nat → Nat → Int} (h : 0 ≤ worstR n T k) (ho : capK n T k = some b) (hl : worstR n T k < worstR n T b) : capK n T (k + 1) = some k := by
  show (match capK n T k with | none => _ | some b => _) = _
  rw [ho]; simp only; rw [if_pos ⟨h, hl⟩]
theorem capK_more {n k b : Nat} {T : Nat → Nat → Int} (ho : capK n T k = some b) (hl : ¬ worstR n T k < worstR n T b) : capK n T (k + 1) = some b := by
  show (match capK n T k with | none => _ | some b => _) = _
  rw [ho]; simp only; rw [if_neg (fun h => hl h.2)]
theorem worst_has {n k : Nat} {T : Nat → Nat → Int} (hT : ∀ p r, -1 ≤ T p r) : decide ((-1 : Int) ∈ rowG n (T k)) = decide (worstR n T k < 0) := by
  rw [decide_eq_decide]
  unfold worstR
  constructor
  · intro h
    obtain ⟨j, hj⟩ := List.getElem?_of_mem h
    rw [worst_no hj (by omega)]; omega
  · intro h
    apply Classical.byContradiction
    intro hn
    have : 0 ≤ worstL (fun x => x) (rowG n (T k)) := worst_iff.2 fun b hb => by
      obtain ⟨x, hx, rfl⟩ := List.mem_map.1 hb
      have := hT k x
      rcases Int.lt_or_le (T k x) 0 with h9 | h9
      · exact absurd (by rw [show (-1 : Int) = T k x from by omega]; exact hb) hn
      · exact h9
    omega
theorem worst_max {n k : Nat} {T : Nat → Nat → Int} {M : Int} (h : 0 ≤ worstR n T k) (hM : MaxIs (rowG n (T k)) M) : M = worstR n T k := by
  unfold worstR at *
  have h1 := (worst_le h (j := M)).2 ⟨(worst_iff.1 h) M hM.2, hM.1⟩
  have h2 := ((worst_le h (j := worstL (fun x => x) (rowG n (T k)))).1 (Int.le_refl _)).2 M hM.2
  omega

set_option maxHeartbeats 4000000 in
set_option maxRecDepth 100000 in
theorem start_any (n : Nat) (T : Nat → Nat → Int) (cv tv mv xv : Value) (us : List Value) (w : World) (hx : ReadsG w xv us (gridG n n T)) (hn : n ≤ 8) (hT : ∀ p r, -1 ≤ T p r) :
    Calls Try.prog 58 #[.agg #[cv, tv, mv, xv]] w fun e w' => e = .returned (.tuple #[.int .i64 (capN (capK n T n)), .int .i64 (capV n T (capK n T n)), .bool (capK n T n).isSome]) ∧ Below w.heap.size w w' := by
  obtain ⟨A, c, rfl, -⟩ := hx.1
  have HX := Lib.hid hx
  rw [gridG_len]
  have b0 : Below w.heap.size w (w.alloc (.cells #[cv, tv, mv, .slice A n c] 70)) := (Below.refl _ _).alloc (Nat.le_refl _) _
  obtain ⟨p0, p1, p2, p3⟩ := blk4 (Blk.new w 70 #[cv, tv, mv, .slice A n c])
  have HB0 := Lib.hid b0
  have HTT := Lib.hid hT
  clear hx b0 hT
  go_enter Try.func58, Try.ntmps58
  go_wp2_with fail
  clear p0 p1 p2 p3
  go_loopg [5, 6, 7, 14] n (fun g bv lv fv iv wr => ∃ (k : Nat) (o : Option Nat), k + g = n ∧ iv = .int .i64 (k : Int) ∧ Hid (capK n T k = o) ∧ bv = .int .i64 (capN o) ∧ lv = .int .i64 (capV n T o) ∧ fv = .bool o.isSome ∧ wr = w.alloc (.cells #[cv, tv, mv, .slice A n c] 70))
  case atStart => exact ⟨0, none, by omega, rfl, rfl, rfl, rfl, rfl, rfl⟩
  case round =>
    obtain ⟨k, o, hkg, rfl, ho, rfl, rfl, rfl, rfl⟩ := hrel
    cases gk with
    | zero =>
      obtain rfl : k = n := by omega
      go_wp2_with fail
      go_ret3
      exact ⟨by rw [ho.out]; rfl, HB0.out⟩
    | succ g2 =>
      have hlt : k < n := by omega
      have hlt' : (k : Int) < (n : Int) := by omega
      obtain ⟨u, g, o', hu, rfl, c0, hr⟩ := (show ReadsG w (.slice A (gridG n n T).length c) us (gridG n n T) from HX.out).row (gridG_at (n := n) hlt)
      obtain ⟨Ar, cr, rfl, -⟩ := hr.form
      have q0 := nearv.cell_keep c0 HB0.out
      have hr2 : Ints (w.alloc (.cells #[cv, tv, mv, .slice (some ⟨g, o', none⟩) n c] 70)) (.slice Ar (rowG n (T k)).length cr) (rowG n (T k)) := hr.below HB0.out
      have hrl := rowG_len n (T k)
      have HCT := Lib.hid (contains_any _ (rowG n (T k)) (-1) _ hr2 (by omega))
      have HMX := Lib.hid (fun h => max_any _ (rowG n (T k)) _ hr2 (by omega) (h : 0 < (rowG n (T k)).length))
      rw [worst_has HTT.out] at HCT
      have HRL := Lib.hid hrl
      clear hr hr2 hu c0 hrl
      by_cases hneg : worstR n T k < 0
      · rw [decide_eq_true hneg] at HCT
        have HK : Hid (capK n T (k + 1) = o) := by show _ = _; rw [capK_skip hneg]; exact ho.out
        clear hneg HMX
        go_wp2_with fail
        refine HCT.out.mono ?_
        rintro e w' ⟨rfl, rfl⟩
        go_wp2_with fail
        go_roundg g2
        case measure => omega
        case rel => exact ⟨k + 1, o, by omega, by go_num, HK, rfl, rfl, rfl, rfl⟩
      · rw [decide_eq_false hneg] at HCT
        have HM2 := Lib.hid (HMX.out (by rw [HRL.out]; omega))
        have HWM := Lib.hid (fun M (hM : MaxIs (rowG n (T k)) M) => worst_max (by omega) hM)
        cases o with
        | none =>
          have HK := Lib.hid (capK_first (by omega) ho.out)
          clear hneg HMX
          go_wp2_with fail
          refine HCT.out.mono ?_
          rintro e w' ⟨rfl, rfl⟩
          go_wp2_with fail
          refine HM2.out.mono ?_
          rintro e w' ⟨M, rfl, hM, rfl⟩
          obtain rfl := HWM.out M hM
          clear hM
          go_wp2_with fail
          go_roundg g2
          case measure => omega
          case rel => exact ⟨k + 1, some k, by omega, by go_num, HK, rfl, rfl, rfl, rfl⟩
        | some b =>
          by_cases hless : worstR n T k < worstR n T b
          · have HK := Lib.hid (capK_less (by omega) ho.out hless)
            have d0 : decide (worstR n T k < capV n T (some b)) = true := decide_eq_true hless
            clear hneg HMX hless
            go_wp2_with fail
            refine HCT.out.mono ?_
            rintro e w' ⟨rfl, rfl⟩
            go_wp2_with fail
            refine HM2.out.mono ?_
            rintro e w' ⟨M, rfl, hM, rfl⟩
            obtain rfl := HWM.out M hM
            clear hM
            go_wp2_with fail
            go_roundg g2
            case measure => omega
            case rel => exact ⟨k + 1, some k, by omega, by go_num, HK, rfl, rfl, rfl, rfl⟩
          · have HK := Lib.hid (capK_more ho.out hless)
            have d0 : decide (worstR n T k < capV n T (some b)) = false := decide_eq_false hless
            clear hneg HMX hless
            go_wp2_with fail
            refine HCT.out.mono ?_
            rintro e w' ⟨rfl, rfl⟩
            go_wp2_with fail
            refine HM2.out.mono ?_
            rintro e w' ⟨M, rfl, hM, rfl⟩
            obtain rfl := HWM.out M hM
            clear hM
            go_wp2_with fail
            go_roundg g2
            case measure => omega
            case rel => exact ⟨k + 1, some b, by omega, by go_num, HK, rfl, rfl, rfl, rfl⟩

set_option maxHeartbeats 2000000 in
set_option maxRecDepth 100000 in
theorem l3Start_any (n p : Nat) (T : Nat → Nat → Int) (t : Value) (us : List Value) (w : World) (ht : ReadsG w t us (tabL n T)) (hn : n ≤ 8) (hp : p < n) :
    Calls Try.prog 57 #[t, .int .i64 (p : Int)] w fun e w' => e = .returned (.int .i64 (worstR n T p)) ∧ w = w' := by
  obtain ⟨A, c, rfl, -⟩ := ht.1
  rw [tabL_len]
  obtain ⟨u, g, o, hu, rfl, c0, hr⟩ := (show ReadsG w (.slice A (tabL n T).length c) us (tabL n T) from ht).row (tabL_at hp)
  obtain ⟨Ar, cr, rfl, hcc⟩ := hr.form
  have hrl := rowL_len n (T p)
  rw [hrl] at c0
  have HC := Lib.hid hcc
  have HRW : Hid (rowL n (T p) = rowG n (T p)) := rfl
  have HRL := Lib.hid hrl
  have hpi : (p : Int) < (n : Int) := by omega
  have hp0 : (0 : Int) ≤ (p : Int) := by omega
  have HW : Hid (worstR n T p = worstL (fun x => x) (rowL n (T p))) := rfl
  clear ht hu hr hcc hrl
  go_enter Try.func57, Try.ntmps57
  go_wp2_with fail
  go_loop [5, 6] (fun m i => ∃ k : Nat, k ≤ n ∧ i = .int .i64 (k : Int) ∧ m = .int .i64 (mostL (fun x => x) ((rowL n (T p)).take k)) ∧ Hid (∀ j y, j < k → (rowL n (T p))[j]? = some y → 0 ≤ y)) (fun _ i => n - (intOf i).toNat)
  case atStart => exact ⟨0, Nat.zero_le _, rfl, rfl, fun j y hj => by omega⟩
  case round =>
    obtain ⟨k, hk, rfl, rfl, hal⟩ := hrel
    by_cases hlt : k < n
    · have hlt' : (k : Int) < (n : Int) := by omega
      obtain ⟨y, hy⟩ : ∃ y, (rowL n (T p))[k]? = some y := ⟨_, List.getElem?_eq_getElem (by rw [HRL.out]; exact hlt)⟩
      obtain ⟨gr, orr, rfl, q0⟩ := HC.out k y hy
      by_cases hneg : y < 0
      · have HN : Hid (worstR n T p = -1) := by show _ = _; rw [HW.out]; exact worst_no hy hneg
        have d0 : decide (y < 0) = true := decide_eq_true hneg
        clear hy hneg
        go_wp2_with fail
        go_ret
        exact ⟨ret_int HN.out.symm, rfl⟩
      · have d0 : decide (y < 0) = false := decide_eq_false hneg
        have HK : Hid (∀ j z, j < k + 1 → (rowL n (T p))[j]? = some z → 0 ≤ z) := fun j z hj hz => by
          by_cases e : j = k
          · subst e; rw [hy] at hz; cases hz; omega
          · exact hal.out j z (by omega) hz
        have HMS := Lib.hid (mostL_succ (f := fun x => x) hy)
        have HMO := Lib.hid (fun (W : World) => minmax.l1Most_any (mostL (fun x => x) ((rowL n (T p)).take k)) y W)
        clear hy hneg
        go_wp2_with fail
        refine (HMO.out _).mono ?_
        rintro e w' ⟨rfl, rfl⟩
        go_wp2_with fail
        go_round
        case rel => exact ⟨k + 1, by omega, by go_num, by rw [HMS.out], HK⟩
        case measure => simp [intOf]; omega
    · obtain rfl : k = n := by omega
      have HE : Hid (mostL (fun x => x) ((rowL k (T p)).take k) = worstR k T p) := by
        show _ = _
        rw [HW.out, worst_yes (fun j b hj hb => hal.out j b (by rw [HRL.out] at hj; exact hj) hb)]
        congr 1
        exact List.take_of_length_le (by rw [HRL.out]; exact Nat.le_refl _)
      go_wp2_with fail
      go_ret
      exact ⟨ret_int HE.out, rfl⟩
noncomputable def capO (s : Int) (l : List Ed) : Option Nat := if okG (P2.Good s l) = true then capK s.toNat (tms (one l s.toNat)) s.toNat else none
theorem capO_yes {s : Int} {l : List Ed} (h : P2.Good s l) : capO s l = capK s.toNat (tms (one l s.toNat)) s.toNat := by unfold capO; rw [if_pos (okG_yes h)]
theorem capO_no {s : Int} {l : List Ed} (h : ¬ P2.Good s l) : capO s l = none := by unfold capO; rw [if_neg (by rw [okG_no h]; simp)]
theorem capO_none {s : Int} {l : List Ed} (h : ¬ SomeP s l) : capO s l = none := by
  by_cases hg : P2.Good s l
  · have : s.toNat = 0 := by
      have h1 := hg.1
      have h2 : ¬ 0 < s := fun hh => h ⟨hg, hh⟩
      omega
    rw [capO_yes hg, this]; rfl
  · exact capO_no hg
noncomputable def capW (s : Int) (l : List Ed) : Int := capV s.toNat (tms (one l s.toNat)) (capO s l)
theorem tms_low (G : Game) (p r : Nat) : -1 ≤ tms G p r := (tm_small _ p r).1
def RetC (w : World) (s : Int) (l : List Ed) (e : Ending) (w' : World) : Prop := e = .returned (.tuple #[.int .i64 (capN (capO s l)), .int .i64 (capW s l), .bool (capO s l).isSome]) ∧ Below w.heap.size w w'
set_option maxHeartbeats 1000000 in
set_option maxRecDepth 100000 in
theorem implCap_any (s : Int) (v : Value) (l : List Ed) (w : World) (h : Edges w v l) (hl : l.length ≤ 1048576) :
    Calls Try.prog 28 #[.agg #[.int .i64 s, v]] w (RetC w s l) := by
  obtain ⟨A, c, rfl, -⟩ := h.form
  have H := Lib.hid h
  have b0 : Below w.heap.size w (w.alloc (.cells #[.int .i64 s, .slice A l.length c] 29)) := (Below.refl _ _).alloc (Nat.le_refl _) _
  have g0 := Blk.new w 29 #[.int .i64 s, .slice A l.length c]
  have HG := Lib.hid (implIsGraph_any s _ l _ (h.below b0) hl)
  clear h
  by_cases hgd : P2.Good s l
  · rw [goodB_yes hgd] at HG
    have h0 := hgd.1
    have h8 := hgd.2.1
    obtain ⟨n, rfl⟩ : ∃ n : Nat, s = (n : Int) := ⟨s.toNat, by omega⟩
    have hn : n ≤ 8 := by omega
    have HO : Hid (capO (n : Int) l = capK n (tms (one l n)) n) := capO_yes hgd
    have HGD := Lib.hid hgd
    clear hgd
    go_enter Try.func28, Try.ntmps28
    go_wp2_with fail
    refine HG.out.mono ?_
    rintro e w1 ⟨rfl, b1⟩
    have e1 := btrans b0 b1
    have g1 := g0.below b1 g0.lt
    clear HG b0 b1 g0
    obtain ⟨p0, p1, -, -⟩ := g1.two
    go_wp2_with fail
    refine (chaseIn_any n (.slice A l.length c) l w1 (H.out.below e1) hl HGD.out).mono ?_
    rintro e w2 ⟨cv, tv, mv, xv, us, us', rfl, -, -, o2, b2⟩
    go_wp2_with fail
    refine (start_any n (tms (one l n)) cv tv mv xv us' w2 (gridl.readsG_of_own o2) hn (tms_low _)).mono ?_
    rintro e w3 ⟨rfl, b3⟩
    go_wp2_with fail
    go_ret3
    refine ⟨?_, btrans (btrans e1 b2) b3⟩
    unfold capW
    rw [HO.out]
    rfl
  · rw [goodB_no hgd] at HG
    have HN := Lib.hid (capO_no hgd)
    clear hgd
    go_enter Try.func28, Try.ntmps28
    go_wp2_with fail
    refine HG.out.mono ?_
    rintro e w1 ⟨rfl, b1⟩
    go_wp2_with fail
    go_ret3
    refine ⟨?_, btrans b0 b1⟩
    unfold capW
    rw [HN.out]
    rfl
def bestI (o : Option Nat) : Int := match o with | some b => (b : Int) | none => -1
set_option maxHeartbeats 4000000 in
set_option maxRecDepth 100000 in
theorem specCap_any (s : Int) (v : Value) (l : List Ed) (w : World) (h : Edges w v l) (hl : l.length ≤ 1048576) (hs1 : -9223372036854775808 ≤ s) (hs2 : s ≤ 9223372036854775807) :
    Calls Try.prog 27 #[.agg #[.int .i64 s, v]] w (RetC w s l) := by
  obtain ⟨A, c, rfl, -⟩ := h.form
  have H := Lib.hid h
  have b0 : Below w.heap.size w (w.alloc (.cells #[.int .i64 s, .slice A l.length c] 29)) := (Below.refl _ _).alloc (Nat.le_refl _) _
  have g0 := Blk.new w 29 #[.int .i64 s, .slice A l.length c]
  have HG := Lib.hid (l3Some_any s _ l _ (h.below b0) hl hs1 hs2)
  clear h
  by_cases hsm : SomeP s l
  · rw [okG_yes hsm] at HG
    have hgd := hsm.1
    have h0 := hgd.1
    have h8 := hgd.2.1
    obtain ⟨n, rfl⟩ : ∃ n : Nat, s = (n : Int) := ⟨s.toNat, by omega⟩
    have hn : n ≤ 8 := by omega
    have HO : Hid (capO (n : Int) l = capK n (tms (one l n)) n) := capO_yes hgd
    have HLOW := Lib.hid (tms_low (one l n))
    clear hgd hsm
    go_enter Try.func27, Try.ntmps27
    go_wp2_with fail
    refine HG.out.mono ?_
    rintro e w1 ⟨rfl, b1⟩
    have e1 := btrans b0 b1
    have g1 := g0.below b1 g0.lt
    clear HG b0 b1 g0
    obtain ⟨p0, p1, -, -⟩ := g1.two
    go_wp2_with fail
    refine (l3Times_any n (.slice A l.length c) l w1 (H.out.below e1) hl hn).mono ?_
    rintro e w2 ⟨A2, c2, us, rfl, o2, b2⟩
    have HR := Lib.hid (gridl.readsG_of_own o2)
    have HE2 := Lib.hid (btrans e1 b2)
    have g2 := g1.below b2 g1.lt
    clear o2 b2 e1 g1 p0 p1
    obtain ⟨p0, p1, -, -⟩ := g2.two
    generalize hTT : tms (one l n) = T at *
    have HST := Lib.hid (fun p (hp : p < n) => l3Start_any n p T _ us w2 HR.out hn hp)
    have hTT2 := Lib.hid hTT
    clear hTT g2
    go_wp2_with fail
    go_loopg [6, 7] n (fun g bv iv wr => ∃ (k : Nat) (o : Option Nat), k + g = n ∧ iv = .int .i64 (k : Int) ∧ Hid (capK n T k = o) ∧ bv = .int .i64 (bestI o) ∧ wr = w2)
    case atStart => exact ⟨0, none, by omega, rfl, rfl, rfl, rfl⟩
    case round =>
      obtain ⟨k, o, hkg, rfl, ho, rfl, rfl⟩ := hrel
      cases gk with
      | zero =>
        obtain rfl : k = n := by omega
        cases o with
        | none =>
          have hb : bestI none = -1 := rfl
          rw [hb]
          clear hb
          go_wp2_with fail
          go_ret3
          refine ⟨?_, HE2.out⟩
          unfold capW
          rw [HO.out, ho.out]
          rfl
        | some b =>
          have hbk := (capK_lt ho.out).1
          have HSB := Lib.hid (HST.out b hbk)
          have hb : bestI (some b) = (b : Int) := rfl
          rw [hb]
          clear hb
          go_wp2_with fail
          refine HSB.out.mono ?_
          rintro e w' ⟨rfl, rfl⟩
          go_wp2_with fail
          go_ret3
          refine ⟨?_, HE2.out⟩
          unfold capW
          rw [HO.out, ho.out, Int.toNat_natCast, hTT2.out]
          rfl
      | succ g3 =>
        have hlt : k < n := by omega
        have hlt' : (k : Int) < (n : Int) := by omega
        have HSK := Lib.hid (HST.out k hlt)
        by_cases hneg : worstR n T k < 0
        · have HK : Hid (capK n T (k + 1) = o) := by show _ = _; rw [capK_skip hneg]; exact ho.out
          have d0 : decide (0 ≤ worstR n T k) = false := decide_eq_false (by omega)
          have d1 : ¬ 0 ≤ worstR n T k := by omega
          clear hneg
          generalize worstR n T k = wk at *
          go_wp2_with fail
          refine HSK.out.mono ?_
          rintro e w' ⟨rfl, rfl⟩
          go_wp2_with fail
          go_roundg g3
          case measure => omega
          case rel => exact ⟨k + 1, o, by omega, by go_num, HK, rfl, rfl⟩
        · have d0 : decide (0 ≤ worstR n T k) = true := decide_eq_true (by omega)
          have d1 : 0 ≤ worstR n T k := by omega
          cases o with
          | none =>
            have HK := Lib.hid (capK_first d1 ho.out)
            have hb : bestI none = -1 := rfl
            rw [hb]
            clear hneg hb
            generalize worstR n T k = wk at *
            go_wp2_with fail
            refine HSK.out.mono ?_
            rintro e w' ⟨rfl, rfl⟩
            go_wp2_with fail
            go_roundg g3
            case measure => omega
            case rel => exact ⟨k + 1, some k, by omega, by go_num, HK, rfl, rfl⟩
          | some b =>
            have hbk := (capK_lt ho.out).1
            have HSB := Lib.hid (HST.out b (by omega))
            have hb : bestI (some b) = (b : Int) := rfl
            rw [hb]
            clear hb
            by_cases hless : worstR n T k < worstR n T b
            · have HK := Lib.hid (capK_less d1 ho.out hless)
              have d2 : decide (worstR n T k < worstR n T b) = true := decide_eq_true hless
              clear hneg hless
              generalize worstR n T k = wk at *
              generalize worstR n T b = wb at *
              go_wp2_with fail
              refine HSK.out.mono ?_
              rintro e w' ⟨rfl, rfl⟩
              go_wp2_with fail
              refine HSB.out.mono ?_
              rintro e w' ⟨rfl, rfl⟩
              go_wp2_with fail
              go_roundg g3
              case measure => omega
              case rel => exact ⟨k + 1, some k, by omega, by go_num, HK, rfl, rfl⟩
            · have HK := Lib.hid (capK_more ho.out hless)
              have d2 : decide (worstR n T k < worstR n T b) = false := decide_eq_false hless
              clear hneg hless
              generalize worstR n T k = wk at *
              generalize worstR n T b = wb at *
              go_wp2_with fail
              refine HSK.out.mono ?_
              rintro e w' ⟨rfl, rfl⟩
              go_wp2_with fail
              refine HSB.out.mono ?_
              rintro e w' ⟨rfl, rfl⟩
              go_wp2_with fail
              go_roundg g3
              case measure => omega
              case rel => exact ⟨k + 1, some b, by omega, by go_num, HK, rfl, rfl⟩
  · rw [okG_no hsm] at HG
    have HN := Lib.hid (capO_none hsm)
    clear hsm
    go_enter Try.func27, Try.ntmps27
    go_wp2_with fail
    refine HG.out.mono ?_
    rintro e w1 ⟨rfl, b1⟩
    go_wp2_with fail
    go_ret3
    refine ⟨?_, btrans b0 b1⟩
    unfold capW
    rw [HN.out]
    rfl
set_option maxHeartbeats 1000000 in
set_option maxRecDepth 100000 in
theorem implWins_any (s : Int) (v : Value) (l : List Ed) (w : World) (h : Edges w v l) (hl : l.length ≤ 1048576) :
    Calls Try.prog 26 #[.agg #[.int .i64 s, v]] w fun e w' => e = .returned (.tuple #[.bool (capO s l).isSome, .bool (okG (SomeP s l))]) ∧ Below w.heap.size w w' := by
  obtain ⟨A, c, rfl, -⟩ := h.form
  have H := Lib.hid h
  have b0 : Below w.heap.size w (w.alloc (.cells #[.int .i64 s, .slice A l.length c] 29)) := (Below.refl _ _).alloc (Nat.le_refl _) _
  have g0 := Blk.new w 29 #[.int .i64 s, .slice A l.length c]
  have HG := Lib.hid (isFilled_any s _ l _ (h.below b0) hl)
  clear h
  by_cases hsm : SomeP s l
  · rw [okG_yes hsm] at HG
    have HOK := Lib.hid (okG_yes hsm)
    clear hsm
    go_enter Try.func26, Try.ntmps26
    go_wp2_with fail
    refine HG.out.mono ?_
    rintro e w1 ⟨rfl, b1⟩
    have e1 := btrans b0 b1
    have g1 := g0.below b1 g0.lt
    clear HG b0 b1 g0
    obtain ⟨p0, p1, -, -⟩ := g1.two
    go_wp2_with fail
    refine (implCap_any s (.slice A l.length c) l w1 (H.out.below e1) hl).mono ?_
    rintro e w2 ⟨rfl, b2⟩
    go_wp2_with fail
    go_ret2
    exact ⟨by rw [HOK.out]; rfl, btrans e1 b2⟩
  · rw [okG_no hsm] at HG
    have HN := Lib.hid (capO_none hsm)
    have HOK := Lib.hid (okG_no hsm)
    clear hsm
    go_enter Try.func26, Try.ntmps26
    go_wp2_with fail
    refine HG.out.mono ?_
    rintro e w1 ⟨rfl, b1⟩
    go_wp2_with fail
    go_ret2
    exact ⟨by rw [HOK.out, HN.out]; rfl, btrans b0 b1⟩
set_option maxHeartbeats 1000000 in
set_option maxRecDepth 100000 in
theorem specWins_any (s : Int) (v : Value) (l : List Ed) (w : World) (h : Edges w v l) (hl : l.length ≤ 1048576) (hs1 : -9223372036854775808 ≤ s) (hs2 : s ≤ 9223372036854775807) :
    Calls Try.prog 25 #[.agg #[.int .i64 s, v]] w fun e w' => e = .returned (.tuple #[.bool (capO s l).isSome, .bool (okG (SomeP s l))]) ∧ Below w.heap.size w w' := by
  obtain ⟨A, c, rfl, -⟩ := h.form
  have H := Lib.hid h
  have b0 : Below w.heap.size w (w.alloc (.cells #[.int .i64 s, .slice A l.length c] 29)) := (Below.refl _ _).alloc (Nat.le_refl _) _
  have g0 := Blk.new w 29 #[.int .i64 s, .slice A l.length c]
  have HG := Lib.hid (l3Some_any s _ l _ (h.below b0) hl hs1 hs2)
  clear h
  by_cases hsm : SomeP s l
  · rw [okG_yes hsm] at HG
    have HOK := Lib.hid (okG_yes hsm)
    clear hsm
    go_enter Try.func25, Try.ntmps25
    go_wp2_with fail
    refine HG.out.mono ?_
    rintro e w1 ⟨rfl, b1⟩
    have e1 := btrans b0 b1
    have g1 := g0.below b1 g0.lt
    clear HG b0 b1 g0
    obtain ⟨p0, p1, -, -⟩ := g1.two
    go_wp2_with fail
    refine (specCap_any s (.slice A l.length c) l w1 (H.out.below e1) hl hs1 hs2).mono ?_
    rintro e w2 ⟨rfl, b2⟩
    go_wp2_with fail
    go_ret2
    exact ⟨by rw [HOK.out]; rfl, btrans e1 b2⟩
  · rw [okG_no hsm] at HG
    have HN := Lib.hid (capO_none hsm)
    have HOK := Lib.hid (okG_no hsm)
    clear hsm
    go_enter Try.func25, Try.ntmps25
    go_wp2_with fail
    refine HG.out.mono ?_
    rintro e w1 ⟨rfl, b1⟩
    go_wp2_with fail
    go_ret2
    exact ⟨by rw [HOK.out, HN.out]; rfl, btrans b0 b1⟩
end Go.Proofs.Ytgbdgenlmmofeaa.times
