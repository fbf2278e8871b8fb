/- The contract of slices.Max over integers. -/
import Derived.Handy
import Derived.Test.YtaenblnoanocbaaK01
import Derived.Test.YtaenblnoanocbaaK10
import Derived.Test.YtaenblnoanocbaaK14
import Derived.Test.YtaenblnoanocbaaK11
import Derived.Test.YtaenblnoanocbaaK25
import Derived.Test.YtaenblnoanocbaaK17
namespace Go.Proofs.Ytaenblnoanocbaa.maxi
open Go.RowKit P2 words ints
set_option linter.unusedVariables false

def MaxIs (xs : List Int) (M : Int) : Prop := (∀ y ∈ xs, y ≤ M) ∧ M ∈ xs
/-- the greatest so far -/
def MaxTo (xs : List Int) (k : Nat) (M : Int) : Prop := (∀ j y, j < k → xs[j]? = some y → y ≤ M) ∧ M ∈ xs
theorem MaxTo.succ {xs : List Int} {k : Nat} {M y : Int} (h : MaxTo xs k M) (hy : xs[k]? = some y) : MaxTo xs (k + 1) (if M < y then y else M) := by
  rw [show (if M < y then y else M) = max M y from by split <;> omega]
  refine ⟨fun j z hj hz => ?_, ?_⟩
  · by_cases e : j = k
    · subst e; rw [hy] at hz; cases hz; omega
    · have := h.1 j z (by omega) hz; omega
  · by_cases e : M ≤ y
    · rw [Int.max_eq_right e]; exact List.mem_of_getElem? hy
    · rw [Int.max_eq_left (by omega)]; exact h.2
theorem MaxTo.all {xs : List Int} {M : Int} (h : MaxTo xs xs.length M) : MaxIs xs M :=
  ⟨fun y hy => by
    obtain ⟨j, hj⟩ := List.mem_iff_getElem?.1 hy
    exact h.1 j y (List.getElem?_eq_some_iff.1 hj).1 hj, h.2⟩
set_option maxHeartbeats 1000000 in
theorem max_any (u : Value) (xs : List Int) (w : World) (hu : Ints w u xs) (hxl : xs.length ≤ 1048576) (h0 : 0 < xs.length) :
    Calls Try.prog 103 #[u] w fun e w' => ∃ M, e = .returned (.int .i64 M) ∧ MaxIs xs M ∧ w = w' := by
  obtain ⟨A2, c2, rfl, hc⟩ := hu.form
  have HC := Lib.hid hc
  obtain ⟨y0, hy0⟩ : ∃ y, xs[0]? = some y := ⟨_, List.getElem?_eq_getElem h0⟩
  obtain ⟨g0, o0, rfl, q0⟩ := hc 0 y0 hy0
  have HM0 : Hid (MaxTo xs 1 y0) := ⟨fun j y hj hy => by
    have : j = 0 := by omega
    subst this
    rw [hy0] at hy; cases hy; exact Int.le_refl _, List.mem_of_getElem? hy0⟩
  have h0' : ¬ ((xs.length : Int) < 1) := by omega
  have h1' : (0 : Int) < (xs.length : Int) := by omega
  clear hu hc hy0
  rw [Nat.add_zero] at q0
  go_enter Try.func103, Try.ntmps103
  go_wp2_with fail
  go_loop [3, 4] (fun m i => ∃ (k : Nat) (M : Int), k ≤ xs.length ∧ i = .int .i64 (k : Int) ∧ m = .int .i64 M ∧ Hid (MaxTo xs k M)) (fun _ i => xs.length - (intOf i).toNat)
  case atStart => exact ⟨1, y0, by omega, rfl, rfl, HM0⟩
  case round =>
    clear HM0
    obtain ⟨k, M, hk, rfl, rfl, hm⟩ := hrel
    by_cases hlt : k < xs.length
    · obtain ⟨y, hy⟩ : ∃ y, xs[k]? = some y := ⟨_, List.getElem?_eq_getElem hlt⟩
      obtain ⟨g, o, hgo, c0⟩ := HC.out k y hy
      obtain ⟨rfl, rfl⟩ : g0 = g ∧ o0 = o := by simpa using hgo
      have hlt' : (k : Int) < (xs.length : Int) := by omega
      have HM1 := Lib.hid (hm.out.succ hy)
      clear hy hm
      go_wp2_with fail
      go_round
      case rel => exact ⟨k + 1, _, by omega, by go_num, rfl, HM1⟩
      case measure => simp [intOf]; omega
    · obtain rfl : k = xs.length := by omega
      have HM1 : Hid (MaxIs xs M) := hm.out.all
      go_wp2_with fail
      go_ret
      exact ⟨M, rfl, HM1.out, rfl⟩
end Go.Proofs.Ytaenblnoanocbaa.maxi

/- The least of the greatest times: plain mathematics. -/
namespace Go.Proofs.Ytaenblnoanocbaa.times
open Go.RowKit P2 words fns sets covs maxi
set_option linter.unusedVariables false

/-- the greatest time of a place, -1 if one is -1 -/
def worstR (n : Nat) (T : Nat → Nat → Int) (c : Nat) : Int := worstL (fun x => x) (rowG n (T c))
def capK (n : Nat) (T : Nat → Nat → Int) : Nat → Option Nat
  | 0 => none
  | k + 1 => match capK n T k with
    | none => if 0 ≤ worstR n T k then some k else none
    | some b => if 0 ≤ worstR n T k ∧ worstR n T k < worstR n T b then some k else some b
def capN (o : Option Nat) : Int := match o with | some b => (b : Int) | none => 0
def capV (n : Nat) (T : Nat → Nat → Int) (o : Option Nat) : Int := match o with | some b => worstR n T b | none => 0
theorem capK_lt {n : Nat} {T : Nat → Nat → Int} : ∀ {k b : Nat}, capK n T k = some b → b < k ∧ 0 ≤ worstR n T b
  | 0, b, h => by cases h
  | k + 1, b, h => by
    unfold capK at h
    cases hk : capK n T k with
    | none =>
      rw [hk] at h
      simp only at h
      split at h
      · rename_i h0; cases h; exact ⟨by omega, h0⟩
      · cases h
    | some b' =>
      rw [hk] at h
      have ih := capK_lt hk
      simp only at h
      split at h
      · rename_i h0; cases h; exact ⟨by omega, h0.1⟩
      · cases h; exact ⟨by omega, ih.2⟩
theorem capK_skip {n k : Nat} {T : Nat → Nat → Int} (h : worstR n T k < 0) : capK n T (k + 1) = capK n T k := by
  show (match capK n T k with | none => _ | some b => _) = _
  cases capK n T k with
  | none => simp only; rw [if_neg (by omega)]
  | some b => simp only; rw [if_neg (by omega)]
theorem capK_first {n k : Nat} {T : Nat → Nat → Int} (h : 0 ≤ worstR n T k) (ho : capK n T k = none) : capK n T (k + 1) = some k := by
  show (match capK n T k with | none => _ | some b => _) = _
  rw [ho]; simp only; rw [if_pos h]
theorem capK_less {n k b : Nat} {T : Nat → Nat → Int} (h : 0 ≤ worstR n T k) (ho : capK n T k = some b) (hl : worstR n T k < worstR n T b) : capK n T (k + 1) = some k := by
  show (match capK n T k with | none => _ | some b => _) = _
  rw [ho]; simp only; rw [if_pos ⟨h, hl⟩]
theorem capK_more {n k b : Nat} {T : Nat → Nat → Int} (ho : capK n T k = some b) (hl : ¬ worstR n T k < worstR n T b) : capK n T (k + 1) = some b := by
  show (match capK n T k with | none => _ | some b => _) = _
  rw [ho]; simp only; rw [if_neg (fun h => hl h.2)]
theorem worst_has {n k : Nat} {T : Nat → Nat → Int} (hT : ∀ p r, -1 ≤ T p r) : decide ((-1 : Int) ∈ rowG n (T k)) = decide (worstR n T k < 0) := by
  rw [decide_eq_decide]
  unfold worstR
  constructor
  · intro h
    obtain ⟨j, hj⟩ := List.getElem?_of_mem h
    rw [worst_no hj (by omega)]; omega
  · intro h
    apply Classical.byContradiction
    intro hn
    have : 0 ≤ worstL (fun x => x) (rowG n (T k)) := worst_iff.2 fun b hb => by
      obtain ⟨x, hx, rfl⟩ := List.mem_map.1 hb
      have := hT k x
      rcases Int.lt_or_le (T k x) 0 with h9 | h9
      · exact absurd (by rw [show (-1 : Int) = T k x from by omega]; exact hb) hn
      · exact h9
    omega
theorem worst_max {n k : Nat} {T : Nat → Nat → Int} {M : Int} (h : 0 ≤ worstR n T k) (hM : MaxIs (rowG n (T k)) M) : M = worstR n T k := by
  unfold worstR at *
  have h1 := (worst_le h (j := M)).2 ⟨(worst_iff.1 h) M hM.2, hM.1⟩
  have h2 := ((worst_le h (j := worstL (fun x => x) (rowG n (T k)))).1 (Int.le_refl _)).2 M hM.2
  omega

theorem capK_none {n : Nat} {T : Nat → Nat → Int} : ∀ {k : Nat}, capK n T k = none ↔ ∀ j, j < k → worstR n T j < 0
  | 0 => ⟨fun _ j hj => by omega, fun _ => rfl⟩
  | k + 1 => by
    constructor
    · intro h j hj
      cases hk : capK n T k with
      | some b =>
        by_cases hl : worstR n T k < worstR n T b ∧ 0 ≤ worstR n T k
        · rw [capK_less hl.2 hk hl.1] at h; cases h
        · by_cases h2 : worstR n T k < worstR n T b
          · have h3 : worstR n T k < 0 := by
              apply Classical.byContradiction; intro h4; exact hl ⟨h2, by omega⟩
            rw [capK_skip h3, hk] at h; cases h
          · rw [capK_more hk h2] at h; cases h
      | none =>
        have ih := (capK_none (k := k)).1 hk
        by_cases e : j = k
        · subst e
          apply Classical.byContradiction
          intro hn
          rw [capK_first (by omega) hk] at h; cases h
        · exact ih j (by omega)
    · intro h
      rw [capK_skip (h k (by omega))]
      exact capK_none.2 fun j hj => h j (by omega)
theorem capK_some {n k j : Nat} {T : Nat → Nat → Int} (hj : j < k) (h : 0 ≤ worstR n T j) : (capK n T k).isSome = true := by
  cases hk : capK n T k with
  | some b => rfl
  | none => have := capK_none.1 hk j hj; omega
end Go.Proofs.Ytaenblnoanocbaa.times

/- The contract of the program's start, for any game. -/
namespace Go.Proofs.Ytaenblnoanocbaa.times
open Go.RowKit P2 words edges ints good adjs fns sets rets covs bitsI bags gridr mids idx maxi
set_option linter.unusedVariables false

set_option maxHeartbeats 4000000 in
set_option maxRecDepth 100000 in
theorem start_grid (P n : Nat) (T : Nat → Nat → Int) (cv tv mv xv : Value) (us : List Value) (w : World) (hx : ReadsG w xv us (gridG P n T)) (hn : n ≤ 8) (hP : P ≤ 200) (hPn : 0 < P → 0 < n) (hT : ∀ p r, -1 ≤ T p r) :
    Calls Try.prog 65 #[.agg #[cv, tv, mv, xv]] w fun e w' => e = .returned (.tuple #[.int .i64 (capN (capK n T P)), .int .i64 (capV n T (capK n T P)), .bool (capK n T P).isSome]) ∧ Below w.heap.size w w' := by
  obtain ⟨A, c, rfl, -⟩ := hx.1
  have HX := Lib.hid hx
  rw [gridG_len]
  have b0 : Below w.heap.size w (w.alloc (.cells #[cv, tv, mv, .slice A P c] 75)) := (Below.refl _ _).alloc (Nat.le_refl _) _
  obtain ⟨p0, p1, p2, p3⟩ := blk4 (Blk.new w 75 #[cv, tv, mv, .slice A P c])
  have HB0 := Lib.hid b0
  have HTT := Lib.hid hT
  clear hx b0 hT
  go_enter Try.func65, Try.ntmps65
  go_wp2_with fail
  clear p0 p1 p2 p3
  go_loopg [5, 6, 7, 14] P (fun g bv lv fv iv wr => ∃ (k : Nat) (o : Option Nat), k + g = P ∧ iv = .int .i64 (k : Int) ∧ Hid (capK n T k = o) ∧ bv = .int .i64 (capN o) ∧ lv = .int .i64 (capV n T o) ∧ fv = .bool o.isSome ∧ wr = w.alloc (.cells #[cv, tv, mv, .slice A P c] 75))
  case atStart => exact ⟨0, none, by omega, rfl, rfl, rfl, rfl, rfl, rfl⟩
  case round =>
    obtain ⟨k, o, hkg, rfl, ho, rfl, rfl, rfl, rfl⟩ := hrel
    cases gk with
    | zero =>
      obtain rfl : P = k := by omega
      go_wp2_with fail
      go_ret3
      exact ⟨by rw [ho.out]; rfl, HB0.out⟩
    | succ g2 =>
      have hlt : k < P := by omega
      have hlt' : (k : Int) < (P : Int) := by omega
      obtain ⟨u, g, o', hu, rfl, c0, hr⟩ := (show ReadsG w (.slice A (gridG P n T).length c) us (gridG P n T) from HX.out).row (gridG_at (n := n) hlt)
      obtain ⟨Ar, cr, rfl, -⟩ := hr.form
      have q0 := nearv.cell_keep c0 HB0.out
      have hr2 : Ints (w.alloc (.cells #[cv, tv, mv, .slice (some ⟨g, o', none⟩) P c] 75)) (.slice Ar (rowG n (T k)).length cr) (rowG n (T k)) := hr.below HB0.out
      have hrl := rowG_len n (T k)
      have HCT := Lib.hid (contains_any _ (rowG n (T k)) (-1) _ hr2 (by omega))
      have HMX := Lib.hid (fun h => max_any _ (rowG n (T k)) _ hr2 (by omega) (h : 0 < (rowG n (T k)).length))
      rw [worst_has HTT.out] at HCT
      have HRL := Lib.hid hrl
      clear hr hr2 hu c0 hrl
      by_cases hneg : worstR n T k < 0
      · rw [decide_eq_true hneg] at HCT
        have HK : Hid (capK n T (k + 1) = o) := by show _ = _; rw [capK_skip hneg]; exact ho.out
        clear hneg HMX
        go_wp2_with fail
        refine HCT.out.mono ?_
        rintro e w' ⟨rfl, rfl⟩
        go_wp2_with fail
        go_roundg g2
        case measure => omega
        case rel => exact ⟨k + 1, o, by omega, by go_num, HK, rfl, rfl, rfl, rfl⟩
      · rw [decide_eq_false hneg] at HCT
        have HM2 := Lib.hid (HMX.out (by rw [HRL.out]; omega))
        have HWM := Lib.hid (fun M (hM : MaxIs (rowG n (T k)) M) => worst_max (by omega) hM)
        cases o with
        | none =>
          have HK := Lib.hid (capK_first (by omega) ho.out)
          clear hneg HMX
          go_wp2_with fail
          refine HCT.out.mono ?_
          rintro e w' ⟨rfl, rfl⟩
          go_wp2_with fail
          refine HM2.out.mono ?_
          rintro e w' ⟨M, rfl, hM, rfl⟩
          obtain rfl := HWM.out M hM
          clear hM
          go_wp2_with fail
          go_roundg g2
          case measure => omega
          case rel => exact ⟨k + 1, some k, by omega, by go_num, HK, rfl, rfl, rfl, rfl⟩
        | some b =>
          by_cases hless : worstR n T k < worstR n T b
          · have HK := Lib.hid (capK_less (by omega) ho.out hless)
            have d0 : decide (worstR n T k < capV n T (some b)) = true := decide_eq_true hless
            clear hneg HMX hless
            go_wp2_with fail
            refine HCT.out.mono ?_
            rintro e w' ⟨rfl, rfl⟩
            go_wp2_with fail
            refine HM2.out.mono ?_
            rintro e w' ⟨M, rfl, hM, rfl⟩
            obtain rfl := HWM.out M hM
            clear hM
            go_wp2_with fail
            go_roundg g2
            case measure => omega
            case rel => exact ⟨k + 1, some k, by omega, by go_num, HK, rfl, rfl, rfl, rfl⟩
          · have HK := Lib.hid (capK_more ho.out hless)
            have d0 : decide (worstR n T k < capV n T (some b)) = false := decide_eq_false hless
            clear hneg HMX hless
            go_wp2_with fail
            refine HCT.out.mono ?_
            rintro e w' ⟨rfl, rfl⟩
            go_wp2_with fail
            refine HM2.out.mono ?_
            rintro e w' ⟨M, rfl, hM, rfl⟩
            obtain rfl := HWM.out M hM
            clear hM
            go_wp2_with fail
            go_roundg g2
            case measure => omega
            case rel => exact ⟨k + 1, some b, by omega, by go_num, HK, rfl, rfl, rfl, rfl⟩

end Go.Proofs.Ytaenblnoanocbaa.times

/- The contracts of the model's l4Worst and l4Wins, of both CanCatch and of both CopNumber. -/
namespace Go.Proofs.Ytaenblnoanocbaa.lists
open Go.RowKit P2 words edges ints good adjs fns sets rets apps gridr grid trip covs bitsI times mids filled cops
set_option linter.unusedVariables false

noncomputable def canO (s k : Int) (l : List Ed) : Bool := okG (FieldP s l k) && (capK s.toNat (tms (gameN l s.toNat k.toNat)) (gameN l s.toNat k.toNat).P).isSome
theorem canO_no {s k : Int} {l : List Ed} (h : ¬ FieldP s l k) : canO s k l = false := by unfold canO; rw [okG_no h]; rfl
theorem canO_yes {s k : Int} {l : List Ed} (h : FieldP s l k) : canO s k l = (capK s.toNat (tms (gameN l s.toNat k.toNat)) (gameN l s.toNat k.toNat).P).isSome := by unfold canO; rw [okG_yes h]; rfl
set_option maxHeartbeats 1000000 in
set_option maxRecDepth 100000 in
theorem l4Worst_any (u : Value) (xs : List Int) (w : World) (hu : Ints w u xs) (hxl : xs.length ≤ 1048576) :
    Calls Try.prog 66 #[u] w fun e w' => e = .returned (.int .i64 (worstL (fun x => x) xs)) ∧ w = w' := by
  obtain ⟨A, c, rfl, hc⟩ := hu.form
  have HC := Lib.hid hc
  clear hu hc
  go_enter Try.func66, Try.ntmps66
  go_wp2_with fail
  go_loop [3, 4] (fun m i => ∃ k : Nat, k ≤ xs.length ∧ i = .int .i64 (k : Int) ∧ m = .int .i64 (mostL (fun x => x) (xs.take k)) ∧ Hid (∀ j y, j < k → xs[j]? = some y → 0 ≤ y)) (fun _ i => xs.length - (intOf i).toNat)
  case atStart => exact ⟨0, Nat.zero_le _, rfl, rfl, fun j y hj => by omega⟩
  case round =>
    obtain ⟨k, hk, rfl, rfl, hal⟩ := hrel
    by_cases hlt : k < xs.length
    · have hlt' : (k : Int) < (xs.length : Int) := by omega
      obtain ⟨y, hy⟩ : ∃ y, xs[k]? = some y := ⟨_, List.getElem?_eq_getElem hlt⟩
      obtain ⟨gr, orr, rfl, q0⟩ := HC.out k y hy
      by_cases hneg : y < 0
      · have HN : Hid (worstL (fun x => x) xs = -1) := worst_no hy hneg
        have d0 : decide (y < 0) = true := decide_eq_true hneg
        clear hy hneg
        go_wp2_with fail
        go_ret
        exact ⟨ret_int HN.out.symm, rfl⟩
      · have d0 : decide (y < 0) = false := decide_eq_false hneg
        have HK : Hid (∀ j z, j < k + 1 → xs[j]? = some z → 0 ≤ z) := fun j z hj hz => by
          by_cases e : j = k
          · subst e; rw [hy] at hz; cases hz; omega
          · exact hal.out j z (by omega) hz
        have HMS := Lib.hid (mostL_succ (f := fun x => x) hy)
        have HMO := Lib.hid (fun (W : World) => minmax.l1Most_any (mostL (fun x => x) (xs.take k)) y W)
        clear hy hneg
        go_wp2_with fail
        refine (HMO.out _).mono ?_
        rintro e w' ⟨rfl, rfl⟩
        go_wp2_with fail
        go_round
        case rel => exact ⟨k + 1, by omega, by go_num, by rw [HMS.out], HK⟩
        case measure => simp [intOf]; omega
    · obtain rfl : k = xs.length := by omega
      have HE : Hid (mostL (fun x => x) xs = worstL (fun x => x) xs) := by
        show _ = _
        rw [worst_yes (fun j b hj hb => hal.out j b hj hb)]
      go_wp2_with fail
      go_ret
      exact ⟨ret_int HE.out, rfl⟩
set_option maxHeartbeats 4000000 in
set_option maxRecDepth 100000 in
theorem l4Wins_any (n k : Nat) (v : Value) (l : List Ed) (w : World) (h : Edges w v l) (hl : l.length ≤ 1048576) (hg : P2.Good (n : Int) l) (hn : n ≤ 8) (hk : k ≤ 3) :
    Calls Try.prog 64 #[.agg #[.int .i64 (n : Int), v], .int .i64 (k : Int)] w fun e w' => e = .returned (.bool (capK n (tms (gameN l n k)) (gameN l n k).P).isSome) ∧ Below w.heap.size w w' := by
  obtain ⟨A, c, rfl, -⟩ := h.form
  have H := Lib.hid h
  have b0 : Below w.heap.size w (w.alloc (.cells #[.int .i64 (n : Int), .slice A l.length c] 29)) := (Below.refl _ _).alloc (Nat.le_refl _) _
  have g0 := Blk.new w 29 #[.int .i64 (n : Int), .slice A l.length c]
  obtain ⟨p0, p1, -, -⟩ := g0.two
  have HM := Lib.hid (fun (W : World) (hb : Below w.heap.size w W) => l4Make_any n k (.slice A l.length c) l W (H.out.below hb) hl hg hn hk)
  have HT := Lib.hid (fun fv mv bv uf um ub (W : World) (h : HS W l n k fv mv bv uf um ub) => l4Times_any n k fv mv bv uf um ub l W h hn hk)
  have HB0 := Lib.hid b0
  have HM0 := Lib.hid (HM.out _ b0)
  have hP := game_small hn hk
  have hPl : (gameN l n k).P = (listsN n k 0).length := rfl
  rw [← hPl] at hP
  clear h hg b0 g0 hPl
  go_enter Try.func64, Try.ntmps64
  go_wp2_with fail
  refine HM0.out.mono ?_
  rintro e w2 ⟨fv, mv, bv, uf, um, ub, rfl, hs, b2⟩
  have HT2 := Lib.hid (HT.out fv mv bv uf um ub w2 hs)
  have HE2 := Lib.hid (btrans HB0.out b2)
  clear hs b2 HM0 p0 p1
  go_wp2_with fail
  refine HT2.out.mono ?_
  rintro e w3 ⟨A3, c3, u3, rfl, o3, b3⟩
  have HR := Lib.hid (gridl.readsG_of_own o3)
  have HE3 := Lib.hid (btrans HE2.out b3)
  clear o3 b3
  go_wp2_with fail
  go_loopg [6] (gameN l n k).P (fun g iv wr => ∃ j : Nat, j + g = (gameN l n k).P ∧ iv = .int .i64 (j : Int) ∧ Hid (∀ i, i < j → worstR n (tms (gameN l n k)) i < 0) ∧ wr = w3)
  case atStart => exact ⟨0, by omega, rfl, fun i hi => by omega, rfl⟩
  case round =>
    obtain ⟨j, hjg, rfl, hno, rfl⟩ := hrel
    cases gk with
    | zero =>
      obtain rfl : (gameN l n k).P = j := by omega
      have HV : Hid ((capK n (tms (gameN l n k)) (gameN l n k).P).isSome = false) := by show _ = _; rw [capK_none.2 hno.out]; rfl
      go_wp2_with fail
      go_ret
      exact ⟨ret_bool HV.out.symm, HE3.out⟩
    | succ gg =>
      have hlt : j < (gameN l n k).P := by omega
      have hlt' : (j : Int) < ((gameN l n k).P : Int) := by omega
      obtain ⟨u, g, o, hu, hAx, c0, hr⟩ := HR.out.row (gridG_at hlt)
      subst hAx
      obtain ⟨Ar, cr, rfl, -⟩ := hr.form
      have HWO := Lib.hid (l4Worst_any _ (rowG n (tms (gameN l n k) j)) wr hr (by rw [rowG_len]; omega))
      have hwr : worstL (fun x => x) (rowG n (tms (gameN l n k) j)) = worstR n (tms (gameN l n k)) j := rfl
      rw [hwr] at HWO
      clear hr hu hwr
      by_cases hneg : worstR n (tms (gameN l n k)) j < 0
      · have HK : Hid (∀ i, i < j + 1 → worstR n (tms (gameN l n k)) i < 0) := fun i hi => by
          by_cases e : i = j
          · subst e; exact hneg
          · exact hno.out i (by omega)
        have d0 : decide (0 ≤ worstR n (tms (gameN l n k)) j) = false := decide_eq_false (by omega)
        clear hneg hno
        generalize worstR n (tms (gameN l n k)) j = wv at *
        go_wp2_with fail
        refine HWO.out.mono ?_
        rintro e w' ⟨rfl, rfl⟩
        go_wp2_with fail
        go_roundg gg
        case measure => omega
        case rel => exact ⟨j + 1, by omega, by go_num, HK, rfl⟩
      · have HV := Lib.hid (capK_some (n := n) (T := tms (gameN l n k)) hlt (by omega))
        have d0 : decide (0 ≤ worstR n (tms (gameN l n k)) j) = true := decide_eq_true (by omega)
        clear hneg hno
        generalize worstR n (tms (gameN l n k)) j = wv at *
        go_wp2_with fail
        refine HWO.out.mono ?_
        rintro e w' ⟨rfl, rfl⟩
        go_wp2_with fail
        go_ret
        exact ⟨ret_bool HV.out.symm, HE3.out⟩
end Go.Proofs.Ytaenblnoanocbaa.lists

/- The contracts of both CanCatch and of both CopNumber. -/
namespace Go.Proofs.Ytaenblnoanocbaa.lists
open Go.RowKit P2 words edges ints good adjs fns sets rets apps gridr grid trip covs bitsI times mids filled cops
set_option linter.unusedVariables false

set_option maxHeartbeats 2000000 in
set_option maxRecDepth 100000 in
theorem implCan_any (s k : Int) (v : Value) (l : List Ed) (w : World) (h : Edges w v l) (hl : l.length ≤ 1048576) :
    Calls Try.prog 30 #[.agg #[.int .i64 s, v], .int .i64 k] w fun e w' => e = .returned (.tuple #[.bool (canO s k l), .bool (okG (FieldP s l k))]) ∧ Below w.heap.size w w' := by
  obtain ⟨A, c, rfl, -⟩ := h.form
  have H := Lib.hid h
  have b0 : Below w.heap.size w (w.alloc (.cells #[.int .i64 s, .slice A l.length c] 29)) := (Below.refl _ _).alloc (Nat.le_refl _) _
  have g0 := Blk.new w 29 #[.int .i64 s, .slice A l.length c]
  obtain ⟨p0, p1, -, -⟩ := g0.two
  clear h
  by_cases hf : FieldP s l k
  · rw [canO_yes hf, okG_yes hf]
    have hk3 := hf.2.2.2
    have hk1 := hf.2.2.1
    have hs8 := hf.1.2.1
    obtain ⟨n, rfl⟩ : ∃ n : Nat, s = (n : Int) := ⟨s.toNat, by have := hf.2.1; omega⟩
    obtain ⟨m, rfl⟩ : ∃ m : Nat, k = (m : Int) := ⟨k.toNat, by omega⟩
    rw [Int.toNat_natCast, Int.toNat_natCast]
    have HH := Lib.hid (huntIn_yes n m (.slice A l.length c) l _ (H.out.below b0) hl hf)
    have hP := game_small (n := n) (k := m) (by omega) (by omega)
    clear hf
    go_enter Try.func30, Try.ntmps30
    go_wp2_with fail
    refine HH.out.mono ?_
    rintro e w1 ⟨cv, tv, mv, xv, lv, us, us', ul, rfl, hCR, ⟨A1, c1, rfl⟩, hx, ⟨A2, c2, rfl⟩, -, b1⟩
    have hsome := hCR.some
    obtain ⟨Ac, cc, rfl, -⟩ := hCR.closed.form
    obtain ⟨At, ct, rfl, -⟩ := hCR.taken.form
    obtain ⟨Am, cm, rfl, -⟩ := hCR.lists.1
    have hB1 := btrans b0 b1
    have HS := Lib.hid (fun cv tv mv (W : World) (hb : Below w1.heap.size w1 W) => start_grid (gameN l n m).P n (tms (gameN l n m)) cv tv mv (.slice A1 (gridG (gameN l n m).P n (tms (gameN l n m))).length c1) us' W (gridl.readsG_of_own (hx.below hb)) (by omega) hP hsome (fun p r => (tm_small _ p r).1))
    have HBW := Lib.hid (fun (ob : Obj) => (⟨(Below.refl w1.heap.size w1).alloc (Nat.le_refl _) ob, hB1.alloc hB1.size ob⟩ : Below w1.heap.size w1 (w1.alloc ob) ∧ Below w.heap.size w (w1.alloc ob)))
    clear HH b1 hx hB1 p0 p1 g0 hCR
    go_wp2_with fail
    refine (HS.out _ _ _ _ (HBW.out _).1).mono ?_
    rintro e w3 ⟨rfl, b3⟩
    have hB3 := btrans (HBW.out _).2 b3
    go_wp2_with fail
    go_ret2
    exact ⟨rfl, hB3⟩
  · rw [canO_no hf, okG_no hf]
    have HH := Lib.hid (huntIn_no s k (.slice A l.length c) l _ (H.out.below b0) hl hf)
    have HS := Lib.hid (fun (W : World) => start_grid 0 0 (fun _ _ => 0) (.slice none 0 0) (.slice none 0 0) (.slice none 0 0) (.slice none 0 0) [] W (gridl.readsG_of_own (OwnG.nil W 0)) (by omega) (by omega) (fun h => h) (fun _ _ => by omega))
    clear hf
    go_enter Try.func30, Try.ntmps30
    go_wp2_with fail
    refine HH.out.mono ?_
    rintro e w1 ⟨rfl, b1⟩
    have hB1 := btrans b0 b1
    have HBW := Lib.hid (fun (ob : Obj) => (hB1.alloc hB1.size ob : Below w.heap.size w (w1.alloc ob)))
    clear HH b1 hB1 p0 p1 g0
    go_wp2_with fail
    refine (HS.out _).mono ?_
    rintro e w3 ⟨rfl, b3⟩
    have hB3 := btrans (HBW.out _) b3
    go_wp2_with fail
    go_ret2
    exact ⟨rfl, hB3⟩
set_option maxHeartbeats 1000000 in
set_option maxRecDepth 100000 in
theorem specCan_any (s k : Int) (v : Value) (l : List Ed) (w : World) (h : Edges w v l) (hl : l.length ≤ 1048576) (hs1 : -9223372036854775808 ≤ s) (hs2 : s ≤ 9223372036854775807) :
    Calls Try.prog 29 #[.agg #[.int .i64 s, v], .int .i64 k] w fun e w' => e = .returned (.tuple #[.bool (canO s k l), .bool (okG (FieldP s l k))]) ∧ Below w.heap.size w w' := by
  obtain ⟨A, c, rfl, -⟩ := h.form
  have H := Lib.hid h
  have b0 : Below w.heap.size w (w.alloc (.cells #[.int .i64 s, .slice A l.length c] 29)) := (Below.refl _ _).alloc (Nat.le_refl _) _
  have g0 := Blk.new w 29 #[.int .i64 s, .slice A l.length c]
  have HG := Lib.hid (l4Field_any s k _ l _ (h.below b0) hl hs1 hs2)
  clear h
  by_cases hf : FieldP s l k
  · rw [canO_yes hf, okG_yes hf]
    rw [okG_yes hf] at HG
    have hk3 := hf.2.2.2
    have hs8 := hf.1.2.1
    obtain ⟨n, rfl⟩ : ∃ n : Nat, s = (n : Int) := ⟨s.toNat, by have := hf.2.1; omega⟩
    obtain ⟨m, rfl⟩ : ∃ m : Nat, k = (m : Int) := ⟨k.toNat, by have := hf.2.2.1; omega⟩
    rw [Int.toNat_natCast, Int.toNat_natCast]
    have HW := Lib.hid (fun (W : World) (hb : Below w.heap.size w W) => l4Wins_any n m (.slice A l.length c) l W (H.out.below hb) hl hf.1 (by omega) (by omega))
    clear hf hk3 hs8
    go_enter Try.func29, Try.ntmps29
    go_wp2_with fail
    refine HG.out.mono ?_
    rintro e w1 ⟨rfl, b1⟩
    have e1 := btrans b0 b1
    have g1 := g0.below b1 g0.lt
    clear HG b0 b1 g0
    obtain ⟨p0, p1, -, -⟩ := g1.two
    have HW1 := Lib.hid (HW.out w1 e1)
    go_wp2_with fail
    refine HW1.out.mono ?_
    rintro e w2 ⟨rfl, b2⟩
    go_wp2_with fail
    go_ret2
    exact ⟨rfl, btrans e1 b2⟩
  · rw [canO_no hf, okG_no hf]
    rw [okG_no hf] at HG
    clear hf
    go_enter Try.func29, Try.ntmps29
    go_wp2_with fail
    refine HG.out.mono ?_
    rintro e w1 ⟨rfl, b1⟩
    go_wp2_with fail
    go_ret2
    exact ⟨rfl, btrans b0 b1⟩
end Go.Proofs.Ytaenblnoanocbaa.lists

/- The contracts of both CopNumber. -/
namespace Go.Proofs.Ytaenblnoanocbaa.lists
open Go.RowKit P2 words edges ints good adjs fns sets rets apps gridr grid trip covs bitsI times mids filled cops
set_option linter.unusedVariables false

noncomputable def copO (s : Int) (l : List Ed) : Option Nat := if canO s 1 l = true then some 1 else if canO s 2 l = true then some 2 else if canO s 3 l = true then some 3 else none
def copV (o : Option Nat) : Int := match o with | some k => (k : Int) | none => 0
theorem copO_first {s : Int} {l : List Ed} {j : Nat} (hj : j < 3) (h : ∀ i : Nat, 1 ≤ i → i ≤ j → canO s (i : Int) l = false) (hc : canO s ((j + 1 : Nat) : Int) l = true) : copO s l = some (j + 1) := by
  unfold copO
  match j, hj with
  | 0, _ => rw [if_pos (show canO s 1 l = true from hc)]
  | 1, _ =>
    have h1 := h 1 (by omega) (by omega)
    rw [if_neg (by rw [show (1 : Int) = ((1 : Nat) : Int) from rfl, h1]; simp), if_pos (show canO s 2 l = true from hc)]
  | 2, _ =>
    have h1 := h 1 (by omega) (by omega)
    have h2 := h 2 (by omega) (by omega)
    rw [if_neg (by rw [show (1 : Int) = ((1 : Nat) : Int) from rfl, h1]; simp), if_neg (by rw [show (2 : Int) = ((2 : Nat) : Int) from rfl, h2]; simp), if_pos (show canO s 3 l = true from hc)]
theorem copO_none {s : Int} {l : List Ed} (h : ∀ i : Nat, 1 ≤ i → i ≤ 3 → canO s (i : Int) l = false) : copO s l = none := by
  have h1 := h 1 (by omega) (by omega)
  have h2 := h 2 (by omega) (by omega)
  have h3 := h 3 (by omega) (by omega)
  unfold copO
  rw [if_neg (by rw [show (1 : Int) = ((1 : Nat) : Int) from rfl, h1]; simp), if_neg (by rw [show (2 : Int) = ((2 : Nat) : Int) from rfl, h2]; simp), if_neg (by rw [show (3 : Int) = ((3 : Nat) : Int) from rfl, h3]; simp)]
theorem field_one {s : Int} {l : List Ed} {i : Nat} (h : FieldP s l 1) (h1 : 1 ≤ i) (h3 : i ≤ 3) : FieldP s l (i : Int) := ⟨h.1, h.2.1, by omega, by omega⟩
theorem can_nofield {s : Int} {l : List Ed} (h : ¬ FieldP s l 1) (i : Int) : canO s i l = false := canO_no fun hh => h ⟨hh.1, hh.2.1, by omega, by omega⟩
set_option maxHeartbeats 2000000 in
set_option maxRecDepth 100000 in
theorem implCopN_any (s : Int) (v : Value) (l : List Ed) (w : World) (h : Edges w v l) (hl : l.length ≤ 1048576) :
    Calls Try.prog 32 #[.agg #[.int .i64 s, v]] w fun e w' => e = .returned (.tuple #[.int .i64 (copV (copO s l)), .bool (copO s l).isSome]) ∧ Below w.heap.size w w' := by
  obtain ⟨A, c, rfl, -⟩ := h.form
  have H := Lib.hid h
  have HB0 : Hid (Below w.heap.size w (w.alloc (.cells #[.int .i64 s, .slice A l.length c] 29))) := (Below.refl _ _).alloc (Nat.le_refl _) _
  have HG0 := Lib.hid (Blk.new w 29 #[.int .i64 s, .slice A l.length c])
  have HCN := Lib.hid (fun (k : Int) (W : World) (hb : Below w.heap.size w W) => implCan_any s k (.slice A l.length c) l W (H.out.below hb) hl)
  clear h
  go_enter Try.func32, Try.ntmps32
  go_wp2_with fail
  go_loopg [4] 3 (fun g iv wr => ∃ j : Nat, j + g = 3 ∧ iv = .int .i64 ((j : Int) + 1) ∧ Hid (∀ i : Nat, 1 ≤ i → i ≤ j → canO s (i : Int) l = false) ∧ Blk wr w.heap.size 29 #[.int .i64 s, .slice A l.length c] ∧ Below w.heap.size w wr)
  case atStart => exact ⟨0, by omega, rfl, fun i h1 h2 => by omega, HG0.out, HB0.out⟩
  case round =>
    clear HG0 HB0
    obtain ⟨j, hjg, rfl, hno, hgb, hB⟩ := hrel
    obtain ⟨p0, p1, -, -⟩ := hgb.two
    cases gk with
    | zero =>
      obtain rfl : j = 3 := by omega
      have HV := Lib.hid (copO_none hno.out)
      have d0 : decide (((3 : Nat) : Int) + 1 ≤ 3) = false := by decide
      go_wp2_with fail
      go_ret2
      exact ⟨by rw [HV.out]; rfl, hB⟩
    | succ gg =>
      have hj3 : j < 3 := by omega
      have d0 : decide ((j : Int) + 1 ≤ 3) = true := decide_eq_true (by omega)
      have HC := Lib.hid (HCN.out ((j : Int) + 1) wr hB)
      have HGB := Lib.hid hgb
      have HB := Lib.hid hB
      have hw1 : IntKind.i64.wrap ((j : Int) + 1 + 1) = (j : Int) + 1 + 1 := IntWalk.i64_in _ (by omega)
      clear hgb hB
      cases hc : canO s ((j : Int) + 1) l with
      | true =>
        have HV := Lib.hid (copO_first hj3 hno.out hc)
        rw [hc] at HC
        clear hc hno
        go_wp2_with fail
        refine HC.out.mono ?_
        rintro e w2 ⟨rfl, b2⟩
        have HB2 := Lib.hid (btrans HB.out b2)
        clear b2
        go_wp2_with fail
        go_ret2
        exact ⟨by rw [HV.out]; rfl, HB2.out⟩
      | false =>
        have HK : Hid (∀ i : Nat, 1 ≤ i → i ≤ j + 1 → canO s (i : Int) l = false) := fun i h1 h2 => by
          by_cases e : i = j + 1
          · subst e; exact hc
          · exact hno.out i h1 (by omega)
        rw [hc] at HC
        clear hc hno
        go_wp2_with fail
        refine HC.out.mono ?_
        rintro e w2 ⟨rfl, b2⟩
        have HB2 := Lib.hid (btrans HB.out b2)
        have HG2 := Lib.hid (HGB.out.below b2 HGB.out.lt)
        clear b2
        go_wp2_with fail
        go_roundg gg
        case measure => omega
        case rel => exact ⟨j + 1, by omega, by simp, HK, HG2.out, HB2.out⟩
set_option maxHeartbeats 2000000 in
set_option maxRecDepth 100000 in
theorem specCopN_any (s : Int) (v : Value) (l : List Ed) (w : World) (h : Edges w v l) (hl : l.length ≤ 1048576) (hs1 : -9223372036854775808 ≤ s) (hs2 : s ≤ 9223372036854775807) :
    Calls Try.prog 31 #[.agg #[.int .i64 s, v]] w fun e w' => e = .returned (.tuple #[.int .i64 (copV (copO s l)), .bool (copO s l).isSome]) ∧ Below w.heap.size w w' := by
  obtain ⟨A, c, rfl, -⟩ := h.form
  have H := Lib.hid h
  have b0 : Below w.heap.size w (w.alloc (.cells #[.int .i64 s, .slice A l.length c] 29)) := (Below.refl _ _).alloc (Nat.le_refl _) _
  have g0 := Blk.new w 29 #[.int .i64 s, .slice A l.length c]
  have HG := Lib.hid (l4Field_any s 1 _ l _ (h.below b0) hl hs1 hs2)
  clear h
  by_cases hf : FieldP s l 1
  · rw [okG_yes hf] at HG
    have HF := Lib.hid hf
    have hs8 := hf.1.2.1
    obtain ⟨n, rfl⟩ : ∃ n : Nat, s = (n : Int) := ⟨s.toNat, by have := hf.2.1; omega⟩
    have HW := Lib.hid (fun (k : Nat) (hk : k ≤ 3) (W : World) (hb : Below w.heap.size w W) => l4Wins_any n k (.slice A l.length c) l W (H.out.below hb) hl hf.1 (by omega) hk)
    clear hf
    go_enter Try.func31, Try.ntmps31
    go_wp2_with fail
    refine HG.out.mono ?_
    rintro e w1 ⟨rfl, b1⟩
    have HE1 := Lib.hid (btrans b0 b1)
    have HG1 := Lib.hid (g0.below b1 g0.lt)
    clear HG b0 b1 g0
    go_wp2_with fail
    go_loopg [4] 3 (fun g iv wr => ∃ j : Nat, j + g = 3 ∧ iv = .int .i64 ((j : Int) + 1) ∧ Hid (∀ i : Nat, 1 ≤ i → i ≤ j → canO (n : Int) (i : Int) l = false) ∧ Blk wr w.heap.size 29 #[.int .i64 (n : Int), .slice A l.length c] ∧ Below w.heap.size w wr)
    case atStart => exact ⟨0, by omega, rfl, fun i h1 h2 => by omega, HG1.out, HE1.out⟩
    case round =>
      clear HG1 HE1
      obtain ⟨j, hjg, rfl, hno, hgb, hB⟩ := hrel
      obtain ⟨p0, p1, -, -⟩ := hgb.two
      cases gk with
      | zero =>
        obtain rfl : j = 3 := by omega
        have HV := Lib.hid (copO_none hno.out)
        have d0 : decide (((3 : Nat) : Int) + 1 ≤ 3) = false := by decide
        go_wp2_with fail
        go_ret2
        exact ⟨by rw [HV.out]; rfl, hB⟩
      | succ gg =>
        have hj3 : j < 3 := by omega
        have d0 : decide ((j : Int) + 1 ≤ 3) = true := decide_eq_true (by omega)
        have HC := Lib.hid (HW.out (j + 1) (by omega) wr hB)
        have hcy := canO_yes (field_one HF.out (i := j + 1) (by omega) (by omega))
        rw [Int.toNat_natCast, Int.toNat_natCast] at hcy
        rw [← hcy] at HC
        have hcast : ((j + 1 : Nat) : Int) = (j : Int) + 1 := by omega
        have HGB := Lib.hid hgb
        have HB := Lib.hid hB
        have hw1 : IntKind.i64.wrap ((j : Int) + 1 + 1) = (j : Int) + 1 + 1 := IntWalk.i64_in _ (by omega)
        rw [hcast] at HC
        clear hgb hB hcy hcast
        cases hc : canO (n : Int) ((j : Int) + 1) l with
        | true =>
          have HV := Lib.hid (copO_first hj3 hno.out hc)
          rw [hc] at HC
          clear hc hno
          go_wp2_with fail
          refine HC.out.mono ?_
          rintro e w2 ⟨rfl, b2⟩
          have HB2 := Lib.hid (btrans HB.out b2)
          clear b2
          go_wp2_with fail
          go_ret2
          exact ⟨by rw [HV.out]; rfl, HB2.out⟩
        | false =>
          have HK : Hid (∀ i : Nat, 1 ≤ i → i ≤ j + 1 → canO (n : Int) (i : Int) l = false) := fun i h1 h2 => by
            by_cases e : i = j + 1
            · subst e; exact hc
            · exact hno.out i h1 (by omega)
          rw [hc] at HC
          clear hc hno
          go_wp2_with fail
          refine HC.out.mono ?_
          rintro e w2 ⟨rfl, b2⟩
          have HB2 := Lib.hid (btrans HB.out b2)
          have HG2 := Lib.hid (HGB.out.below b2 HGB.out.lt)
          clear b2
          go_wp2_with fail
          go_roundg gg
          case measure => omega
          case rel => exact ⟨j + 1, by omega, by simp, HK, HG2.out, HB2.out⟩
  · rw [okG_no hf] at HG
    have HV := Lib.hid (copO_none (l := l) (s := s) fun i _ _ => can_nofield hf i)
    clear hf
    go_enter Try.func31, Try.ntmps31
    go_wp2_with fail
    refine HG.out.mono ?_
    rintro e w1 ⟨rfl, b1⟩
    go_wp2_with fail
    go_ret2
    exact ⟨by rw [HV.out]; rfl, btrans b0 b1⟩
end Go.Proofs.Ytaenblnoanocbaa.lists
