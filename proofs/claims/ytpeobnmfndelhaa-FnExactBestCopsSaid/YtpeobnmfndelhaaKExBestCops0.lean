/- The contract of slices.Max over integers. -/
import Derived.Handy
import Derived.Test.YtpeobnmfndelhaaK01
import Derived.Test.YtpeobnmfndelhaaK10
import Derived.Test.YtpeobnmfndelhaaK14
import Derived.Test.YtpeobnmfndelhaaK11
import Derived.Test.YtpeobnmfndelhaaK25
import Derived.Test.YtpeobnmfndelhaaK17
import Derived.Deep.DeepCutAuto
import Derived.Deep.RegionHeld3
import Derived.Test.YtpeobnmfndelhaaProg
import Derived.Deep.Slices
import Derived.Lib.SmallJoins
import Derived.OpenShut
namespace Go.Proofs.Ytpeobnmfndelhaa.maxi
open Go.RowKit P2 words ints
set_option linter.unusedVariables false

def MaxIs (xs : List Int) (M : Int) : Prop := (∀ y ∈ xs, y ≤ M) ∧ M ∈ xs
/-- the greatest so far -/
def MaxTo (xs : List Int) (k : Nat) (M : Int) : Prop := (∀ j y, j < k → xs[j]? = some y → y ≤ M) ∧ M ∈ xs
theorem MaxTo.succ {xs : List Int} {k : Nat} {M y : Int} (h : MaxTo xs k M) (hy : xs[k]? = some y) : MaxTo xs (k + 1) (if M < y then y else M) := by
  rw [show (if M < y then y else M) = max M y from by split <;> omega]
  refine ⟨fun j z hj hz => ?_, ?_⟩
  · by_cases e : j = k
    · subst e; rw [hy] at hz; cases hz; omega
    · have := h.1 j z (by omega) hz; omega
  · by_cases e : M ≤ y
    · rw [Int.max_eq_right e]; exact List.mem_of_getElem? hy
    · rw [Int.max_eq_left (by omega)]; exact h.2
theorem MaxTo.all {xs : List Int} {M : Int} (h : MaxTo xs xs.length M) : MaxIs xs M :=
  ⟨fun y hy => by
    obtain ⟨j, hj⟩ := List.mem_iff_getElem?.1 hy
    exact h.1 j y (List.getElem?_eq_some_iff.1 hj).1 hj, h.2⟩
set_option maxHeartbeats 1000000 in
theorem max_any (u : Value) (xs : List Int) (w : World) (hu : Ints w u xs) (hxl : xs.length ≤ 1048576) (h0 : 0 < xs.length) :
    Calls Try.prog 125 #[u] w fun e w' => ∃ M, e = .returned (.int .i64 M) ∧ MaxIs xs M ∧ w = w' := by
  obtain ⟨A2, c2, rfl, hc⟩ := hu.form
  have HC := Lib.hid hc
  obtain ⟨y0, hy0⟩ : ∃ y, xs[0]? = some y := ⟨_, List.getElem?_eq_getElem h0⟩
  obtain ⟨g0, o0, rfl, q0⟩ := hc 0 y0 hy0
  have HM0 : Hid (MaxTo xs 1 y0) := ⟨fun j y hj hy => by
    have : j = 0 := by omega
    subst this
    rw [hy0] at hy; cases hy; exact Int.le_refl _, List.mem_of_getElem? hy0⟩
  have h0' : ¬ ((xs.length : Int) < 1) := by omega
  have h1' : (0 : Int) < (xs.length : Int) := by omega
  clear hu hc hy0
  rw [Nat.add_zero] at q0
  go_enter Try.func125, Try.ntmps125
  go_wp2_with fail
  go_loop [3, 4] (fun m i => ∃ (k : Nat) (M : Int), k ≤ xs.length ∧ i = .int .i64 (k : Int) ∧ m = .int .i64 M ∧ Hid (MaxTo xs k M)) (fun _ i => xs.length - (intOf i).toNat)
  case atStart => exact ⟨1, y0, by omega, rfl, rfl, HM0⟩
  case round =>
    clear HM0
    obtain ⟨k, M, hk, rfl, rfl, hm⟩ := hrel
    by_cases hlt : k < xs.length
    · obtain ⟨y, hy⟩ : ∃ y, xs[k]? = some y := ⟨_, List.getElem?_eq_getElem hlt⟩
      obtain ⟨g, o, hgo, c0⟩ := HC.out k y hy
      obtain ⟨rfl, rfl⟩ : g0 = g ∧ o0 = o := by simpa using hgo
      have hlt' : (k : Int) < (xs.length : Int) := by omega
      have HM1 := Lib.hid (hm.out.succ hy)
      clear hy hm
      go_wp2_with fail
      go_round
      case rel => exact ⟨k + 1, _, by omega, by go_num, rfl, HM1⟩
      case measure => simp [intOf]; omega
    · obtain rfl : k = xs.length := by omega
      have HM1 : Hid (MaxIs xs M) := hm.out.all
      go_wp2_with fail
      go_ret
      exact ⟨M, rfl, HM1.out, rfl⟩
end Go.Proofs.Ytpeobnmfndelhaa.maxi

/- The least of the greatest times: plain mathematics. -/
namespace Go.Proofs.Ytpeobnmfndelhaa.times
open Go.RowKit P2 words fns sets covs maxi
set_option linter.unusedVariables false

/-- the greatest time of a place, -1 if one is -1 -/
def worstR (n : Nat) (T : Nat → Nat → Int) (c : Nat) : Int := worstL (fun x => x) (rowG n (T c))
def capK (n : Nat) (T : Nat → Nat → Int) : Nat → Option Nat
  | 0 => none
  | k + 1 => match capK n T k with
    | none => if 0 ≤ worstR n T k then some k else none
    | some b => if 0 ≤ worstR n T k ∧ worstR n T k < worstR n T b then some k else some b
def capN (o : Option Nat) : Int := match o with | some b => (b : Int) | none => 0
def capV (n : Nat) (T : Nat → Nat → Int) (o : Option Nat) : Int := match o with | some b => worstR n T b | none => 0
theorem capK_lt {n : Nat} {T : Nat → Nat → Int} : ∀ {k b : Nat}, capK n T k = some b → b < k ∧ 0 ≤ worstR n T b
  | 0, b, h => by cases h
  | k + 1, b, h => by
    unfold capK at h
    cases hk : capK n T k with
    | none =>
      rw [hk] at h
      simp only at h
      split at h
      · rename_i h0; cases h; exact ⟨by omega, h0⟩
      · cases h
    | some b' =>
      rw [hk] at h
      have ih := capK_lt hk
      simp only at h
      split at h
      · rename_i h0; cases h; exact ⟨by omega, h0.1⟩
      · cases h; exact ⟨by omega, ih.2⟩
theorem capK_skip {n k : Nat} {T : Nat → Nat → Int} (h : worstR n T k < 0) : capK n T (k + 1) = capK n T k := by
  show (match capK n T k with | none => _ | some b => _) = _
  cases capK n T k with
  | none => simp only; rw [if_neg (by omega)]
  | some b => simp only; rw [if_neg (by omega)]
theorem capK_first {n k : Nat} {T : Nat → Nat → Int} (h : 0 ≤ worstR n T k) (ho : capK n T k = none) : capK n T (k + 1) = some k := by
  show (match capK n T k with | none => _ | some b => _) = _
  rw [ho]; simp only; rw [if_pos h]
theorem capK_less {n k b : Nat} {T : Nat → Nat → Int} (h : 0 ≤ worstR n T k) (ho : capK n T k = some b) (hl : worstR n T k < worstR n T b) : capK n T (k + 1) = some k := by
  show (match capK n T k with | none => _ | some b => _) = _
  rw [ho]; simp only; rw [if_pos ⟨h, hl⟩]
theorem capK_more {n k b : Nat} {T : Nat → Nat → Int} (ho : capK n T k = some b) (hl : ¬ worstR n T k < worstR n T b) : capK n T (k + 1) = some b := by
  show (match capK n T k with | none => _ | some b => _) = _
  rw [ho]; simp only; rw [if_neg (fun h => hl h.2)]
theorem worst_has {n k : Nat} {T : Nat → Nat → Int} (hT : ∀ p r, -1 ≤ T p r) : decide ((-1 : Int) ∈ rowG n (T k)) = decide (worstR n T k < 0) := by
  rw [decide_eq_decide]
  unfold worstR
  constructor
  · intro h
    obtain ⟨j, hj⟩ := List.getElem?_of_mem h
    rw [worst_no hj (by omega)]; omega
  · intro h
    apply Classical.byContradiction
    intro hn
    have : 0 ≤ worstL (fun x => x) (rowG n (T k)) := worst_iff.2 fun b hb => by
      obtain ⟨x, hx, rfl⟩ := List.mem_map.1 hb
      have := hT k x
      rcases Int.lt_or_le (T k x) 0 with h9 | h9
      · exact absurd (by rw [show (-1 : Int) = T k x from by omega]; exact hb) hn
      · exact h9
    omega
theorem worst_max {n k : Nat} {T : Nat → Nat → Int} {M : Int} (h : 0 ≤ worstR n T k) (hM : MaxIs (rowG n (T k)) M) : M = worstR n T k := by
  unfold worstR at *
  have h1 := (worst_le h (j := M)).2 ⟨(worst_iff.1 h) M hM.2, hM.1⟩
  have h2 := ((worst_le h (j := worstL (fun x => x) (rowG n (T k)))).1 (Int.le_refl _)).2 M hM.2
  omega

theorem capK_none {n : Nat} {T : Nat → Nat → Int} : ∀ {k : Nat}, capK n T k = none ↔ ∀ j, j < k → worstR n T j < 0
  | 0 => ⟨fun _ j hj => by omega, fun _ => rfl⟩
  | k + 1 => by
    constructor
    · intro h j hj
      cases hk : capK n T k with
      | some b =>
        by_cases hl : worstR n T k < worstR n T b ∧ 0 ≤ worstR n T k
        · rw [capK_less hl.2 hk hl.1] at h; cases h
        · by_cases h2 : worstR n T k < worstR n T b
          · have h3 : worstR n T k < 0 := by
              apply Classical.byContradiction; intro h4; exact hl ⟨h2, by omega⟩
            rw [capK_skip h3, hk] at h; cases h
          · rw [capK_more hk h2] at h; cases h
      | none =>
        have ih := (capK_none (k := k)).1 hk
        by_cases e : j = k
        · subst e
          apply Classical.byContradiction
          intro hn
          rw [capK_first (by omega) hk] at h; cases h
        · exact ih j (by omega)
    · intro h
      rw [capK_skip (h k (by omega))]
      exact capK_none.2 fun j hj => h j (by omega)
theorem capK_some {n k j : Nat} {T : Nat → Nat → Int} (hj : j < k) (h : 0 ≤ worstR n T j) : (capK n T k).isSome = true := by
  cases hk : capK n T k with
  | some b => rfl
  | none => have := capK_none.1 hk j hj; omega
end Go.Proofs.Ytpeobnmfndelhaa.times

/- The contract of the program's start, for any game. -/
namespace Go.Proofs.Ytpeobnmfndelhaa.times
open Go.RowKit P2 words edges ints good adjs fns sets rets covs bitsI bags gridr mids idx maxi
set_option linter.unusedVariables false

set_option maxHeartbeats 4000000 in
set_option maxRecDepth 100000 in
theorem start_grid (P n : Nat) (T : Nat → Nat → Int) (cv tv mv xv : Value) (us : List Value) (w : World) (hx : ReadsG w xv us (gridG P n T)) (hn : n ≤ 8) (hP : P ≤ 200) (hPn : 0 < P → 0 < n) (hT : ∀ p r, -1 ≤ T p r) :
    Calls Try.prog 67 #[.agg #[cv, tv, mv, xv]] w fun e w' => e = .returned (.tuple #[.int .i64 (capN (capK n T P)), .int .i64 (capV n T (capK n T P)), .bool (capK n T P).isSome]) ∧ Below w.heap.size w w' := by
  obtain ⟨A, c, rfl, -⟩ := hx.1
  have HX := Lib.hid hx
  rw [gridG_len]
  have b0 : Below w.heap.size w (w.alloc (.cells #[cv, tv, mv, .slice A P c] 80)) := (Below.refl _ _).alloc (Nat.le_refl _) _
  obtain ⟨p0, p1, p2, p3⟩ := blk4 (Blk.new w 80 #[cv, tv, mv, .slice A P c])
  have HB0 := Lib.hid b0
  have HTT := Lib.hid hT
  clear hx b0 hT
  go_enter Try.func67, Try.ntmps67
  go_wp2_with fail
  clear p0 p1 p2 p3
  go_loopg [5, 6, 7, 14] P (fun g bv lv fv iv wr => ∃ (k : Nat) (o : Option Nat), k + g = P ∧ iv = .int .i64 (k : Int) ∧ Hid (capK n T k = o) ∧ bv = .int .i64 (capN o) ∧ lv = .int .i64 (capV n T o) ∧ fv = .bool o.isSome ∧ wr = w.alloc (.cells #[cv, tv, mv, .slice A P c] 80))
  case atStart => exact ⟨0, none, by omega, rfl, rfl, rfl, rfl, rfl, rfl⟩
  case round =>
    obtain ⟨k, o, hkg, rfl, ho, rfl, rfl, rfl, rfl⟩ := hrel
    cases gk with
    | zero =>
      obtain rfl : P = k := by omega
      go_wp2_with fail
      go_ret3
      exact ⟨by rw [ho.out]; rfl, HB0.out⟩
    | succ g2 =>
      have hlt : k < P := by omega
      have hlt' : (k : Int) < (P : Int) := by omega
      obtain ⟨u, g, o', hu, rfl, c0, hr⟩ := (show ReadsG w (.slice A (gridG P n T).length c) us (gridG P n T) from HX.out).row (gridG_at (n := n) hlt)
      obtain ⟨Ar, cr, rfl, -⟩ := hr.form
      have q0 := nearv.cell_keep c0 HB0.out
      have hr2 : Ints (w.alloc (.cells #[cv, tv, mv, .slice (some ⟨g, o', none⟩) P c] 80)) (.slice Ar (rowG n (T k)).length cr) (rowG n (T k)) := hr.below HB0.out
      have hrl := rowG_len n (T k)
      have HCT := Lib.hid (contains_any _ (rowG n (T k)) (-1) _ hr2 (by omega))
      have HMX := Lib.hid (fun h => max_any _ (rowG n (T k)) _ hr2 (by omega) (h : 0 < (rowG n (T k)).length))
      rw [worst_has HTT.out] at HCT
      have HRL := Lib.hid hrl
      clear hr hr2 hu c0 hrl
      by_cases hneg : worstR n T k < 0
      · rw [decide_eq_true hneg] at HCT
        have HK : Hid (capK n T (k + 1) = o) := by show _ = _; rw [capK_skip hneg]; exact ho.out
        clear hneg HMX
        go_wp2_with fail
        refine HCT.out.mono ?_
        rintro e w' ⟨rfl, rfl⟩
        go_wp2_with fail
        go_roundg g2
        case measure => omega
        case rel => exact ⟨k + 1, o, by omega, by go_num, HK, rfl, rfl, rfl, rfl⟩
      · rw [decide_eq_false hneg] at HCT
        have HM2 := Lib.hid (HMX.out (by rw [HRL.out]; omega))
        have HWM := Lib.hid (fun M (hM : MaxIs (rowG n (T k)) M) => worst_max (by omega) hM)
        cases o with
        | none =>
          have HK := Lib.hid (capK_first (by omega) ho.out)
          clear hneg HMX
          go_wp2_with fail
          refine HCT.out.mono ?_
          rintro e w' ⟨rfl, rfl⟩
          go_wp2_with fail
          refine HM2.out.mono ?_
          rintro e w' ⟨M, rfl, hM, rfl⟩
          obtain rfl := HWM.out M hM
          clear hM
          go_wp2_with fail
          go_roundg g2
          case measure => omega
          case rel => exact ⟨k + 1, some k, by omega, by go_num, HK, rfl, rfl, rfl, rfl⟩
        | some b =>
          by_cases hless : worstR n T k < worstR n T b
          · have HK := Lib.hid (capK_less (by omega) ho.out hless)
            have d0 : decide (worstR n T k < capV n T (some b)) = true := decide_eq_true hless
            clear hneg HMX hless
            go_wp2_with fail
            refine HCT.out.mono ?_
            rintro e w' ⟨rfl, rfl⟩
            go_wp2_with fail
            refine HM2.out.mono ?_
            rintro e w' ⟨M, rfl, hM, rfl⟩
            obtain rfl := HWM.out M hM
            clear hM
            go_wp2_with fail
            go_roundg g2
            case measure => omega
            case rel => exact ⟨k + 1, some k, by omega, by go_num, HK, rfl, rfl, rfl, rfl⟩
          · have HK := Lib.hid (capK_more ho.out hless)
            have d0 : decide (worstR n T k < capV n T (some b)) = false := decide_eq_false hless
            clear hneg HMX hless
            go_wp2_with fail
            refine HCT.out.mono ?_
            rintro e w' ⟨rfl, rfl⟩
            go_wp2_with fail
            refine HM2.out.mono ?_
            rintro e w' ⟨M, rfl, hM, rfl⟩
            obtain rfl := HWM.out M hM
            clear hM
            go_wp2_with fail
            go_roundg g2
            case measure => omega
            case rel => exact ⟨k + 1, some b, by omega, by go_num, HK, rfl, rfl, rfl, rfl⟩

end Go.Proofs.Ytpeobnmfndelhaa.times

/- The contracts of the model's l4Worst and l4Wins, of both CanCatch and of both CopNumber. -/
namespace Go.Proofs.Ytpeobnmfndelhaa.lists
open Go.RowKit P2 words edges ints good adjs fns sets rets apps gridr grid trip covs bitsI times mids filled cops
set_option linter.unusedVariables false

noncomputable def canO (s k : Int) (l : List Ed) : Bool := okG (FieldP s l k) && (capK s.toNat (tms (gameN l s.toNat k.toNat)) (gameN l s.toNat k.toNat).P).isSome
theorem canO_no {s k : Int} {l : List Ed} (h : ¬ FieldP s l k) : canO s k l = false := by unfold canO; rw [okG_no h]; rfl
theorem canO_yes {s k : Int} {l : List Ed} (h : FieldP s l k) : canO s k l = (capK s.toNat (tms (gameN l s.toNat k.toNat)) (gameN l s.toNat k.toNat).P).isSome := by unfold canO; rw [okG_yes h]; rfl
set_option maxHeartbeats 1000000 in
set_option maxRecDepth 100000 in
theorem l4Worst_any (u : Value) (xs : List Int) (w : World) (hu : Ints w u xs) (hxl : xs.length ≤ 1048576) :
    Calls Try.prog 64 #[u] w fun e w' => e = .returned (.int .i64 (worstL (fun x => x) xs)) ∧ w = w' := by
  obtain ⟨A, c, rfl, hc⟩ := hu.form
  have HC := Lib.hid hc
  clear hu hc
  go_enter Try.func64, Try.ntmps64
  go_wp2_with fail
  go_loop [3, 4] (fun m i => ∃ k : Nat, k ≤ xs.length ∧ i = .int .i64 (k : Int) ∧ m = .int .i64 (mostL (fun x => x) (xs.take k)) ∧ Hid (∀ j y, j < k → xs[j]? = some y → 0 ≤ y)) (fun _ i => xs.length - (intOf i).toNat)
  case atStart => exact ⟨0, Nat.zero_le _, rfl, rfl, fun j y hj => by omega⟩
  case round =>
    obtain ⟨k, hk, rfl, rfl, hal⟩ := hrel
    by_cases hlt : k < xs.length
    · have hlt' : (k : Int) < (xs.length : Int) := by omega
      obtain ⟨y, hy⟩ : ∃ y, xs[k]? = some y := ⟨_, List.getElem?_eq_getElem hlt⟩
      obtain ⟨gr, orr, rfl, q0⟩ := HC.out k y hy
      by_cases hneg : y < 0
      · have HN : Hid (worstL (fun x => x) xs = -1) := worst_no hy hneg
        have d0 : decide (y < 0) = true := decide_eq_true hneg
        clear hy hneg
        go_wp2_with fail
        go_ret
        exact ⟨ret_int HN.out.symm, rfl⟩
      · have d0 : decide (y < 0) = false := decide_eq_false hneg
        have HK : Hid (∀ j z, j < k + 1 → xs[j]? = some z → 0 ≤ z) := fun j z hj hz => by
          by_cases e : j = k
          · subst e; rw [hy] at hz; cases hz; omega
          · exact hal.out j z (by omega) hz
        have HMS := Lib.hid (mostL_succ (f := fun x => x) hy)
        have HMO := Lib.hid (fun (W : World) => minmax.l1Most_any (mostL (fun x => x) (xs.take k)) y W)
        clear hy hneg
        go_wp2_with fail
        refine (HMO.out _).mono ?_
        rintro e w' ⟨rfl, rfl⟩
        go_wp2_with fail
        go_round
        case rel => exact ⟨k + 1, by omega, by go_num, by rw [HMS.out], HK⟩
        case measure => simp [intOf]; omega
    · obtain rfl : k = xs.length := by omega
      have HE : Hid (mostL (fun x => x) xs = worstL (fun x => x) xs) := by
        show _ = _
        rw [worst_yes (fun j b hj hb => hal.out j b hj hb)]
      go_wp2_with fail
      go_ret
      exact ⟨ret_int HE.out, rfl⟩
end Go.Proofs.Ytpeobnmfndelhaa.lists

/- The contracts of both BestCops. -/
namespace Go.Proofs.Ytpeobnmfndelhaa.lists
open Go.RowKit P2 words edges ints good adjs fns sets rets apps gridr grid trip covs bitsI times mids filled cops
set_option linter.unusedVariables false

noncomputable def bestO (s k : Int) (l : List Ed) : Option Nat := capK s.toNat (tms (gameN l s.toNat k.toNat)) (gameN l s.toNat k.toNat).P
def BestP (s k : Int) (l : List Ed) : Prop := FieldP s l k ∧ (bestO s k l).isSome = true
noncomputable def bestL (s k : Int) (l : List Ed) : List Int := match bestO s k l with | some b => castL (cfg s.toNat k.toNat b) | none => []
noncomputable def bestV (s k : Int) (l : List Ed) : Int := capV s.toNat (tms (gameN l s.toNat k.toNat)) (bestO s k l)
theorem best_len (s k : Int) (l : List Ed) : (inG (BestP s k l) (bestL s k l)).length ≤ 1048576 := inG_len fun h => by
  unfold bestL
  cases hb : bestO s k l with
  | none => simp
  | some b =>
    have hl := (capK_lt hb).1
    have := cfg_len (n := s.toNat) (k := k.toNat) (p := b) hl
    have h3 := h.1.2.2.2
    show (castL (cfg s.toNat k.toNat b)).length ≤ _
    rw [castL_len, this]; omega
def RetLN (w : World) (p : Prop) (l : List Int) (x : Int) (e : Ending) (w' : World) : Prop :=
  ∃ A c, e = .returned (.tuple #[.slice A (inG p l).length c, .int .i64 (szG p x), .bool (okG p)]) ∧ w'.ownsRow w.heap.size 3 1 (.slice A (inG p l).length c) (inG p l).length (cellsI (inG p l)) ∧ Below w.heap.size w w'
theorem RetLN.yes {w w' : World} {p : Prop} {l : List Int} {x : Int} {A : Option Addr} {c : Nat} (hp : p) (ho : w'.ownsRow w.heap.size 3 1 (.slice A l.length c) l.length (cellsI l)) (hb : Below w.heap.size w w') : RetLN w p l x (.returned (.tuple #[.slice A l.length c, .int .i64 x, .bool true])) w' := by
  refine ⟨A, c, ?_, ?_, hb⟩
  · rw [inG_yes hp, szG_yes hp, okG_yes hp]
  · rw [inG_yes hp]; exact ho
theorem RetLN.no {w w' : World} {p : Prop} {l : List Int} {x : Int} {A : Option Addr} {c : Nat} (hp : ¬ p) (ho : w'.ownsRow w.heap.size 3 1 (.slice A 0 c) 0 []) (hb : Below w.heap.size w w') : RetLN w p l x (.returned (.tuple #[.slice A 0 c, .int .i64 0, .bool false])) w' := by
  refine ⟨A, c, ?_, ?_, hb⟩
  · rw [inG_no hp, szG_no hp, okG_no hp]; rfl
  · rw [inG_no hp]; exact ho
set_option maxHeartbeats 2000000 in
set_option maxRecDepth 100000 in
theorem implBestC_any (s k : Int) (v : Value) (l : List Ed) (w : World) (h : Edges w v l) (hl : l.length ≤ 1048576) :
    Calls Try.prog 26 #[.agg #[.int .i64 s, v], .int .i64 k] w (RetLN w (BestP s k l) (bestL s k l) (bestV s k l)) := by
  obtain ⟨A, c, rfl, -⟩ := h.form
  have H := Lib.hid h
  have b0 : Below w.heap.size w (w.alloc (.cells #[.int .i64 s, .slice A l.length c] 30)) := (Below.refl _ _).alloc (Nat.le_refl _) _
  have g0 := Blk.new w 30 #[.int .i64 s, .slice A l.length c]
  obtain ⟨p0, p1, -, -⟩ := g0.two
  clear h
  by_cases hf : FieldP s l k
  · have hk3 := hf.2.2.2
    have hk1 := hf.2.2.1
    have hs8 := hf.1.2.1
    obtain ⟨n, rfl⟩ : ∃ n : Nat, s = (n : Int) := ⟨s.toNat, by have := hf.2.1; omega⟩
    obtain ⟨m, rfl⟩ : ∃ m : Nat, k = (m : Int) := ⟨k.toNat, by omega⟩
    have HF := Lib.hid hf
    have HH := Lib.hid (huntIn_yes n m (.slice A l.length c) l _ (H.out.below b0) hl hf)
    have hP := game_small (n := n) (k := m) (by omega) (by omega)
    have HBO : Hid (bestO (n : Int) (m : Int) l = capK n (tms (gameN l n m)) (gameN l n m).P) := rfl
    have HBV : Hid (bestV (n : Int) (m : Int) l = capV n (tms (gameN l n m)) (capK n (tms (gameN l n m)) (gameN l n m).P)) := rfl
    clear hf
    go_enter Try.func26, Try.ntmps26
    go_wp2_with fail
    refine HH.out.mono ?_
    rintro e w1 ⟨cv, tv, mv, xv, lv, us, us', ul, rfl, hCR, ⟨A1, c1, rfl⟩, hx, ⟨A2, c2, rfl⟩, hlo, b1⟩
    have hsome := hCR.some
    obtain ⟨Ac, cc, rfl, -⟩ := hCR.closed.form
    obtain ⟨At, ct, rfl, -⟩ := hCR.taken.form
    obtain ⟨Am, cm, rfl, -⟩ := hCR.lists.1
    have hB1 := btrans b0 b1
    have hs1 := b0.size
    have HS := Lib.hid (fun cv tv mv (W : World) (hb : Below w1.heap.size w1 W) => start_grid (gameN l n m).P n (tms (gameN l n m)) cv tv mv (.slice A1 (gridG (gameN l n m).P n (tms (gameN l n m))).length c1) us' W (gridl.readsG_of_own (hx.below hb)) (by omega) hP hsome (fun p r => (tm_small _ p r).1))
    have HLO := Lib.hid (OwnG.base hlo hs1)
    have HBW := Lib.hid (fun (ob : Obj) => (⟨(Below.refl w1.heap.size w1).alloc (Nat.le_refl _) ob, hB1.alloc hB1.size ob⟩ : Below w1.heap.size w1 (w1.alloc ob) ∧ Below w.heap.size w (w1.alloc ob)))
    generalize (clos l (gameN l n m).n).length = x1 at *
    generalize (codesL (gameN l n m).P (gameN l n m).n (gameN l n m).tk).length = x2 at *
    generalize (mvG l n m).length = x3 at *
    generalize (gridG (gameN l n m).P n (tms (gameN l n m))).length = x4 at *
    have HBK := Lib.hid (Blk.new w1 82 #[.slice Ac x1 cc, .slice At x2 ct, .slice Am x3 cm, .slice A1 x4 c1, .slice A2 (rowsN (listsN n m 0)).length c2])
    clear HH b1 hx hlo hB1 p0 p1 g0 hCR
    cases hcb : capK n (tms (gameN l n m)) (gameN l n m).P with
    | none =>
      have HN : Hid (¬ BestP (n : Int) (m : Int) l) := fun hh => by
        have h_ := hh.2
        rw [HBO.out, hcb] at h_
        cases h_
      rw [hcb] at HS
      clear hcb
      go_wp2_with fail
      refine (HS.out _ _ _ _ (HBW.out _).1).mono ?_
      rintro e w3 ⟨rfl, b3⟩
      have HE3 := Lib.hid (btrans (HBW.out _).2 b3)
      clear b3
      go_wp2_with fail
      go_ret3
      exact RetLN.no HN.out (World.ownsRow_nil _ _ _ _) HE3.out
    | some b =>
      have HBP : Hid (BestP (n : Int) (m : Int) l) := ⟨HF.out, by rw [HBO.out, hcb]; rfl⟩
      have hbl := (capK_lt hcb).1
      have hrow := rowsN_at (cfg_at (n := n) (k := m) (p := b) hbl)
      have hlen : (rowsN (listsN n m 0)).length = (listsN n m 0).length := by simp [rowsN]
      have hbl' : (b : Int) < ((rowsN (listsN n m 0)).length : Int) := by rw [hlen]; exact_mod_cast hbl
      have HBL : Hid (bestL (n : Int) (m : Int) l = castL (cfg n m b)) := by
        show _ = _
        unfold bestL; rw [HBO.out, hcb]; rfl
      have HVV : Hid (bestV (n : Int) (m : Int) l = worstR n (tms (gameN l n m)) b) := by
        show _ = _
        rw [HBV.out, hcb]; rfl
      have hcN : capN (some b) = (b : Int) := rfl
      have hcV : capV n (tms (gameN l n m)) (some b) = worstR n (tms (gameN l n m)) b := rfl
      rw [hcb, hcN, hcV] at HS
      have HRW := Lib.hid hrow
      clear hcb hbl hrow hlen hcN hcV
      generalize (rowsN (listsN n m 0)).length = x5 at *
      go_wp2_with fail
      refine (HS.out _ _ _ _ (HBW.out _).1).mono ?_
      rintro e w3 ⟨rfl, b3⟩
      have HE3 := Lib.hid (btrans (HBW.out _).2 b3)
      have hb5 := HBK.out.below b3 (by simp)
      obtain ⟨t0, t1, t2, t3, t4⟩ := blk5 hb5
      have hLO3 := HLO.out.below ((HBW.out _).1.trans (b3.mono (by simp)))
      obtain ⟨u, g, o, hu, hA, q0, -⟩ := (gridl.readsG_of_own hLO3).row HRW.out
      subst hA
      have hown := hLO3.2.1 b u _ hu HRW.out
      obtain ⟨Au, cu, rfl⟩ := own_form hown
      have HOW := Lib.hid hown
      clear b3 hb5 hLO3 hu hown
      go_wp2_with fail
      go_ret3
      have h9 := RetLN.yes (l := bestL (n : Int) (m : Int) l) (A := Au) (c := cu) (x := bestV (n : Int) (m : Int) l) HBP.out (by rw [HBL.out]; exact HOW.out) HE3.out
      rw [HBL.out] at h9 ⊢
      rw [HVV.out] at h9 ⊢
      exact h9
  · have HH := Lib.hid (huntIn_no s k (.slice A l.length c) l _ (H.out.below b0) hl hf)
    have HS := Lib.hid (fun (W : World) => start_grid 0 0 (fun _ _ => 0) (.slice none 0 0) (.slice none 0 0) (.slice none 0 0) (.slice none 0 0) [] W (gridl.readsG_of_own (OwnG.nil W 0)) (by omega) (by omega) (fun h => h) (fun _ _ => by omega))
    have HN : Hid (¬ BestP s k l) := fun hh => hf hh.1
    clear hf
    go_enter Try.func26, Try.ntmps26
    go_wp2_with fail
    refine HH.out.mono ?_
    rintro e w1 ⟨rfl, b1⟩
    have hB1 := btrans b0 b1
    have HBW := Lib.hid (fun (ob : Obj) => (hB1.alloc hB1.size ob : Below w.heap.size w (w1.alloc ob)))
    clear HH b1 hB1 p0 p1 g0
    go_wp2_with fail
    refine (HS.out _).mono ?_
    rintro e w3 ⟨rfl, b3⟩
    have HE3 := Lib.hid (btrans (HBW.out _) b3)
    clear b3
    go_wp2_with fail
    go_ret3
    exact RetLN.no HN.out (World.ownsRow_nil _ _ _ _) HE3.out
/-- the place that is best so far, as the model has it -/
def bestN (o : Option Nat) : Int := match o with | some b => (b : Int) | none => -1
set_option maxHeartbeats 4000000 in
set_option maxRecDepth 100000 in
theorem specBestC_any (s k : Int) (v : Value) (l : List Ed) (w : World) (h : Edges w v l) (hl : l.length ≤ 1048576) (hs1 : -9223372036854775808 ≤ s) (hs2 : s ≤ 9223372036854775807) :
    Calls Try.prog 25 #[.agg #[.int .i64 s, v], .int .i64 k] w (RetLN w (BestP s k l) (bestL s k l) (bestV s k l)) := by
  obtain ⟨A, c, rfl, -⟩ := h.form
  have H := Lib.hid h
  have b0 : Below w.heap.size w (w.alloc (.cells #[.int .i64 s, .slice A l.length c] 30)) := (Below.refl _ _).alloc (Nat.le_refl _) _
  have g0 := Blk.new w 30 #[.int .i64 s, .slice A l.length c]
  have HG := Lib.hid (l4Field_any s k _ l _ (h.below b0) hl hs1 hs2)
  clear h
  by_cases hf : FieldP s l k
  · rw [okG_yes hf] at HG
    have hk3 := hf.2.2.2
    have hk1 := hf.2.2.1
    have hs8 := hf.1.2.1
    obtain ⟨n, rfl⟩ : ∃ n : Nat, s = (n : Int) := ⟨s.toNat, by have := hf.2.1; omega⟩
    obtain ⟨m, rfl⟩ : ∃ m : Nat, k = (m : Int) := ⟨k.toNat, by have := hf.2.2.1; omega⟩
    have HF := Lib.hid hf
    have hP := game_small (n := n) (k := m) (by omega) (by omega)
    have hPl : (gameN l n m).P = (listsN n m 0).length := rfl
    rw [← hPl] at hP
    have HBO : Hid (bestO (n : Int) (m : Int) l = capK n (tms (gameN l n m)) (gameN l n m).P) := rfl
    have HBV : Hid (bestV (n : Int) (m : Int) l = capV n (tms (gameN l n m)) (capK n (tms (gameN l n m)) (gameN l n m).P)) := rfl
    have HM := Lib.hid (fun (W : World) (hb : Below w.heap.size w W) => l4Make_any n m (.slice A l.length c) l W (H.out.below hb) hl hf.1 (by omega) (by omega))
    have HT := Lib.hid (fun fv mv bv uf um ub (W : World) (h : HS W l n m fv mv bv uf um ub) => l4Times_any n m fv mv bv uf um ub l W h (by omega) (by omega))
    clear hf
    go_enter Try.func25, Try.ntmps25
    go_wp2_with fail
    refine HG.out.mono ?_
    rintro e w1 ⟨rfl, b1⟩
    have e1 := btrans b0 b1
    have g1 := g0.below b1 g0.lt
    clear HG b0 b1 g0
    obtain ⟨p0, p1, -, -⟩ := g1.two
    have HM1 := Lib.hid (HM.out w1 e1)
    go_wp2_with fail
    refine HM1.out.mono ?_
    rintro e w2 ⟨fv, mv, bv, uf, um, ub, rfl, hs, b2⟩
    obtain ⟨Af, cf, rfl, -⟩ := hs.cfgs.1
    obtain ⟨Am, cm, rfl, -⟩ := hs.moves.1
    obtain ⟨Ab, cb, rfl, -⟩ := hs.balls.1
    have hlen : (rowsN (listsN n m 0)).length = (gameN l n m).P := by simp [rowsN, hPl]
    have e2 := btrans e1 b2
    have b3 : Below w2.heap.size w2 (w2.alloc (.cells #[.slice Af (rowsN (listsN n m 0)).length cf, .slice Am (mvG l n m).length cm, .slice Ab (ballG l n).length cb] 75)) := (Below.refl _ _).alloc (Nat.le_refl _) _
    have g3 := Blk.new w2 75 #[.slice Af (rowsN (listsN n m 0)).length cf, .slice Am (mvG l n m).length cm, .slice Ab (ballG l n).length cb]
    have HT2 := Lib.hid (HT.out _ _ _ uf um ub _ (hs.below b3))
    have HCF := Lib.hid (hs.cfgs.below b3)
    have HE3 := Lib.hid (btrans e2 b3)
    have HG3 := Lib.hid g3
    obtain ⟨t0, t1, t2⟩ := blk3 g3
    rw [hlen] at HT2 HCF HG3 t0
    clear hs b2 e1 g1 p0 p1 b3 e2 g3 HM1 HM HT
    have HLN := Lib.hid hlen
    rw [hlen] at HE3
    generalize (mvG l n m).length = x2 at *
    generalize (ballG l n).length = x3 at *
    rw [hlen]
    clear hlen hPl
    go_wp2_with fail
    refine HT2.out.mono ?_
    rintro e w3 ⟨A3, c3, u3, rfl, o3, b4⟩
    have HR := Lib.hid (gridl.readsG_of_own o3)
    have HE4 := Lib.hid (btrans HE3.out b4)
    have HCF4 := Lib.hid (HCF.out.below b4)
    have hg4 := HG3.out.below b4 HG3.out.lt
    obtain ⟨r0, r1, r2⟩ := blk3 hg4
    have HG4 := Lib.hid hg4
    clear o3 b4 t0 t1 t2 hg4 HT2
    go_wp2_with fail
    generalize hPP : (gameN l n m).P = P at *
    have HPP := Lib.hid hPP
    clear hPP
    go_loopg [9, 10] P (fun g bv iv wr => ∃ j : Nat, j + g = P ∧ iv = .int .i64 (j : Int) ∧ bv = .int .i64 (bestN (capK n (tms (gameN l n m)) j)) ∧ wr = w3)
    case atStart => exact ⟨0, by omega, rfl, rfl, rfl⟩
    case round =>
      obtain ⟨j, hjg, rfl, rfl, rfl⟩ := hrel
      cases gk with
      | zero =>
        obtain rfl : j = P := by omega
        cases hcb : capK n (tms (gameN l n m)) j with
        | none =>
          have HN : Hid (¬ BestP (n : Int) (m : Int) l) := fun hh => by
            have h_ := hh.2
            rw [HBO.out, hcb] at h_
            cases h_
          have hb1 : bestN none = -1 := rfl
          have HO := Lib.hid (own_new0 wr 3 1)
          clear hcb
          rw [hb1]
          go_wp2_with fail
          go_ret3
          exact RetLN.no HN.out (own_base HO.out HE4.out.size) (HE4.out.alloc HE4.out.size _)
        | some b =>
          have HBP : Hid (BestP (n : Int) (m : Int) l) := ⟨HF.out, by rw [HBO.out, hcb]; rfl⟩
          have hbl := (capK_lt hcb).1
          have hrow := rowsN_at (cfg_at (n := n) (k := m) (p := b) (by have := HPP.out; have h9 : (gameN l n m).P = (listsN n m 0).length := rfl; omega))
          have HBL : Hid (bestL (n : Int) (m : Int) l = castL (cfg n m b)) := by
            show _ = _
            unfold bestL; rw [HBO.out, hcb]; rfl
          have HVV : Hid (bestV (n : Int) (m : Int) l = worstR n (tms (gameN l n m)) b) := by
            show _ = _
            rw [HBV.out, hcb]; rfl
          have hb1 : bestN (some b) = (b : Int) := rfl
          have hb0 : ¬ (b : Int) < 0 := by omega
          have hbP : (b : Int) < (j : Int) := by omega
          have hb00 : (0 : Int) ≤ (b : Int) := by omega
          obtain ⟨u, g, o, -, hA, q0, hr⟩ := HCF4.out.row hrow
          subst hA
          obtain ⟨Au, cu, rfl, -⟩ := hr.form
          obtain ⟨u2, g2, o2, -, hA2, q2, hr2⟩ := HR.out.row (gridG_at (T := tms (gameN l n m)) (n := n) hbl)
          subst hA2
          obtain ⟨Ar, cr, rfl, -⟩ := hr2.form
          have hcl : (castL (cfg n m b)).length ≤ 3 := by rw [castL_len, cfg_len (by have := HPP.out; have h9 : (gameN l n m).P = (listsN n m 0).length := rfl; omega)]; omega
          have HOW := Lib.hid (fun (W : World) (hW : Below wr.heap.size wr W) => l1Own_any (.slice Au (castL (cfg n m b)).length cu) (castL (cfg n m b)) W (hr.below hW) (by omega))
          have HWO := Lib.hid (fun (W : World) (hW : Below wr.heap.size wr W) => l4Worst_any (.slice Ar (rowG n (tms (gameN l n m) b)).length cr) (rowG n (tms (gameN l n m) b)) W (hr2.below hW) (by rw [rowG_len]; omega))
          have hwr : worstL (fun x => x) (rowG n (tms (gameN l n m) b)) = worstR n (tms (gameN l n m)) b := rfl
          rw [hwr] at HWO
          have HQ := Lib.hid (And.intro q0 q2)
          clear hcb hrow hr hr2 hwr hbl
          rw [hb1]
          generalize (rowG n (tms (gameN l n m) b)).length = rl at *
          go_wp2_with fail
          refine wp_region_held_drew (S := (fun w' : World => w'.cell? ⟨w2.heap.size, 0, none⟩ = some (.slice (some ⟨g, o, none⟩) j cf) ∧ w'.cell? ⟨g, o + b, none⟩ = some (.slice Au (castL (cfg n m b)).length cu) ∧ w'.cell? ⟨g2, o2 + b, none⟩ = some (.slice Ar rl cr))) (by kernel_rfl) (by (try dsimp only); simp [*]) (fun hHeld => ?_)
          change wpAnyH _ _ _ _ _ _ #[false, false, false, false, false, false, false, false, false, false, false, false, false, false] _ _
          refine wpAnyH_take (i := 0) (oi := ⟨some 52, _, _, _, _, _⟩) (v := ?_) rfl (by kernel_rfl) (by kernel_rfl) (by kernel_rfl) (fun _ _ _ h => h) (Or.inl ⟨by rfl, ?_⟩) (by assumption) ?_
          rotate_left
          · (intro w hSw; (try dsimp only at hSw); go_simp; (try (with_reducible rfl)))
          try simp only [Act.put, List.setIfInBounds_toArray, List.set_cons_zero, List.set_cons_succ]
          refine wpAnyH_take (i := 1) (oi := ⟨some 53, _, _, _, _, _⟩) (v := ?_) rfl (by kernel_rfl) (by kernel_rfl) (by kernel_rfl) (fun _ _ _ h => h) (Or.inl ⟨by rfl, ?_⟩) (by assumption) ?_
          rotate_left
          · (intro w hSw; (try dsimp only at hSw); go_simp; (try (with_reducible rfl)))
          try simp only [Act.put, List.setIfInBounds_toArray, List.set_cons_zero, List.set_cons_succ]
          refine wpAnyH_take (i := 2) (oi := ⟨some 54, _, _, _, _, _⟩) (v := ?_) rfl (by kernel_rfl) (by kernel_rfl) (by kernel_rfl) (fun _ _ _ h => h) (Or.inl ⟨by rfl, ?_⟩) (by assumption) ?_
          rotate_left
          · (intro w hSw; (try dsimp only at hSw); go_simp; (try (with_reducible rfl)))
          try simp only [Act.put, List.setIfInBounds_toArray, List.set_cons_zero, List.set_cons_succ]
          refine wpAnyH_take (i := 3) (oi := ⟨some 55, _, _, _, _, _⟩) (v := ?_) rfl (by kernel_rfl) (by kernel_rfl) (by kernel_rfl) (fun _ _ _ h => h) (Or.inl ⟨by rfl, ?_⟩) (by assumption) ?_
          rotate_left
          · (intro w hSw; (try dsimp only at hSw); go_simp; (try (with_reducible rfl)))
          try simp only [Act.put, List.setIfInBounds_toArray, List.set_cons_zero, List.set_cons_succ]
          refine wpAnyH_take (i := 4) (oi := ⟨some 56, _, _, _, _, _⟩) (v := ?_) rfl (by kernel_rfl) (by kernel_rfl) (by kernel_rfl) (fun _ _ _ h => h) (Or.inl ⟨by rfl, ?_⟩) (by assumption) ?_
          rotate_left
          · (intro w hSw; (try dsimp only at hSw); go_simp; (try (with_reducible rfl)))
          try simp only [Act.put, List.setIfInBounds_toArray, List.set_cons_zero, List.set_cons_succ]
          refine wpAnyH_take (i := 6) (oi := ⟨some 58, _, _, _, _, _⟩) (v := ?_) rfl (by kernel_rfl) (by kernel_rfl) (by kernel_rfl) (fun _ _ _ h => h) (Or.inl ⟨by rfl, ?_⟩) (by assumption) ?_
          rotate_left
          · (intro w hSw; (try dsimp only at hSw); go_simp; (try (with_reducible rfl)))
          try simp only [Act.put, List.setIfInBounds_toArray, List.set_cons_zero, List.set_cons_succ]
          refine wpAnyH_take (i := 7) (oi := ⟨some 59, _, _, _, _, _⟩) (v := ?_) rfl (by kernel_rfl) (by kernel_rfl) (by kernel_rfl) (fun _ _ _ h => h) (Or.inl ⟨by rfl, ?_⟩) (by assumption) ?_
          rotate_left
          · (intro w hSw; (try dsimp only at hSw); go_simp; (try (with_reducible rfl)))
          try simp only [Act.put, List.setIfInBounds_toArray, List.set_cons_zero, List.set_cons_succ]
          refine wpAnyH_take (i := 8) (oi := ⟨some 60, _, _, _, _, _⟩) (v := ?_) rfl (by kernel_rfl) (by kernel_rfl) (by kernel_rfl) (fun _ _ _ h => h) (Or.inl ⟨by rfl, ?_⟩) (by assumption) ?_
          rotate_left
          · (intro w hSw; (try dsimp only at hSw); go_simp; (try (with_reducible rfl)))
          try simp only [Act.put, List.setIfInBounds_toArray, List.set_cons_zero, List.set_cons_succ]
          refine wpAnyH_take (i := 9) (oi := ⟨some 61, _, _, _, _, _⟩) (v := ?_) rfl (by kernel_rfl) (by kernel_rfl) (by kernel_rfl) (fun _ _ _ h => h) (Or.inl ⟨by rfl, ?_⟩) (by assumption) ?_
          rotate_left
          · (intro w hSw; (try dsimp only at hSw); go_simp; (try (with_reducible rfl)))
          try simp only [Act.put, List.setIfInBounds_toArray, List.set_cons_zero, List.set_cons_succ]
          refine wpAnyH_ready (rs := [5]) (by kernel_rfl) (by simp) ?_
          refine AllReadyH.cons (o := ⟨some 57, _, _, _, _, _⟩) rfl (fun K hK => ?_) AllReadyH.nil
          go_simp
          refine (HOW.out wr.drew (Below.refl _ _).drew).mono ?_; rintro e w4 ⟨A5, c5, rfl, o5, b5⟩; have d5 : Below wr.heap.size wr w4 := (Below.refl _ _).drew.trans b5; have k0 := nearv.cell_keep r0 d5; have k1 := nearv.cell_keep HQ.out.1 d5; have k2 := nearv.cell_keep HQ.out.2 d5; have HW5 := Lib.hid (HWO.out w4 d5)
          go_wp2_with fail
          refine hK.out _ _ (by (try dsimp only); simp [*]) (fun hHeld => ?_)
          clear hK K
          try simp only [List.setIfInBounds_toArray, List.set_cons_zero, List.set_cons_succ]
          refine wpAnyH_ready (rs := [10]) (by kernel_rfl) (by simp) ?_
          refine AllReadyH.cons (o := ⟨some 62, _, _, _, _, _⟩) rfl (fun K hK => ?_) AllReadyH.nil
          go_simp
          refine HW5.out.mono ?_; rintro e w' ⟨rfl, rfl⟩
          go_wp2_with fail
          refine hK.out _ _ (by (try dsimp only); simp [*]) (fun hHeld => ?_)
          clear hK K
          try simp only [List.setIfInBounds_toArray, List.set_cons_zero, List.set_cons_succ]
          refine wpAnyH_take (i := 11) (oi := ⟨some 4, _, _, _, _, _⟩) (v := ?_) rfl (by kernel_rfl) (by kernel_rfl) (by kernel_rfl) (fun _ _ _ h => h) (Or.inl ⟨by rfl, ?_⟩) (by assumption) ?_
          rotate_left
          · (intro w hSw; (try dsimp only at hSw); go_simp; (try (with_reducible rfl)))
          try simp only [Act.put, List.setIfInBounds_toArray, List.set_cons_zero, List.set_cons_succ]
          refine wpAnyH_take (i := 12) (oi := ⟨some 5, _, _, _, _, _⟩) (v := ?_) rfl (by kernel_rfl) (by kernel_rfl) (by kernel_rfl) (fun _ _ _ h => h) (Or.inl ⟨by rfl, ?_⟩) (by assumption) ?_
          rotate_left
          · (intro w hSw; (try dsimp only at hSw); go_simp; (try (with_reducible rfl)))
          try simp only [Act.put, List.setIfInBounds_toArray, List.set_cons_zero, List.set_cons_succ]
          refine wpAnyH_take (i := 13) (oi := ⟨some 6, _, _, _, _, _⟩) (v := ?_) rfl (by kernel_rfl) (by kernel_rfl) (by kernel_rfl) (fun _ _ _ h => h) (Or.inl ⟨by rfl, ?_⟩) (by assumption) ?_
          rotate_left
          · (intro w hSw; (try dsimp only at hSw); go_simp; (try (with_reducible rfl)))
          try simp only [Act.put, List.setIfInBounds_toArray, List.set_cons_zero, List.set_cons_succ]
          refine wpAnyH_done (by kernel_rfl) ?_ _
          have HO5 := Lib.hid (own_base (B' := w.heap.size) o5 HE4.out.size)
          have HE5 := Lib.hid (btrans HE4.out d5)
          clear o5 b5 d5 k0 k1 k2 hHeld q0 q2 r0 r1 r2
          go_wp2_with fail
          go_ret3
          have h9 := RetLN.yes (l := bestL (n : Int) (m : Int) l) (A := A5) (c := c5) (x := bestV (n : Int) (m : Int) l) HBP.out (by rw [HBL.out]; exact HO5.out) HE5.out
          rw [HBL.out] at h9 ⊢
          rw [HVV.out] at h9 ⊢
          exact h9
      | succ gg =>
        have hlt : j < P := by omega
        have hlt' : (j : Int) < (P : Int) := by omega
        obtain ⟨u, g, o, hu, hAx, c0, hr⟩ := HR.out.row (gridG_at (T := tms (gameN l n m)) (n := n) hlt)
        subst hAx
        obtain ⟨Ar, cr, rfl, -⟩ := hr.form
        have HWO := Lib.hid (l4Worst_any _ (rowG n (tms (gameN l n m) j)) wr hr (by rw [rowG_len]; omega))
        have hwr : worstL (fun x => x) (rowG n (tms (gameN l n m) j)) = worstR n (tms (gameN l n m)) j := rfl
        rw [hwr] at HWO
        clear hr hu hwr
        by_cases hneg : worstR n (tms (gameN l n m)) j < 0
        · have HK := Lib.hid (capK_skip hneg)
          have d0 : decide (0 ≤ worstR n (tms (gameN l n m)) j) = false := decide_eq_false (by omega)
          clear hneg
          generalize worstR n (tms (gameN l n m)) j = wv at *
          go_wp2_with fail
          refine HWO.out.mono ?_
          rintro e w' ⟨rfl, rfl⟩
          go_wp2_with fail
          go_roundg gg
          case measure => omega
          case rel => exact ⟨j + 1, by omega, by go_num, by rw [HK.out], rfl⟩
        · have d0 : decide (0 ≤ worstR n (tms (gameN l n m)) j) = true := decide_eq_true (by omega)
          cases hcb : capK n (tms (gameN l n m)) j with
          | none =>
            have HK := Lib.hid (capK_first (by omega) hcb)
            have hb1 : bestN none = -1 := rfl
            rw [hb1]
            clear hneg hcb
            generalize worstR n (tms (gameN l n m)) j = wv at *
            go_wp2_with fail
            refine HWO.out.mono ?_
            rintro e w' ⟨rfl, rfl⟩
            go_wp2_with fail
            go_roundg gg
            case measure => omega
            case rel => exact ⟨j + 1, by omega, by go_num, by rw [HK.out]; rfl, rfl⟩
          | some b =>
            have hbl := (capK_lt hcb).1
            have hb1 : bestN (some b) = (b : Int) := rfl
            have hb0 : decide ((b : Int) < 0) = false := decide_eq_false (by omega)
            have hbP : (b : Int) < (P : Int) := by omega
            have hb00 : (0 : Int) ≤ (b : Int) := by omega
            obtain ⟨u2, g2, o2, -, hA2, q2, hr2⟩ := HR.out.row (gridG_at (T := tms (gameN l n m)) (n := n) (show b < P by omega))
            obtain ⟨rfl, rfl⟩ : g = g2 ∧ o = o2 := by simpa using hA2
            obtain ⟨Ar2, cr2, rfl, -⟩ := hr2.form
            have HWO2 := Lib.hid (l4Worst_any _ (rowG n (tms (gameN l n m) b)) wr hr2 (by rw [rowG_len]; omega))
            have hwr : worstL (fun x => x) (rowG n (tms (gameN l n m) b)) = worstR n (tms (gameN l n m)) b := rfl
            rw [hwr] at HWO2
            rw [hb1]
            by_cases hls : worstR n (tms (gameN l n m)) j < worstR n (tms (gameN l n m)) b
            · have HK := Lib.hid (capK_less (by omega) hcb hls)
              have d1 : decide (worstR n (tms (gameN l n m)) j < worstR n (tms (gameN l n m)) b) = true := decide_eq_true hls
              clear hneg hcb hls hwr hr2 hbl hA2
              generalize worstR n (tms (gameN l n m)) j = wv at *
              generalize worstR n (tms (gameN l n m)) b = wb at *
              go_wp2_with fail
              refine HWO.out.mono ?_
              rintro e w' ⟨rfl, rfl⟩
              go_wp2_with fail
              refine HWO2.out.mono ?_
              rintro e w' ⟨rfl, rfl⟩
              go_wp2_with fail
              go_roundg gg
              case measure => omega
              case rel => exact ⟨j + 1, by omega, by go_num, by rw [HK.out]; rfl, rfl⟩
            · have HK := Lib.hid (capK_more hcb hls)
              have d1 : decide (worstR n (tms (gameN l n m)) j < worstR n (tms (gameN l n m)) b) = false := decide_eq_false hls
              clear hneg hcb hls hwr hr2 hbl hA2
              generalize worstR n (tms (gameN l n m)) j = wv at *
              generalize worstR n (tms (gameN l n m)) b = wb at *
              go_wp2_with fail
              refine HWO.out.mono ?_
              rintro e w' ⟨rfl, rfl⟩
              go_wp2_with fail
              refine HWO2.out.mono ?_
              rintro e w' ⟨rfl, rfl⟩
              go_wp2_with fail
              go_roundg gg
              case measure => omega
              case rel => exact ⟨j + 1, by omega, by go_num, by rw [HK.out]; rfl, rfl⟩
  · rw [okG_no hf] at HG
    have HN : Hid (¬ BestP s k l) := fun hh => hf hh.1
    clear hf
    go_enter Try.func25, Try.ntmps25
    go_wp2_with fail
    refine HG.out.mono ?_
    rintro e w1 ⟨rfl, b1⟩
    have HE1 := Lib.hid (btrans b0 b1)
    have HO := Lib.hid (own_new0 w1 3 1)
    clear b0 b1 g0
    go_wp2_with fail
    go_ret3
    exact RetLN.no HN.out (own_base HO.out HE1.out.size) (HE1.out.alloc HE1.out.size _)
end Go.Proofs.Ytpeobnmfndelhaa.lists

/- Arguments of the laws, opened: a Graph as it came in, a slice of integers as it came in. -/
namespace Go.Proofs.Ytpeobnmfndelhaa.opens
open Go.RowKit Go.Joins Go.ChangeShapes Go.WideShapes Go.Deep P2 words

theorem addr_add (g o j : Nat) : (⟨g, o, none⟩ : Addr).add j = ⟨g, o + j, none⟩ := by unfold Addr.add; split <;> simp_all
theorem add_of_add (a : Addr) (i j : Nat) : (a.add i).add j = a.add (i + j) := by
  unfold Addr.add
  by_cases hi : i = 0 <;> by_cases hj : j = 0 <;> simp [hi, hj, Nat.add_assoc]

/-- what is told of a Graph that came in -/
def IsGr (w : World) (s : Int) (v : Value) (l : List Ed) : Prop :=
  Edges w v l ∧ l.length ≤ maxLen ∧ -9223372036854775808 ≤ s ∧ s ≤ 9223372036854775807

theorem bounds64 {n : Int} (h : (Lit.int .i64 n).wf = true) : -9223372036854775808 ≤ n ∧ n ≤ 9223372036854775807 := by
  simp [Lit.wf, IntKind.min, IntKind.max, IntKind.signed, IntKind.bits] at h
  omega

/-- what is told of a slice of integers that came in -/
def IsIn (w : World) (v : Value) (l : List Int) : Prop := Ints w v l ∧ l.length ≤ maxLen ∧ ∀ x ∈ l, -9223372036854775808 ≤ x ∧ x ≤ 9223372036854775807

section
variable {H : Type} {enc : TypeId × Value → H} {w : World} {spare : Nat → Bool} {held : Bool}
theorem open_edges {fuel : Nat} {v : Value} {x : DataW H × List MemPlace} (h : DataW.trod enc Try.prog w 0 spare held fuel 22 [v] = some x) :
    ∃ l : List Ed, Edges w v l ∧ l.length ≤ maxLen := by
  rcases open_slice Try.underlying22 h with ⟨hv, _⟩ | ⟨a, len, cap, m, n, D, Pl, hv, _, hl, hm, hmm, _, hi⟩
  · obtain rfl : v = .slice none 0 0 := by simpa using hv
    exact ⟨[], Reads.nil _ _, Nat.zero_le _⟩
  · obtain rfl : v = .slice (some a) len cap := by simpa using hv
    have hlm : len ≤ m := by rw [hmm]; split <;> omega
    have hC : Try.prog.cellsOf 115 = 2 := by kernel_rfl
    have hC1 : Try.prog.cellsOf 3 = 1 := by kernel_rfl
    rw [hC] at hi
    have key : ∀ i, i < len → ∃ e : Ed, w.cell? (a.add (i * 2)) = some (.int .i64 e.1) ∧ w.cell? (a.add (i * 2 + 1)) = some (.int .i64 e.2) := fun i hil => by
      obtain ⟨cs', hc, ht⟩ := hi i (by omega)
      obtain ⟨xs, m', _, _, _, hxl, he⟩ := DataW.trod_array Try.underlying115 ht
      obtain ⟨_, hcl, hat⟩ := World.cells?_some hc
      rw [hC1] at he
      match cs', hcl with
      | [c0, c1], _ =>
        match xs, hxl with
        | [y0, y1], _ =>
          have e0 : DataW.trod enc Try.prog w 0 spare held m' 3 [c0] = some y0 := he 0 (by decide)
          have e1 : DataW.trod enc Try.prog w 0 spare held m' 3 [c1] = some y1 := he 1 (by decide)
          obtain ⟨n0, h0, _, _⟩ := DataW.trod_int Try.underlying3 e0
          obtain ⟨n1, h1, _, _⟩ := DataW.trod_int Try.underlying3 e1
          obtain rfl : c0 = .int .i64 n0 := by simpa using h0
          obtain rfl : c1 = .int .i64 n1 := by simpa using h1
          have a0 := hat 0 (by decide)
          have a1 := hat 1 (by decide)
          rw [add_of_add] at a0 a1
          exact ⟨(n0, n1), by simpa using a0, by simpa using a1⟩
    obtain ⟨f, hf⟩ := choose_lt (α := Ed) key
    refine ⟨(List.range len).map f, ⟨some a, cap, by simp, fun hn => ?_⟩, by simp; omega⟩
    simp only [List.length_map, List.length_range] at hn ⊢
    obtain ⟨b, off, spot⟩ := a
    have hc0 := (hf 0 hn).1
    have hspot : spot = none := by simpa [Addr.add] using World.cell?_spot hc0
    subst hspot
    refine ⟨b, off, rfl, hl, fun j u hu => ?_⟩
    have hjl : j < len * 2 := by
      have := (List.getElem?_eq_some_iff.1 hu).1
      rw [cellsE_len] at this; simpa using this
    obtain ⟨k, hk⟩ : ∃ k, k = j / 2 := ⟨_, rfl⟩
    have hkl : k < len := by omega
    have hkf : ((List.range len).map f)[k]? = some (f k) := by simp [hkl]
    have hck := cellsE_at hkf
    have hcl := hf k hkl
    rw [addr_add, addr_add] at hcl
    rcases Nat.mod_two_eq_zero_or_one j with h0 | h0
    · obtain rfl : j = k * 2 := by omega
      rw [hck.1] at hu
      rw [hcl.1, ← hu]
    · obtain rfl : j = k * 2 + 1 := by omega
      rw [hck.2] at hu
      rw [hcl.2, ← hu]

set_option maxRecDepth 100000 in
theorem open_graph {r : Reach} {b0 : Nat} {v : Value} {d : DataW H} {p : List MemPlace} (hv : Value.okWide Try.prog w r b0 24 v)
    (h : DataW.Trod enc Try.prog w 0 spare held 24 v d p) : ∃ s u l, v = .agg #[.int .i64 s, u] ∧ IsGr w s u l := by
  obtain ⟨c0, c1, y0, y1, m, rfl, _, _, h0, h1⟩ := open_agg2 Try.underlying24 (by kernel_rfl) (by kernel_rfl) hv h
  obtain ⟨n0, k0, _, w0⟩ := DataW.trod_int Try.underlying3 h0
  obtain rfl : c0 = .int .i64 n0 := by simpa using k0
  obtain ⟨l, he, hl⟩ := open_edges h1
  exact ⟨n0, c1, l, rfl, he, hl, bounds64 w0⟩

set_option maxRecDepth 100000 in
theorem open_intsl {r : Reach} {b0 : Nat} {v : Value} {d : DataW H} {p : List MemPlace} (hv : Value.okWide Try.prog w r b0 25 v)
    (h : DataW.Trod enc Try.prog w 0 spare held 25 v d p) : ∃ u l, v = u ∧ IsIn w u l := by
  obtain ⟨A, len, cap, rfl⟩ := okWide_slice Try.underlying25 hv
  obtain ⟨fuel, hf⟩ := h
  simp only [Value.cells] at hf
  rcases open_slice Try.underlying25 hf with ⟨hv, _⟩ | ⟨a, len', cap', m, n, D, Pl, hv, _, hl, hm, hmm, _, hi⟩
  · have e : Value.slice A len cap = .slice none 0 0 := by simpa using hv
    rw [e]
    exact ⟨_, [], rfl, Reads.nil _ _, Nat.zero_le _, fun x hx => by cases hx⟩
  · have e : Value.slice A len cap = .slice (some a) len' cap' := by simpa using hv
    rw [e]
    have hlm : len' ≤ m := by rw [hmm]; split <;> omega
    have hC1 : Try.prog.cellsOf 3 = 1 := by kernel_rfl
    rw [hC1] at hi
    have key : ∀ i, i < len' → ∃ x : Int, w.cell? (a.add i) = some (.int .i64 x) ∧ (Lit.int .i64 x).wf = true := fun i hil => by
      obtain ⟨cs', hc, ht⟩ := hi i (by omega)
      obtain ⟨_, hcl, hat⟩ := World.cells?_some hc
      match cs', hcl with
      | [c0], _ =>
        obtain ⟨n0, h0, _, hw⟩ := DataW.trod_int Try.underlying3 ht
        obtain rfl : c0 = .int .i64 n0 := by simpa using h0
        have a0 := hat 0 (by decide)
        rw [add_of_add, Nat.mul_one] at a0
        exact ⟨n0, by simpa using a0, hw⟩
    obtain ⟨f, hf⟩ := choose_lt (α := Int) key
    refine ⟨_, (List.range len').map f, rfl, ⟨some a, cap', by simp, fun hn => ?_⟩, by simp; omega, fun x hx => ?_⟩
    · simp only [List.length_map, List.length_range] at hn ⊢
      obtain ⟨b, off, spot⟩ := a
      have hc0 := (hf 0 hn).1
      have hspot : spot = none := by simpa [Addr.add] using World.cell?_spot hc0
      subst hspot
      refine ⟨b, off, rfl, hl, fun j u hu => ?_⟩
      have hjl : j < len' := by
        have := (List.getElem?_eq_some_iff.1 hu).1
        rw [cellsI_len] at this; simpa using this
      have hcl := (hf j hjl).1
      rw [addr_add] at hcl
      have hkf : ((List.range len').map f)[j]? = some (f j) := by simp [hjl]
      rw [cellsI_at hkf] at hu
      rw [hcl, ← hu]
    · simp only [List.mem_map, List.mem_range] at hx
      obtain ⟨j, hj, rfl⟩ := hx
      exact bounds64 (hf j hj).2
end
end Go.Proofs.Ytpeobnmfndelhaa.opens
