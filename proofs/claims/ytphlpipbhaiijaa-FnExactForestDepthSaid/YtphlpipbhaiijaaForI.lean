/- Forests: the contracts of the program's aboveIn, IsForest and ForestDepth. -/
import Derived.Handy
import Derived.Test.YtphlpipbhaiijaaForM
import Derived.Test.YtphlpipbhaiijaaClosed
import Derived.Test.YtphlpipbhaiijaaOnes
import Derived.Test.YtphlpipbhaiijaaElim
import Derived.Test.YtphlpipbhaiijaaLayI
import Derived.Test.YtphlpipbhaiijaaCutM
import Derived.Deep.DeepCutAuto
import Derived.Deep.QuietTactic
import Derived.StillTailTactics
namespace Go.Proofs.Ytphlpipbhaiijaa.forests
open Go.RowKit P2 words edges ints good adjs fns sets rets covs reach bags degs bitsI
set_option linter.unusedVariables false

/-- a row of words, by a function -/
def uF (n : Nat) (f : Nat → Nat) : List Nat := (List.range n).map f
theorem uF_len (n : Nat) (f : Nat → Nat) : (uF n f).length = n := by simp [uF]
theorem uF_at {n k : Nat} {f : Nat → Nat} (h : k < n) : (uF n f)[k]? = some (f k) := by simp [uF, h]
theorem uF_congr {n : Nat} {f g : Nat → Nat} (h : ∀ k, k < n → f k = g k) : uF n f = uF n g := List.map_congr_left fun k hk => h k (List.mem_range.1 hk)
theorem uF_set {n k v : Nat} {f g : Nat → Nat} (hk : k < n) (h1 : g k = v) (h2 : ∀ j, j ≠ k → g j = f j) : (uF n f).set k v = uF n g := by
  apply List.ext_getElem?
  intro j
  rw [List.getElem?_set, uF_len]
  by_cases hj : j < n
  · rw [uF_at hj]
    by_cases e : k = j
    · subst e; rw [if_pos rfl, if_pos hk, uF_at hj, h1]
    · rw [if_neg e, uF_at hj, h2 j (fun e2 => e e2.symm)]
  · rw [List.getElem?_eq_none (by rw [uF_len]; omega)]
    by_cases e : k = j
    · omega
    · rw [if_neg e, List.getElem?_eq_none (by rw [uF_len]; omega)]
/-- what is above the nodes below x, and the first k above x -/
noncomputable def abF (tl : List Int) (n x k y : Nat) : Nat := if y < x then numOf (abvB tl y) n else if y = x then numOf (abK tl x k) n else 0
theorem abF_zero (tl : List Int) (n : Nat) : uF n (abF tl n 0 0) = List.replicate n 0 := by
  rw [uF_congr (g := fun _ => 0) fun k hk => by
    unfold abF
    rw [if_neg (by omega)]
    split
    · exact abK_zero tl n 0
    · rfl]
  unfold uF
  induction n with
  | zero => rfl
  | succ n ih => rw [List.range_succ, List.map_append, ih, List.replicate_succ']; rfl
theorem abF_here (tl : List Int) (n x k : Nat) : abF tl n x k x = numOf (abK tl x k) n := by unfold abF; rw [if_neg (by omega), if_pos rfl]
theorem abF_set {tl : List Int} {n x k y : Nat} (hx : x < n) (hyn : y < n) (hy : upF tl (k + 1) (x : Int) = (y : Int)) : (uF n (abF tl n x k)).set x (numOf (abK tl x k) n ||| 2 ^ y) = uF n (abF tl n x (k + 1)) := by
  refine uF_set hx ?_ fun j hj => ?_
  · rw [abF_here, abK_succ hy, num_or_one _ hyn]
  · unfold abF
    by_cases h1 : j < x
    · rw [if_pos h1, if_pos h1]
    · rw [if_neg h1, if_neg h1, if_neg hj, if_neg hj]
theorem abF_next {tl : List Int} {n x k : Nat} (h : upF tl (k + 1) (x : Int) < 0) : uF n (abF tl n (x + 1) 0) = uF n (abF tl n x k) := uF_congr fun y _ => by
  unfold abF
  by_cases h1 : y < x
  · rw [if_pos (by omega), if_pos h1]
  · by_cases h2 : y = x
    · subst h2
      rw [if_pos (by omega), if_neg h1, if_pos rfl, abK_all h]
    · rw [if_neg (by omega), if_neg h1, if_neg h2]
      split
      · exact abK_zero tl n _
      · rfl
noncomputable def abvL (tl : List Int) (n : Nat) : List Nat := uF n fun y => numOf (abvB tl y) n
theorem abF_all (tl : List Int) (n : Nat) : uF n (abF tl n n 0) = abvL tl n := uF_congr fun y hy => by unfold abF; rw [if_pos hy]
theorem up_mem {tl : List Int} {n x k : Nat} (hl : tl.length = n) (hx : x < n) (h : PSt tl n x k) : upF tl (k + 1) (x : Int) ∈ tl ∧ ∃ m : Nat, upF tl k (x : Int) = (m : Int) ∧ m < n ∧ tl[m]? = some (upF tl (k + 1) (x : Int)) := by
  obtain ⟨m, hm, hmn⟩ : ∃ m : Nat, upF tl k (x : Int) = (m : Int) ∧ m < n := by
    by_cases e : k = 0
    · subst e; exact ⟨x, rfl, hx⟩
    · have := h.1 k (by omega) (Nat.le_refl _)
      exact ⟨(upF tl k (x : Int)).toNat, by omega, by omega⟩
  have ha : tl[m]? = some tl[m] := List.getElem?_eq_getElem (by omega)
  have e : upF tl (k + 1) (x : Int) = tl[m] := by
    show parI tl (upF tl k (x : Int)) = _
    rw [hm]; exact par_at ha
  rw [e]
  exact ⟨List.getElem_mem _, m, hm, hmn, ha⟩
theorem infoU2 : (Try.prog.info? 68).map (fun i => (i.zero, i.size, i.bytes)) = some (some (.int .u64 0), 1, 8) := by kernel_rfl
def RetF (w : World) (s : Int) (l : List Ed) (tl : List Int) (e : Ending) (w' : World) : Prop :=
  ((ForOk s l tl ∧ ∃ A c, e = .returned (.tuple #[.slice A s.toNat c, .bool true]) ∧ w'.ownsRow w.heap.size 68 1 (.slice A s.toNat c) s.toNat (cellsU (abvL tl s.toNat))) ∨ (¬ ForOk s l tl ∧ e = .returned (.tuple #[.slice none 0 0, .bool false]))) ∧ Below w.heap.size w w'
theorem RetF.no {w w' : World} {s : Int} {l : List Ed} {tl : List Int} (h : ¬ ForOk s l tl) (hb : Below w.heap.size w w') : RetF w s l tl (.returned (.tuple #[.slice none 0 0, .bool false])) w' := ⟨.inr ⟨h, rfl⟩, hb⟩
def EdT (l : List Ed) (tl : List Int) (j : Nat) : Prop := ∀ i e, i < j → l[i]? = some e → abvB tl e.1.toNat e.2.toNat = true ∨ abvB tl e.2.toNat e.1.toNat = true
theorem EdT.succ {l : List Ed} {tl : List Int} {j : Nat} {e : Ed} (h : EdT l tl j) (he : l[j]? = some e) (hb : abvB tl e.1.toNat e.2.toNat = true ∨ abvB tl e.2.toNat e.1.toNat = true) : EdT l tl (j + 1) := fun i e' hi he' => by
  by_cases e2 : i = j
  · subst e2; rw [he] at he'; cases he'; exact hb
  · exact h i e' (by omega) he'
set_option maxHeartbeats 4000000 in
set_option maxRecDepth 100000 in
theorem aboveIn_any (s : Int) (v u : Value) (l : List Ed) (tl : List Int) (w : World) (h : Edges w v l) (hl : l.length ≤ 1048576) (hu : Ints w u tl) (htl : tl.length ≤ 1048576) :
    Calls Try.prog 64 #[.agg #[.int .i64 s, v], u] w (RetF w s l tl) := by
  obtain ⟨A, c, rfl, hc⟩ := h.form
  obtain ⟨A2, c2, rfl, hc2⟩ := hu.form
  have H := Lib.hid h
  have HC := Lib.hid hc
  have HC2 := Lib.hid hc2
  have b0 : Below w.heap.size w (w.alloc (.cells #[.int .i64 s, .slice A l.length c] 29)) := (Below.refl _ _).alloc (Nat.le_refl _) _
  have g0 := Blk.new w 29 #[.int .i64 s, .slice A l.length c]
  have HG := Lib.hid (implIsGraph_any s _ l _ (h.below b0) hl)
  obtain ⟨i0, hi, hz0, hz1, hz2⟩ := info_parts infoU2
  clear h hu hc hc2
  by_cases hgd : P2.Good s l
  · rw [goodB_yes hgd] at HG
    have h0 := hgd.1
    have h8 := hgd.2.1
    obtain ⟨n, rfl⟩ : ∃ n : Nat, s = (n : Int) := ⟨s.toNat, by omega⟩
    have hn : n ≤ 8 := by omega
    have HGD := Lib.hid hgd
    have HOK : Hid (ForOk (n : Int) l tl ↔ ForS n l tl) := by
      show _ ↔ _
      unfold ForOk
      rw [Int.toNat_natCast]
      exact ⟨fun h => h.2, fun h => ⟨hgd, h⟩⟩
    clear hgd
    by_cases hnl : tl.length = n
    · have HNL := Lib.hid hnl
      rw [hnl]
      have hmk := fun (W : World) => run_make_rowN (P := Try.prog) 56 68 i0 (.int .u64 0) Try.underlying56 hi hz0 .i64 .i64 n n (Nat.le_refl _) (by rw [hz2]; omega) (by omega) W
      rw [hz1] at hmk
      simp only [Nat.mul_one] at hmk
      clear hnl
      go_enter Try.func64, Try.ntmps64
      go_wp2_with fail
      refine HG.out.mono ?_
      rintro e w1 ⟨rfl, b1⟩
      have HE1 := Lib.hid (btrans b0 b1)
      have HG1 := Lib.hid (g0.below b1 g0.lt)
      obtain ⟨p0, p1, -, -⟩ := HG1.out.two
      have hown := World.ownsRow_lit (base := w1.heap.size) (e := 68) (size := 1) w1 (madeCells #[Value.int .u64 0] (n * 1)) n (Nat.le_refl _) (by unfold maxLen; omega) (size_madeCells _ _)
      rw [toList_madeCells_one, Nat.mul_one, show List.replicate n (Value.int .u64 0) = cellsU (uF n (abF tl n 0 0)) from by rw [abF_zero]; simp [cellsU]] at hown
      have HOWN := Lib.hid hown
      have HB2 := Lib.hid ((Below.refl w1.heap.size w1).alloc (Nat.le_refl _) (.cells (madeCells #[.int .u64 0] n) 68))
      have HENDS0 : Hid (∀ x : Nat, x < 0 → EndsF tl (x : Int)) := fun x hx => by omega
      have HRNG0 : Hid (∀ x p, x < 0 → tl[x]? = some p → -1 ≤ p ∧ p < (n : Int)) := fun x p hx => by omega
      clear HG b0 b1 g0 hown
      go_wp2_with fail
      clear hmk p0 p1
      go_loopg [26] n (fun g iv wr => ∃ x : Nat, x + g = n ∧ iv = .int .i64 (x : Int) ∧ Hid (∀ y : Nat, y < x → EndsF tl (y : Int)) ∧ Hid (∀ y p, y < x → tl[y]? = some p → -1 ≤ p ∧ p < (n : Int)) ∧ wr.ownsRow w1.heap.size 68 1 (.slice (some ⟨w1.heap.size, 0, none⟩) n n) n (cellsU (uF n (abF tl n x 0))) ∧ Below w1.heap.size w1 wr)
      case atStart => exact ⟨0, by omega, rfl, HENDS0, HRNG0, HOWN.out, HB2.out⟩
      case round =>
        clear HOWN HB2 HENDS0 HRNG0
        obtain ⟨x, hxg, rfl, hends, hrng, hrow, hB⟩ := hrel
        have hgb := HG1.out.below hB HG1.out.lt
        obtain ⟨p0, p1, -, -⟩ := hgb.two
        have HR := Lib.hid hrow
        have HB := Lib.hid hB
        cases gk with
        | zero =>
          obtain rfl : x = n := by omega
          have HRG : Hid (RangeF x tl) := ⟨HNL.out, fun p hp => by
            obtain ⟨y, hy⟩ := List.getElem?_of_mem hp
            exact hrng.out y p (by have := (List.getElem?_eq_some_iff.1 hy).1; have := HNL.out; omega) hy⟩
          have HAL := Lib.hid (abF_all tl x)
          rw [HAL.out] at HR
          have HT0 : Hid (EdT l tl 0) := fun i e hi => by omega
          clear hrow hB hgb
          go_wp2_with fail
          clear p0 p1
          go_loopg [67] l.length (fun g iv wr => ∃ j : Nat, j + g = l.length ∧ iv = .int .i64 (j : Int) ∧ Hid (EdT l tl j) ∧ wr.ownsRow w1.heap.size 68 1 (.slice (some ⟨w1.heap.size, 0, none⟩) x x) x (cellsU (abvL tl x)) ∧ Below w1.heap.size w1 wr)
          case atStart => exact ⟨0, by omega, rfl, HT0, HR.out, HB.out⟩
          case round =>
            clear HR HB HT0 HAL
            obtain ⟨j, hjg, rfl, hed, hrow, hB⟩ := hrel
            have HR := Lib.hid hrow
            have HB := Lib.hid hB
            cases gk with
            | zero =>
              obtain rfl : j = l.length := by omega
              have HY : Hid (ForOk (x : Int) l tl) := HOK.out.2 ⟨HRG.out, hends.out, fun e he => by
                obtain ⟨i, hi⟩ := List.getElem?_of_mem he
                exact hed.out i e (List.getElem?_eq_some_iff.1 hi).1 hi⟩
              clear hrow hB
              go_wp2_with fail
              go_ret2
              refine ⟨.inl ⟨HY.out, some ⟨w1.heap.size, 0, none⟩, x, by rw [Int.toNat_natCast]; rfl, ?_⟩, btrans HE1.out HB.out⟩
              rw [Int.toNat_natCast]
              exact own_base HR.out HE1.out.size
            | succ g2 =>
              have hlt : j < l.length := by omega
              have hlt' : (j : Int) < (l.length : Int) := by omega
              obtain ⟨ed, hx⟩ : ∃ x, l[j]? = some x := ⟨_, List.getElem?_eq_getElem hlt⟩
              have hm := HGD.out.mem (List.mem_of_getElem? hx)
              obtain ⟨g5, o5, rfl, c0, c1⟩ := HC.out j ed hx
              have hno : ∀ h1 : ¬ (abvB tl ed.1.toNat ed.2.toNat = true ∨ abvB tl ed.2.toNat ed.1.toNat = true), ¬ ForOk (x : Int) l tl := fun h1 h2 => h1 ((HOK.out.1 h2).2.2 ed (List.mem_of_getElem? hx))
              have hok : ∀ h1 : (abvB tl ed.1.toNat ed.2.toNat = true ∨ abvB tl ed.2.toNat ed.1.toNat = true), EdT l tl (j + 1) := fun h1 => hed.out.succ hx h1
              obtain ⟨x1, x2⟩ := ed
              simp only at hm c0 c1 hno hok
              obtain ⟨a, rfl⟩ : ∃ p : Nat, x1 = (p : Int) := ⟨x1.toNat, by omega⟩
              obtain ⟨b, rfl⟩ : ∃ q : Nat, x2 = (q : Int) := ⟨x2.toNat, by omega⟩
              rw [Int.toNat_natCast, Int.toNat_natCast] at hno hok
              have ha : a < x := by omega
              have hb : b < x := by omega
              have ha' : (a : Int) < (x : Int) := by omega
              have hb' : (b : Int) < (x : Int) := by omega
              have q0 := nearv.cell_keep (nearv.cell_keep c0 HE1.out) hB
              have q1 := nearv.cell_keep (nearv.cell_keep c1 HE1.out) hB
              have HNO := Lib.hid hno
              have HYE := Lib.hid hok
              have bA : Below w1.heap.size w1 (wr.alloc (.cells #[.int .i64 (a : Int), .int .i64 (b : Int)] 104)) := hB.alloc hB.size _
              have GA := Blk.new wr 104 #[.int .i64 (a : Int), .int .i64 (b : Int)]
              have HRA := Lib.hid (hrow.alloc (.cells #[.int .i64 (a : Int), .int .i64 (b : Int)] 104))
              have HBA := Lib.hid bA
              have fa := HRA.out.cellAt a (by omega)
              rw [cellsU_at (show (abvL tl x)[a]? = some (numOf (abvB tl a) x) from uF_at ha)] at fa
              have fb := HRA.out.cellAt b (by omega)
              rw [cellsU_at (show (abvL tl x)[b]? = some (numOf (abvB tl b) x) from uF_at hb)] at fb
              have HHA := Lib.hid (fun (W : World) => has_any (numOf (abvB tl a) x) b W (by have := numOf_lt (abvB tl a) hn; omega) (by omega))
              have HHB := Lib.hid (fun (W : World) => has_any (numOf (abvB tl b) x) a W (by have := numOf_lt (abvB tl b) hn; omega) (by omega))
              rw [numOf_bit, decide_eq_true hb, Bool.true_and] at HHA
              rw [numOf_bit, decide_eq_true ha, Bool.true_and] at HHB
              obtain ⟨m0, m1, -, -⟩ := GA.two
              clear hx hm c0 c1 hrow hB hno hok bA GA HRA
              generalize numOf (abvB tl a) x = na at *
              generalize numOf (abvB tl b) x = nb at *
              have HRW := Lib.hid (own_below HR.out ((Below.refl wr.heap.size wr).alloc (Nat.le_refl _) (.cells #[.int .i64 (a : Int), .int .i64 (b : Int)] 104)))
              cases h1 : abvB tl a b with
              | true =>
                rw [h1] at HHA
                have HN := Lib.hid (HYE.out (.inl h1))
                clear h1 HNO HYE
                go_wp2_with fail
                go_quiet (first | (go_at_call 114; with_reducible exact quiet_left (HHA.out _)) | (go_at_call 114; with_reducible exact quiet_left (HHB.out _)))
                have HB9 := Lib.hid (below_drewN HBA.out nq)
                have HR9 := Lib.hid (own_below HRW.out (below_drewN (Below.refl _ _) nq))
                clear m0 m1 fa fb q0 q1
                go_wp2_with fail
                go_roundg g2
                case measure => omega
                case rel => exact ⟨j + 1, by omega, by go_num, HN, HR9.out, HB9.out⟩
              | false =>
                rw [h1] at HHA
                cases h2 : abvB tl b a with
                | true =>
                  rw [h2] at HHB
                  have HN := Lib.hid (HYE.out (.inr h2))
                  clear h1 h2 HNO HYE
                  go_wp2_with fail
                  go_quiet (first | (go_at_call 114; with_reducible exact quiet_left (HHA.out _)) | (go_at_call 114; with_reducible exact quiet_left (HHB.out _)))
                  have HB9 := Lib.hid (below_drewN HBA.out nq)
                  have HR9 := Lib.hid (own_below HRW.out (below_drewN (Below.refl _ _) nq))
                  clear m0 m1 fa fb q0 q1
                  go_wp2_with fail
                  go_roundg g2
                  case measure => omega
                  case rel => exact ⟨j + 1, by omega, by go_num, HN, HR9.out, HB9.out⟩
                | false =>
                  rw [h2] at HHB
                  have HN := Lib.hid (HNO.out (by rw [h1, h2]; simp))
                  clear h1 h2 HNO HYE
                  go_wp2_with fail
                  go_quiet (first | (go_at_call 114; with_reducible exact quiet_left (HHA.out _)) | (go_at_call 114; with_reducible exact quiet_left (HHB.out _)))
                  have HB9 := Lib.hid (below_drewN HBA.out nq)
                  clear m0 m1 fa fb q0 q1
                  go_wp2_with fail
                  go_ret2
                  exact RetF.no HN.out (btrans HE1.out HB9.out)
        | succ g2 =>
          have hxn : x < n := by omega
          have hxn' : (x : Int) < (n : Int) := by omega
          obtain ⟨p, hp⟩ : ∃ p, tl[x]? = some p := ⟨_, List.getElem?_eq_getElem (by have := HNL.out; omega)⟩
          obtain ⟨g5, o5, rfl, c0⟩ := HC2.out x _ hp
          have q0 := nearv.cell_keep (nearv.cell_keep c0 HE1.out) hB
          have hup : upF tl 1 (x : Int) = p := par_at hp
          rw [← hup] at q0
          have HPX : Hid (∀ p', tl[x]? = some p' → p' = upF tl 1 (x : Int)) := fun p' hp' => by rw [hp] at hp'; cases hp'; exact hup.symm
          have HP0 : Hid (PSt tl n x 0) := PSt.zero tl n x
          clear hp c0 hup hrow hB hgb
          go_wp2_with fail
          obtain ⟨wo, hwo⟩ : ∃ wo, wo = wr := ⟨_, rfl⟩
          subst hwo
          clear p0 p1 q0
          go_loopg [8] (n + 1) (fun g yv wr => ∃ k : Nat, k + g = n + 1 ∧ yv = .int .i64 (upF tl (k + 1) (x : Int)) ∧ Hid (PSt tl n x k) ∧ wr.ownsRow w1.heap.size 68 1 (.slice (some ⟨w1.heap.size, 0, none⟩) n n) n (cellsU (uF n (abF tl n x k))) ∧ Below w1.heap.size w1 wr)
          case atStart => exact ⟨0, by omega, rfl, HP0, HR.out, HB.out⟩
          case round =>
            clear HR HB HP0
            obtain ⟨k, hkg, rfl, hps, hrow, hB⟩ := hrel
            have hkn := hps.out.le
            have hgb := HG1.out.below hB HG1.out.lt
            obtain ⟨p0, p1, -, -⟩ := hgb.two
            have HR := Lib.hid hrow
            have HB := Lib.hid hB
            obtain ⟨hpm, m0, hm0, hm0n, hm0p⟩ := up_mem HNL.out hxn hps.out
            obtain ⟨p, hp⟩ : ∃ p, p = upF tl (k + 1) (x : Int) := ⟨_, rfl⟩
            have HRGE : Hid (ForOk (n : Int) l tl → -1 ≤ p ∧ p < (n : Int)) := fun hf => (HOK.out.1 hf).1.2 p (by rw [hp]; exact hpm)
            have HPE := Lib.hid hp
            rw [← hp]
            cases gk with
            | zero => omega
            | succ g4 =>
              clear hpm hm0p hm0
              by_cases hp1 : p = -1
              · have HE := Lib.hid (show ∀ y : Nat, y < x + 1 → EndsF tl (y : Int) from fun y hy => by
                  by_cases e : y = x
                  · subst e; exact ⟨k + 1, by rw [← hp]; omega⟩
                  · exact hends.out y (by omega))
                have HPQ : Hid (∀ p', tl[x]? = some p' → -1 ≤ p' ∧ p' < (n : Int)) := fun p' hp' => by
                  rw [HPX.out p' hp']
                  by_cases e : k = 0
                  · subst e
                    rw [show upF tl 1 (x : Int) = p from hp.symm, hp1]; omega
                  · have := hps.out.1 1 (by omega) (by omega)
                    omega
                have HQ := Lib.hid (show ∀ y p', y < x + 1 → tl[y]? = some p' → -1 ≤ p' ∧ p' < (n : Int) from fun y p' hy hy2 => by
                  by_cases e : y = x
                  · subst e; exact HPQ.out p' hy2
                  · exact hrng.out y p' (by omega) hy2)
                have HNX := Lib.hid (abF_next (n := n) (show upF tl (k + 1) (x : Int) < 0 by rw [← hp]; omega))
                subst hp1
                clear hp hrow hB hgb
                go_wp2_with fail
                go_roundg g2
                case measure => omega
                case rel => exact ⟨x + 1, by omega, by go_num, HE, HQ, by rw [HNX.out]; exact HR.out, HB.out⟩
              · have hne : (p == -1) = false := by simpa using hp1
                by_cases hp0 : p < 0
                · have HN : Hid (¬ ForOk (n : Int) l tl) := fun hf => by have := HRGE.out hf; omega
                  have hd0 : decide (p < 0) = true := decide_eq_true hp0
                  clear hp hrow hB hgb
                  go_wp2_with fail
                  go_ret2
                  exact RetF.no HN.out (btrans HE1.out HB.out)
                · have hd0 : decide (p < 0) = false := decide_eq_false hp0
                  by_cases hpn : (n : Int) ≤ p
                  · have HN : Hid (¬ ForOk (n : Int) l tl) := fun hf => by have := HRGE.out hf; omega
                    have hd1 : decide ((n : Int) ≤ p) = true := decide_eq_true hpn
                    clear hp hrow hB hgb
                    go_wp2_with fail
                    go_ret2
                    exact RetF.no HN.out (btrans HE1.out HB.out)
                  · have hd1 : decide ((n : Int) ≤ p) = false := decide_eq_false hpn
                    obtain ⟨y, rfl⟩ : ∃ y : Nat, p = (y : Int) := ⟨p.toNat, by omega⟩
                    have hyn : y < n := by omega
                    have hyn' : (y : Int) < (n : Int) := by omega
                    have hux := uF_at (f := abF tl n x k) hxn
                    rw [abF_here] at hux
                    have f0 := hrow.cellAt x (by omega)
                    rw [cellsU_at hux] at f0
                    have HH := Lib.hid (fun (W : World) => has_any (numOf (abK tl x k) n) y W (by have := numOf_lt (abK tl x k) hn; omega) (by omega))
                    rw [numOf_bit, decide_eq_true hyn, Bool.true_and] at HH
                    cases hbit : abK tl x k y with
                    | true =>
                      have HN : Hid (¬ ForOk (n : Int) l tl) := fun hf => no_end (by omega) hps.out hp.symm hbit ((HOK.out.1 hf).2.1 x hxn)
                      rw [hbit] at HH
                      clear hp hrow hB hgb hux hbit
                      generalize numOf (abK tl x k) n = nk at *
                      go_wp2_with fail
                      refine (HH.out _).mono ?_
                      rintro e w' ⟨rfl, rfl⟩
                      go_wp2_with fail
                      go_ret2
                      exact RetF.no HN.out (btrans HE1.out HB.out)
                    | false =>
                      have HPS := Lib.hid (hps.out.succ hp.symm hyn hbit)
                      have HST := Lib.hid (abF_set hxn hyn hp.symm)
                      obtain ⟨q, hq⟩ : ∃ q, tl[y]? = some q := ⟨_, List.getElem?_eq_getElem (by have := HNL.out; omega)⟩
                      obtain ⟨_, _, hf5, c7⟩ := HC2.out y _ hq
                      cases hf5
                      have q7 := nearv.cell_keep (nearv.cell_keep c7 HE1.out) hB
                      have h77 := nearv.cell_keep c7 HE1.out
                      have huq : upF tl (k + 1 + 1) (x : Int) = q := by show parI tl (upF tl (k + 1) (x : Int)) = q; rw [← hp]; exact par_at hq
                      rw [← huq] at q7 h77
                      have HQ7 := Lib.hid h77
                      have hor := or_walk (numOf (abK tl x k) n) y (numOf_lt _ hn) (by omega)
                      have z0 := hrow.frozenAt x
                      rw [hbit] at HH
                      clear hp hrow hB hgb hux hbit hq c7 huq h77
                      generalize numOf (abK tl x k) n ||| 2 ^ y = nz at *
                      generalize hnk : numOf (abK tl x k) n = nk at *
                      have HNK := Lib.hid hnk
                      clear hnk
                      go_wp2_with fail
                      refine (HH.out _).mono ?_
                      rintro e w' ⟨rfl, rfl⟩
                      go_wp2_with fail
                      have HR2 := Lib.hid (own_below HR.out (Below.refl _ _).drew)
                      have HB2 : Hid (Below w1.heap.size w1 wr.drew) := HB.out.drew
                      have q8 := nearv.cell_keep q7 (Below.refl _ _).drew
                      go_still_tail 8, (by kernel_rfl)
                      change wpList _ _ _ _ _ wr.drew
                      clear f0 z0 q8 p0 p1
                      generalize wr.drew = W2 at *
                      have f1 := HR2.out.cellAt x (by omega)
                      have hux := uF_at (f := abF tl n x k) hxn
                      rw [abF_here, HNK.out] at hux
                      rw [cellsU_at hux] at f1
                      have z1 := HR2.out.frozenAt x
                      have HB3 := Lib.hid (HB2.out.setCell (p := ⟨w1.heap.size, x, none⟩) (Nat.le_refl _) (.int .u64 (nz : Int)))
                      have q9 := nearv.cell_keep HQ7.out HB3.out
                      have HST2 := Lib.hid ((HR2.out.stored x (.int .u64 (nz : Int))).1)
                      clear hux q7
                      go_wp2_with fail
                      go_roundg g4
                      case measure => omega
                      case rel =>
                        have h_ := HST2.out
                        rw [cellsU_set, HST.out] at h_
                        exact ⟨k + 1, by omega, by first | rfl | go_num, HPS, h_, HB3.out⟩
    · have HN : Hid (¬ ForOk (n : Int) l tl) := fun hf => hnl (HOK.out.1 hf).1.1
      have hd : ((tl.length : Int) == (n : Int)) = false := by simpa using (fun e => hnl (by omega) : ¬ (tl.length : Int) = (n : Int))
      clear hnl
      go_enter Try.func64, Try.ntmps64
      go_wp2_with fail
      refine HG.out.mono ?_
      rintro e w1 ⟨rfl, b1⟩
      have HE1 := Lib.hid (btrans b0 b1)
      have HG1 := Lib.hid (g0.below b1 g0.lt)
      obtain ⟨p0, p1, -, -⟩ := HG1.out.two
      clear b0 b1
      go_wp2_with fail
      go_ret2
      exact RetF.no HN.out HE1.out
  · rw [goodB_no hgd] at HG
    have HN : Hid (¬ ForOk s l tl) := fun h => hgd h.1
    clear hgd
    go_enter Try.func64, Try.ntmps64
    go_wp2_with fail
    refine HG.out.mono ?_
    rintro e w1 ⟨rfl, b1⟩
    go_wp2_with fail
    go_ret2
    exact RetF.no HN.out (btrans b0 b1)
end Go.Proofs.Ytphlpipbhaiijaa.forests
