/- Forests: the contracts of the model's l7Above, l7Forest, IsForest and ForestDepth. -/
import Derived.Handy
import Derived.Test.YtphlpipbhaiijaaForI
import Derived.Test.YtphlpipbhaiijaaBall
import Derived.Test.YtphlpipbhaiijaaMinMax
import Derived.Deep.DeepCutAuto
import Derived.Deep.QuietTactic
import Derived.Deep.RegionHeld3
namespace Go.Proofs.Ytphlpipbhaiijaa.forests
open Go.RowKit P2 words edges ints good adjs fns sets rets covs reach bags degs bitsI lays balls
set_option linter.unusedVariables false

set_option maxHeartbeats 2000000 in
set_option maxRecDepth 100000 in
theorem l7Above_any (n x : Nat) (u : Value) (tl : List Int) (w : World) (hu : Ints w u tl) (hn : n ≤ 8) (hr : RangeF n tl) (hx : x < n) :
    Calls Try.prog 67 #[u, .int .i64 (x : Int)] w fun e w' => ∃ k, AncIs tl n (x : Int) k ∧ ∃ A c, e = .returned (.slice A k c) ∧ w'.ownsRow w.heap.size 3 1 (.slice A k c) k (cellsI (ancK tl (x : Int) k)) ∧ Below w.heap.size w w' := by
  obtain ⟨i0, hi, hz0, hz1, hz2⟩ := info_parts infoInt
  obtain ⟨A2, c2, rfl, hc⟩ := hu.form
  have HC := Lib.hid hc
  have HRG := Lib.hid hr
  have O0 := Lib.hid (own_new0 w 3 1)
  have B0 := Lib.hid ((Below.refl w.heap.size w).alloc (Nat.le_refl _) (.cells #[] 3))
  rw [hr.1]
  clear hu hc hr
  go_enter Try.func67, Try.ntmps67
  go_wp2_with fail
  go_loopg [1, 5] (n + 1) (fun g xv ov wr => ∃ (k : Nat) (ow : Value), ow = ov ∧ k + g = n + 1 ∧ xv = .int .i64 (upF tl k (x : Int)) ∧ Hid (∀ j, j < k → 0 ≤ upF tl (j + 1) (x : Int)) ∧ wr.ownsRow w.heap.size 3 1 ow k (cellsI (ancK tl (x : Int) k)) ∧ Below w.heap.size w wr)
  case atStart => exact ⟨0, _, rfl, by omega, rfl, (fun j hj => by omega), O0.out, B0.out⟩
  case round =>
    clear O0 B0
    obtain ⟨k, ow, rfl, hkg, rfl, hps, hrow, hB⟩ := hrel
    obtain ⟨A4, c4, rfl⟩ := own_form hrow
    have hsz := hB.size
    have h0 : 0 ≤ upF tl k (x : Int) := by
      by_cases e : k = 0
      · subst e; show 0 ≤ (x : Int); omega
      · have := hps.out (k - 1) (by omega)
        rwa [show k - 1 + 1 = k from by omega] at this
    have h1 := (HRG.out.up (x := (x : Int)) (by omega) k).2
    obtain ⟨m, hm⟩ : ∃ m : Nat, upF tl k (x : Int) = (m : Int) := ⟨(upF tl k (x : Int)).toNat, by omega⟩
    have hmn : m < n := by omega
    have hmn' : (m : Int) < (n : Int) := by omega
    obtain ⟨q, hq⟩ : ∃ q, tl[m]? = some q := ⟨_, List.getElem?_eq_getElem (by have := HRG.out.1; omega)⟩
    have huq : upF tl (k + 1) (x : Int) = q := by show parI tl (upF tl k (x : Int)) = q; rw [hm]; exact par_at hq
    obtain ⟨g5, o5, rfl, c0⟩ := HC.out m _ hq
    have q0 := nearv.cell_keep c0 hB
    have HR := Lib.hid hrow
    have HB := Lib.hid hB
    have HUQ := Lib.hid huq
    rw [hm]
    clear hq c0 huq h0 h1 hm hB
    by_cases hq0 : 0 ≤ q
    · have hd0 : decide (0 ≤ q) = true := decide_eq_true hq0
      cases gk with
      | zero =>
        have hd1 : decide ((k : Int) ≤ (n : Int)) = false := decide_eq_false (by omega)
        have HA : Hid (AncIs tl n (x : Int) k) := ⟨hps.out, .inr (by omega), by omega⟩
        clear hrow
        go_wp2_with fail
        go_ret
        exact ⟨k, HA.out, A4, c4, rfl, HR.out, HB.out⟩
      | succ g2 =>
        have hd1 : decide ((k : Int) ≤ (n : Int)) = true := decide_eq_true (by omega)
        have HPS : Hid (∀ j, j < k + 1 → 0 ≤ upF tl (j + 1) (x : Int)) := fun j hj => by
          by_cases e : j = k
          · subst e; rw [HUQ.out]; exact hq0
          · exact hps.out j (by omega)
        have HAS : Hid (ancK tl (x : Int) (k + 1) = ancK tl (x : Int) k ++ [q]) := by show _ = _; rw [ancK_succ, HUQ.out]
        have hml := ancK_len tl (x : Int) k
        have hk9 : k ≤ 9 := by omega
        have HML := Lib.hid hml
        clear hml
        generalize ancK tl (x : Int) k = M at *
        go_wp2_with (at_builtin; refine wpList_append_own _ rfl _ _ 25 rfl (w.heap.size) 3 i0 (.int .i64 0) 1 8 Try.underlying25 hi hz0 hz1 hz2 rfl (by decide) _ _ _ rfl (hrow.alloc _) ⟨wr.heap.size, 0, none⟩ 1 1 [.int .i64 q] rfl rfl (cell_one_new _ _ _) (fun x hx => by simp at hx; subst hx; rfl) (by unfold maxLen; omega) (by omega) (by simp; omega) ?_; intro v2 w2 hown2 hgrow2 _)
        have HO9 : Hid (w2.ownsRow w.heap.size 3 1 v2 (k + 1) (cellsI (M ++ [q]))) := by
          show World.ownsRow _ _ _ _ _ _ _
          rw [cellsI_app]
          exact hown2
        have HB9 := Lib.hid ((HB.out.alloc HB.out.size (.cells #[.int .i64 q] 3)).grown hgrow2 (by simp; omega) (fun p hp => (HR.out.lt p hp).1))
        clear hgrow2 hown2 hrow q0
        go_roundg g2
        case measure => omega
        case rel => exact ⟨k + 1, _, rfl, by omega, by rw [HUQ.out], HPS, by rw [HAS.out]; exact HO9.out, HB9.out⟩
    · have hd0 : decide (0 ≤ q) = false := decide_eq_false hq0
      have HA : Hid (AncIs tl n (x : Int) k) := ⟨hps.out, .inl (by rw [HUQ.out]; omega), by omega⟩
      clear hrow
      go_wp2_with fail
      go_ret
      exact ⟨k, HA.out, A4, c4, rfl, HR.out, HB.out⟩
def RgT (n : Nat) (tl : List Int) (k : Nat) : Prop := ∀ y p, y < k → tl[y]? = some p → -1 ≤ p ∧ p < (n : Int)
theorem RgT.succ {n : Nat} {tl : List Int} {k : Nat} {p : Int} (h : RgT n tl k) (hp : tl[k]? = some p) (h1 : -1 ≤ p ∧ p < (n : Int)) : RgT n tl (k + 1) := fun y q hy hq => by
  by_cases e : y = k
  · subst e; rw [hp] at hq; cases hq; exact h1
  · exact h y q (by omega) hq
theorem RgT.all {n : Nat} {tl : List Int} (hl : tl.length = n) (h : RgT n tl n) : RangeF n tl := ⟨hl, fun p hp => by
  obtain ⟨y, hy⟩ := List.getElem?_of_mem hp
  exact h y p (by have := (List.getElem?_eq_some_iff.1 hy).1; omega) hy⟩
set_option maxHeartbeats 4000000 in
set_option maxRecDepth 100000 in
theorem l7Forest_any (n : Nat) (v u : Value) (l : List Ed) (tl : List Int) (w : World) (h : Edges w v l) (hl : l.length ≤ 1048576) (hu : Ints w u tl) (htl : tl.length ≤ 1048576) (hg : P2.Good (n : Int) l) :
    Calls Try.prog 63 #[.agg #[.int .i64 (n : Int), v], u] w fun e w' => e = .returned (.bool (okG (ForS n l tl))) ∧ Below w.heap.size w w' := by
  obtain ⟨A, c, rfl, hc⟩ := h.form
  obtain ⟨A2, c2, rfl, hc2⟩ := hu.form
  have hn : n ≤ 8 := by have := hg.2.1; omega
  have HU := Lib.hid hu
  have HC := Lib.hid hc
  have HC2 := Lib.hid hc2
  have HGD := Lib.hid hg
  have HB0 : Hid (Below w.heap.size w (w.alloc (.cells #[.int .i64 (n : Int), .slice A l.length c] 29))) := (Below.refl _ _).alloc (Nat.le_refl _) _
  have HG0 := Lib.hid (Blk.new w 29 #[.int .i64 (n : Int), .slice A l.length c])
  obtain ⟨p0, p1, -, -⟩ := HG0.out.two
  clear h hu hc hc2 hg
  by_cases hnl : tl.length = n
  · have HNL := Lib.hid hnl
    rw [hnl]
    have HU2 : Hid (∀ W, Below w.heap.size w W → Ints W (.slice A2 n c2) tl) := fun W hW => by have h_ := HU.out.below hW; rw [HNL.out] at h_; show Reads _ _ _ _ _; rw [HNL.out]; exact h_
    have HRT0 : Hid (RgT n tl 0) := fun y p hy => by omega
    have hnw : IntKind.i64.wrap ((n : Int) - 1) = (n : Int) - 1 := IntWalk.i64_in _ (by omega)
    clear hnl HU
    go_enter Try.func63, Try.ntmps63
    go_wp2_with fail
    clear p0 p1
    go_loopg [5] n (fun g iv wr => ∃ k : Nat, k + g = n ∧ iv = .int .i64 (k : Int) ∧ Hid (RgT n tl k) ∧ Blk wr w.heap.size 29 #[.int .i64 (n : Int), .slice A l.length c] ∧ Below w.heap.size w wr)
    case atStart => exact ⟨0, by omega, rfl, HRT0, HG0.out, HB0.out⟩
    case round =>
      clear HG0 HB0 HRT0
      obtain ⟨k, hkg, rfl, hrt, hgb, hB⟩ := hrel
      obtain ⟨p0, p1, -, -⟩ := hgb.two
      have HG := Lib.hid hgb
      have HB := Lib.hid hB
      cases gk with
      | succ g2 =>
        have hlt : k < n := by omega
        have hlt' : (k : Int) < (n : Int) := by omega
        obtain ⟨p, hp⟩ : ∃ p, tl[k]? = some p := ⟨_, List.getElem?_eq_getElem (by have := HNL.out; omega)⟩
        obtain ⟨g5, o5, rfl, c0⟩ := HC2.out k _ hp
        have q0 := nearv.cell_keep c0 hB
        by_cases hin : -1 ≤ p ∧ p < (n : Int)
        · have HN := Lib.hid (hrt.out.succ hp hin)
          have HI := Lib.hid (fun (W : World) => l1In_yes p (-1) ((n : Int) - 1) W hin.1 (by omega))
          clear hp c0 hgb hB hin
          go_wp2_with fail
          go_quiet (first | (go_at_call 112; exact quiet_left (HI.out _)))
          have HB9 := Lib.hid (below_drewN HB.out nq)
          have HG9 : Hid (Blk (wr.drewN nq) w.heap.size 29 #[.int .i64 (n : Int), .slice A l.length c]) := HG.out
          clear HB HG
          go_wp2_with fail
          go_roundg g2
          case measure => omega
          case rel => exact ⟨k + 1, by omega, by go_num, HN, HG9.out, HB9.out⟩
        · have HV : Hid (okG (ForS n l tl) = false) := okG_no fun hf => hin (hf.1.2 p (List.mem_of_getElem? hp))
          have HI := Lib.hid (fun (W : World) => l1In_no p (-1) ((n : Int) - 1) W (by omega))
          clear hp c0 hgb hB hin
          go_wp2_with fail
          go_quiet (first | (go_at_call 112; exact quiet_left (HI.out _)))
          have HB9 := Lib.hid (below_drewN HB.out nq)
          clear HB HG
          go_wp2_with fail
          go_ret
          rw [HV.out]
          exact ⟨rfl, HB9.out⟩
      | zero =>
        obtain rfl : k = n := by omega
        have HRG := Lib.hid (hrt.out.all HNL.out)
        have HE0 : Hid (∀ x : Nat, x < 0 → EndsF tl (x : Int)) := fun x hx => by omega
        clear hgb hB hrt
        go_wp2_with fail
        clear p0 p1
        go_loopg [6] k (fun g iv wr => ∃ x : Nat, x + g = k ∧ iv = .int .i64 (x : Int) ∧ Hid (∀ y : Nat, y < x → EndsF tl (y : Int)) ∧ Blk wr w.heap.size 29 #[.int .i64 (k : Int), .slice A l.length c] ∧ Below w.heap.size w wr)
        case atStart => exact ⟨0, by omega, rfl, HE0, HG.out, HB.out⟩
        case round =>
          clear HG HB HE0
          obtain ⟨x, hxg, rfl, hends, hgb, hB⟩ := hrel
          obtain ⟨p0, p1, -, -⟩ := hgb.two
          have HG := Lib.hid hgb
          have HB := Lib.hid hB
          cases gk with
          | succ g2 =>
            have hlt : x < k := by omega
            have hlt' : (x : Int) < (k : Int) := by omega
            have HAB := Lib.hid (l7Above_any k x (.slice A2 k c2) tl wr.drew (HU2.out _ hB.drew) hn HRG.out hlt)
            clear hgb hB
            go_wp2_with fail
            refine wp_region_held_drew (S := (fun w' : World => w'.cell? ⟨w.heap.size, 0, none⟩ = some (.int .i64 (k : Int)) ∧ w'.cell? ⟨w.heap.size, 1, none⟩ = some (.slice A l.length c))) (by kernel_rfl) (by (try dsimp only); simp [*]) (fun hHeld => ?_)
            change wpAnyH _ _ _ _ _ _ #[false, false, false, false, false, false, false] _ _
            refine wpAnyH_take (i := 0) (oi := ⟨some 36, _, _, _, _, _⟩) (v := ?_) rfl (by kernel_rfl) (by kernel_rfl) (by kernel_rfl) (fun _ _ _ h => h) (Or.inl ⟨by rfl, ?_⟩) (by assumption) ?_
            rotate_left
            · (intro w hSw; (try dsimp only at hSw); go_simp; (try (with_reducible rfl)))
            try simp only [Act.put, List.setIfInBounds_toArray, List.set_cons_zero, List.set_cons_succ]
            refine wpAnyH_take (i := 1) (oi := ⟨some 37, _, _, _, _, _⟩) (v := ?_) rfl (by kernel_rfl) (by kernel_rfl) (by kernel_rfl) (fun _ _ _ h => h) (Or.inl ⟨by rfl, ?_⟩) (by assumption) ?_
            rotate_left
            · (intro w hSw; (try dsimp only at hSw); go_simp; (try (with_reducible rfl)))
            try simp only [Act.put, List.setIfInBounds_toArray, List.set_cons_zero, List.set_cons_succ]
            refine wpAnyH_take (i := 4) (oi := ⟨some 40, _, _, _, _, _⟩) (v := ?_) rfl (by kernel_rfl) (by kernel_rfl) (by kernel_rfl) (fun _ _ _ h => h) (Or.inl ⟨by rfl, ?_⟩) (by assumption) ?_
            rotate_left
            · (intro w hSw; (try dsimp only at hSw); go_simp; (try (with_reducible rfl)))
            try simp only [Act.put, List.setIfInBounds_toArray, List.set_cons_zero, List.set_cons_succ]
            refine wpAnyH_take (i := 5) (oi := ⟨some 41, _, _, _, _, _⟩) (v := ?_) rfl (by kernel_rfl) (by kernel_rfl) (by kernel_rfl) (fun _ _ _ h => h) (Or.inl ⟨by rfl, ?_⟩) (by assumption) ?_
            rotate_left
            · (intro w hSw; (try dsimp only at hSw); go_simp; (try (with_reducible rfl)))
            try simp only [Act.put, List.setIfInBounds_toArray, List.set_cons_zero, List.set_cons_succ]
            refine wpAnyH_ready (rs := [2]) (by kernel_rfl) (by simp) ?_
            refine AllReadyH.cons (o := ⟨some 38, _, _, _, _, _⟩) rfl (fun K hK => ?_) AllReadyH.nil
            go_simp
            refine HAB.out.mono ?_; rintro e w3 ⟨d, hd, A5, c5, rfl, o5, b5⟩; have d3 : Below wr.heap.size wr w3 := btrans (Below.refl _ _).drew b5; obtain ⟨k0, k1, -, -⟩ := (HG.out.below d3 HG.out.lt).two; clear o5 b5
            go_wp2_with fail
            refine hK.out _ _ (by (try dsimp only); simp [*]) (fun hHeld => ?_)
            clear hK K
            try simp only [List.setIfInBounds_toArray, List.set_cons_zero, List.set_cons_succ]
            refine wpAnyH_take (i := 3) (oi := ⟨some 39, _, _, _, _, _⟩) (v := ?_) rfl (by kernel_rfl) (by kernel_rfl) (by kernel_rfl) (fun _ _ _ h => h) (Or.inl ⟨by rfl, ?_⟩) (by assumption) ?_
            rotate_left
            · (intro w hSw; (try dsimp only at hSw); go_simp; (try (with_reducible rfl)))
            try simp only [Act.put, List.setIfInBounds_toArray, List.set_cons_zero, List.set_cons_succ]
            refine wpAnyH_take (i := 6) (oi := ⟨some 42, _, _, _, _, _⟩) (v := ?_) rfl (by kernel_rfl) (by kernel_rfl) (by kernel_rfl) (fun _ _ _ h => h) (Or.inl ⟨by rfl, ?_⟩) (by assumption) ?_
            rotate_left
            · (intro w hSw; (try dsimp only at hSw); go_simp; (try (with_reducible rfl)))
            try simp only [Act.put, List.setIfInBounds_toArray, List.set_cons_zero, List.set_cons_succ]
            refine wpAnyH_done (by kernel_rfl) ?_ _
            have HG3 := Lib.hid (HG.out.below d3 HG.out.lt)
            have HB3 := Lib.hid (btrans HB.out d3)
            have hlte := hd.lt HRG.out hlt
            clear k0 k1 d3 hHeld p0 p1
            by_cases hdk : d < k
            · have hd1 : decide ((k : Int) ≤ (d : Int)) = false := decide_eq_false (by omega)
              have HE := Lib.hid (show ∀ y : Nat, y < x + 1 → EndsF tl (y : Int) from fun y hy => by
                by_cases e : y = x
                · subst e; exact hlte.1 hdk
                · exact hends.out y (by omega))
              clear hlte hd
              go_wp2_with fail
              go_roundg g2
              case measure => omega
              case rel => exact ⟨x + 1, by omega, by go_num, HE, HG3.out, HB3.out⟩
            · have hd1 : decide ((k : Int) ≤ (d : Int)) = true := decide_eq_true (by omega)
              have HV : Hid (okG (ForS k l tl) = false) := okG_no fun hf => hdk (hlte.2 (hf.2.1 x hlt))
              clear hlte hd
              go_wp2_with fail
              go_ret
              rw [HV.out]
              exact ⟨rfl, HB3.out⟩
          | zero =>
            obtain rfl : x = k := by omega
            have HT0 : Hid (EdT l tl 0) := fun i e hi => by omega
            clear hgb hB
            go_wp2_with fail
            clear p0 p1
            go_loopg [7] l.length (fun g iv wr => ∃ j : Nat, j + g = l.length ∧ iv = .int .i64 (j : Int) ∧ Hid (EdT l tl j) ∧ Blk wr w.heap.size 29 #[.int .i64 (x : Int), .slice A l.length c] ∧ Below w.heap.size w wr)
            case atStart => exact ⟨0, by omega, rfl, HT0, HG.out, HB.out⟩
            case round =>
              clear HG HB HT0
              obtain ⟨j, hjg, rfl, hed, hgb, hB⟩ := hrel
              obtain ⟨p0, p1, -, -⟩ := hgb.two
              have HG := Lib.hid hgb
              have HB := Lib.hid hB
              cases gk with
              | zero =>
                obtain rfl : j = l.length := by omega
                have HV : Hid (okG (ForS x l tl) = true) := okG_yes ⟨HRG.out, hends.out, fun e he => by
                  obtain ⟨i, hi⟩ := List.getElem?_of_mem he
                  exact hed.out i e (List.getElem?_eq_some_iff.1 hi).1 hi⟩
                clear hgb hB
                go_wp2_with fail
                go_ret
                rw [HV.out]
                exact ⟨rfl, HB.out⟩
              | succ g2 =>
                have hlt : j < l.length := by omega
                have hlt' : (j : Int) < (l.length : Int) := by omega
                obtain ⟨ed, hx⟩ : ∃ x, l[j]? = some x := ⟨_, List.getElem?_eq_getElem hlt⟩
                have hm := HGD.out.mem (List.mem_of_getElem? hx)
                obtain ⟨g5, o5, rfl, c0, c1⟩ := HC.out j ed hx
                have hno : ∀ h1 : ¬ (abvB tl ed.1.toNat ed.2.toNat = true ∨ abvB tl ed.2.toNat ed.1.toNat = true), okG (ForS x l tl) = false := fun h1 => okG_no fun h2 => h1 (h2.2.2 ed (List.mem_of_getElem? hx))
                have hok : ∀ h1 : (abvB tl ed.1.toNat ed.2.toNat = true ∨ abvB tl ed.2.toNat ed.1.toNat = true), EdT l tl (j + 1) := fun h1 => hed.out.succ hx h1
                obtain ⟨x1, x2⟩ := ed
                simp only at hm c0 c1 hno hok
                obtain ⟨a, rfl⟩ : ∃ p : Nat, x1 = (p : Int) := ⟨x1.toNat, by omega⟩
                obtain ⟨b, rfl⟩ : ∃ q : Nat, x2 = (q : Int) := ⟨x2.toNat, by omega⟩
                rw [Int.toNat_natCast, Int.toNat_natCast] at hno hok
                have ha : a < x := by omega
                have hb : b < x := by omega
                have q0 := nearv.cell_keep c0 hB
                have q1 := nearv.cell_keep c1 hB
                have HNO := Lib.hid hno
                have HYE := Lib.hid hok
                have HAB := Lib.hid (fun (y : Nat) (W : World) (hy : y < x) (hW : Below w.heap.size w W) => l7Above_any x y (.slice A2 x c2) tl W (HU2.out _ hW) hn HRG.out hy)
                have HMA := Lib.hid (fun (d : Nat) (hd : AncIs tl x (a : Int) d) => hd.mem (y := b) HRG.out ha (hends.out a ha))
                have HMB := Lib.hid (fun (d : Nat) (hd : AncIs tl x (b : Int) d) => hd.mem (y := a) HRG.out hb (hends.out b hb))
                clear hx hm c0 c1 hgb hB hno hok
                go_wp2_with fail
                go_quiet (fail)
                have HB9 := Lib.hid (below_drewN HB.out nq)
                have HG9 : Hid (Blk (wr.drewN nq) w.heap.size 29 #[.int .i64 (x : Int), .slice (some ⟨g5, o5, none⟩) l.length c]) := HG.out
                clear q0 q1 p0 p1 HB HG
                generalize wr.drewN nq = W1 at *
                have HA1 := Lib.hid (HAB.out a W1 ha HB9.out)
                go_wp2_with fail
                refine HA1.out.mono ?_
                rintro e w3 ⟨d, hd, A5, c5, rfl, o5, b5⟩
                have HB3 := Lib.hid (btrans HB9.out b5)
                have HG3 := Lib.hid (HG9.out.below b5 HG9.out.lt)
                have HH := Lib.hid (l1Has_any (.slice A5 d c5) (ancK tl (a : Int) d) (b : Int) w3 (by have h_ := Reads.of_own o5; show Reads _ _ _ _ _; rw [ancK_len]; exact h_) (by rw [ancK_len]; have := hd.2.2; omega))
                rw [HMA.out d hd] at HH
                have HB4 := Lib.hid (HAB.out b w3 hb HB3.out)
                clear o5 b5 hd HA1 HAB
                cases h1 : abvB tl a b with
                | true =>
                  rw [h1] at HH
                  have HN := Lib.hid (HYE.out (.inl h1))
                  clear h1 HNO HYE
                  go_wp2_with fail
                  refine HH.out.mono ?_
                  rintro e w' ⟨rfl, rfl⟩
                  go_wp2_with fail
                  go_roundg g2
                  case measure => omega
                  case rel => exact ⟨j + 1, by omega, by go_num, HN, HG3.out, HB3.out⟩
                | false =>
                  rw [h1] at HH
                  go_wp2_with fail
                  refine HH.out.mono ?_
                  rintro e w' ⟨rfl, rfl⟩
                  go_wp2_with fail
                  refine HB4.out.mono ?_
                  rintro e w5 ⟨d2, hd2, A6, c6, rfl, o6, b6⟩
                  have HB5 := Lib.hid (btrans HB3.out b6)
                  have HG5 := Lib.hid (HG3.out.below b6 HG3.out.lt)
                  have HH2 := Lib.hid (l1Has_any (.slice A6 d2 c6) (ancK tl (b : Int) d2) (a : Int) w5 (by have h_ := Reads.of_own o6; show Reads _ _ _ _ _; rw [ancK_len]; exact h_) (by rw [ancK_len]; have := hd2.2.2; omega))
                  rw [HMB.out d2 hd2] at HH2
                  clear o6 b6 hd2 HH
                  cases h2 : abvB tl b a with
                  | true =>
                    rw [h2] at HH2
                    have HN := Lib.hid (HYE.out (.inr h2))
                    clear h1 h2 HNO HYE
                    go_wp2_with fail
                    refine HH2.out.mono ?_
                    rintro e w' ⟨rfl, rfl⟩
                    go_wp2_with fail
                    go_roundg g2
                    case measure => omega
                    case rel => exact ⟨j + 1, by omega, by go_num, HN, HG5.out, HB5.out⟩
                  | false =>
                    rw [h2] at HH2
                    have HV := Lib.hid (HNO.out (by rw [h1, h2]; simp))
                    clear h1 h2 HNO HYE
                    go_wp2_with fail
                    refine HH2.out.mono ?_
                    rintro e w' ⟨rfl, rfl⟩
                    go_wp2_with fail
                    go_ret
                    rw [HV.out]
                    exact ⟨rfl, HB5.out⟩
  · have HV : Hid (okG (ForS n l tl) = false) := okG_no fun hf => hnl hf.1.1
    have hd : ((tl.length : Int) == (n : Int)) = false := by simpa using (fun e => hnl (by omega) : ¬ (tl.length : Int) = (n : Int))
    clear hnl
    go_enter Try.func63, Try.ntmps63
    go_wp2_with fail
    go_ret
    rw [HV.out]
    exact ⟨rfl, HB0.out⟩
end Go.Proofs.Ytphlpipbhaiijaa.forests
