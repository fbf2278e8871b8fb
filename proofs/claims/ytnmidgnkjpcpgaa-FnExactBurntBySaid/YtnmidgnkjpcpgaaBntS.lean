/- BurntBy: the contracts of the model's l8Burning, l8Burnt and BurntBy. -/
import Derived.Handy
import Derived.Test.YtnmidgnkjpcpgaaBntI
import Derived.Test.YtnmidgnkjpcpgaaSpreS
import Derived.Deep.DeepCutAuto
import Derived.Deep.RegionHeld3
import Derived.Deep.QuietTactic
namespace Go.Proofs.Ytnmidgnkjpcpgaa.ups
open Go.RowKit P2 words edges ints good adjs fns sets rets covs bags balls bitsI func
set_option linter.unusedVariables false

def BrnP (n : Int) (xs : List Int) : Prop := (∀ x ∈ xs, 0 ≤ x ∧ x < n) ∧ xs.length ≤ 8
theorem burn_iff {s : Int} {l : List Ed} {xs : List Int} (hg : P2.Good s l) : BurnOk s l xs ↔ BrnP s xs := by
  unfold BurnOk BrnP
  rw [nodesB_iff]
  exact ⟨fun h => ⟨h.1.2, h.2⟩, fun h => ⟨⟨hg, h.1⟩, h.2⟩⟩
theorem inB_node {x s : Int} : inB x 0 (s - 1) = true ↔ 0 ≤ x ∧ x < s := by
  unfold inB
  rw [decide_eq_true_iff]
  omega
set_option maxHeartbeats 2000000 in
set_option maxRecDepth 100000 in
theorem l8Burning_any (n : Nat) (v u : Value) (l : List Ed) (xs : List Int) (w : World) (h : Edges w v l) (hu : Ints w u xs) (hxl : xs.length ≤ 1048576) (hn : n ≤ 8) :
    Calls Try.prog 84 #[.agg #[.int .i64 (n : Int), v], u] w fun e w' => e = .returned (.bool (okG (BrnP (n : Int) xs))) ∧ Below w.heap.size w w' := by
  obtain ⟨A, c, rfl, -⟩ := h.form
  obtain ⟨A2, c2, rfl, hc2⟩ := hu.form
  have H := Lib.hid h
  have HC2 := Lib.hid hc2
  have HB0 : Hid (Below w.heap.size w (w.alloc (.cells #[.int .i64 (n : Int), .slice A l.length c] 29))) := (Below.refl _ _).alloc (Nat.le_refl _) _
  have HG0 := Lib.hid (Blk.new w 29 #[.int .i64 (n : Int), .slice A l.length c])
  have HX0 : Hid (∀ j y, j < 0 → xs[j]? = some y → 0 ≤ y ∧ y < (n : Int)) := fun j y hj => by omega
  clear h hu hc2
  go_enter Try.func84, Try.ntmps84
  go_wp2_with fail
  go_loopg [5] xs.length (fun g iv wr => ∃ k : Nat, k + g = xs.length ∧ iv = .int .i64 (k : Int) ∧ Hid (∀ j y, j < k → xs[j]? = some y → 0 ≤ y ∧ y < (n : Int)) ∧ Blk wr w.heap.size 29 #[.int .i64 (n : Int), .slice A l.length c] ∧ Below w.heap.size w wr)
  case atStart => exact ⟨0, by omega, rfl, HX0, HG0.out, HB0.out⟩
  case round =>
    clear HX0 HG0 HB0
    obtain ⟨k, hkg, rfl, hno, hgb, hB⟩ := hrel
    have HG := Lib.hid hgb
    have HB := Lib.hid hB
    obtain ⟨p0, p1, -, -⟩ := hgb.two
    cases gk with
    | zero =>
      obtain rfl : k = xs.length := by omega
      have HALL : Hid (∀ x ∈ xs, 0 ≤ x ∧ x < (n : Int)) := fun x hx => by
        obtain ⟨j, hj⟩ := List.getElem?_of_mem hx
        exact hno.out j x (List.getElem?_eq_some_iff.1 hj).1 hj
      clear hgb hB p0 p1
      by_cases h8 : xs.length ≤ 8
      · have h8' : (xs.length : Int) ≤ 8 := by omega
        have HV : Hid (okG (BrnP (n : Int) xs) = true) := okG_yes ⟨HALL.out, h8⟩
        go_wp2_with fail
        go_ret
        rw [HV.out]
        exact ⟨rfl, HB.out⟩
      · have h8' : ¬ (xs.length : Int) ≤ 8 := by omega
        have HV : Hid (okG (BrnP (n : Int) xs) = false) := okG_no fun h => h8 h.2
        have HD : Hid (decide (xs.length ≤ 8) = false) := decide_eq_false h8
        go_wp2_with fail
        go_ret
        rw [HV.out]
        refine ⟨?_, HB.out⟩
        first | rfl | (simp; omega) | simp [HD.out]
    | succ g2 =>
      have hlt : k < xs.length := by omega
      have hlt' : (k : Int) < (xs.length : Int) := by omega
      obtain ⟨y, hy⟩ : ∃ y, xs[k]? = some y := ⟨_, List.getElem?_eq_getElem hlt⟩
      obtain ⟨g5, o5, rfl, c5⟩ := HC2.out k _ hy
      have q5 := nearv.cell_keep c5 hB
      have HNR := Lib.hid (l2Node_any (n : Int) y (.slice A l.length c) l wr.drew (H.out.below hB.drew) (by omega) (by omega))
      cases hib : inB y 0 ((n : Int) - 1) with
      | true =>
        have HN : Hid (∀ j z, j < k + 1 → xs[j]? = some z → 0 ≤ z ∧ z < (n : Int)) := fun j z hj hz => by
          by_cases e : j = k
          · subst e; rw [hy] at hz; cases hz; exact inB_node.1 hib
          · exact hno.out j z (by omega) hz
        rw [hib] at HNR
        clear hy c5 hgb hB hib
        go_wp2_with fail
        refine wp_region_held_drew (S := (fun w' : World => w'.cell? ⟨w.heap.size, 0, none⟩ = some (.int .i64 (n : Int)) ∧ w'.cell? ⟨w.heap.size, 1, none⟩ = some (.slice A l.length c) ∧ w'.cell? ⟨g5, o5 + k, none⟩ = some (.int .i64 y))) (by kernel_rfl) (by (try dsimp only); simp [*]) (fun hHeld => ?_)
        change wpAnyH _ _ _ _ _ _ #[false, false, false, false, false, false, false] _ _
        refine wpAnyH_take (i := 0) (oi := ⟨some 12, _, _, _, _, _⟩) (v := ?_) rfl (by kernel_rfl) (by kernel_rfl) (by kernel_rfl) (fun _ _ _ h => h) (Or.inl ⟨by rfl, ?_⟩) (by assumption) ?_
        rotate_left
        · (intro w hSw; (try dsimp only at hSw); go_simp; (try (with_reducible rfl)))
        try simp only [Act.put, List.setIfInBounds_toArray, List.set_cons_zero, List.set_cons_succ]
        refine wpAnyH_take (i := 1) (oi := ⟨some 13, _, _, _, _, _⟩) (v := ?_) rfl (by kernel_rfl) (by kernel_rfl) (by kernel_rfl) (fun _ _ _ h => h) (Or.inl ⟨by rfl, ?_⟩) (by assumption) ?_
        rotate_left
        · (intro w hSw; (try dsimp only at hSw); go_simp; (try (with_reducible rfl)))
        try simp only [Act.put, List.setIfInBounds_toArray, List.set_cons_zero, List.set_cons_succ]
        refine wpAnyH_take (i := 2) (oi := ⟨some 14, _, _, _, _, _⟩) (v := ?_) rfl (by kernel_rfl) (by kernel_rfl) (by kernel_rfl) (fun _ _ _ h => h) (Or.inl ⟨by rfl, ?_⟩) (by assumption) ?_
        rotate_left
        · (intro w hSw; (try dsimp only at hSw); go_simp; (try (with_reducible rfl)))
        try simp only [Act.put, List.setIfInBounds_toArray, List.set_cons_zero, List.set_cons_succ]
        refine wpAnyH_take (i := 3) (oi := ⟨some 15, _, _, _, _, _⟩) (v := ?_) rfl (by kernel_rfl) (by kernel_rfl) (by kernel_rfl) (fun _ _ _ h => h) (Or.inl ⟨by rfl, ?_⟩) (by assumption) ?_
        rotate_left
        · (intro w hSw; (try dsimp only at hSw); go_simp; (try (with_reducible rfl)))
        try simp only [Act.put, List.setIfInBounds_toArray, List.set_cons_zero, List.set_cons_succ]
        refine wpAnyH_take (i := 4) (oi := ⟨some 16, _, _, _, _, _⟩) (v := ?_) rfl (by kernel_rfl) (by kernel_rfl) (by kernel_rfl) (fun _ _ _ h => h) (Or.inl ⟨by rfl, ?_⟩) (by assumption) ?_
        rotate_left
        · (intro w hSw; (try dsimp only at hSw); go_simp; (try (with_reducible rfl)))
        try simp only [Act.put, List.setIfInBounds_toArray, List.set_cons_zero, List.set_cons_succ]
        refine wpAnyH_ready (rs := [5]) (by kernel_rfl) (by simp) ?_
        refine AllReadyH.cons (o := ⟨some 17, _, _, _, _, _⟩) rfl (fun K hK => ?_) AllReadyH.nil
        go_simp
        refine HNR.out.mono ?_; rintro e w3 ⟨rfl, b3⟩; have d3 : Below wr.heap.size wr w3 := btrans (Below.refl _ _).drew b3; obtain ⟨k0, k1, -, -⟩ := (HG.out.below d3 HG.out.lt).two; have q7 := nearv.cell_keep q5 d3
        go_wp2_with fail
        refine hK.out _ _ (by (try dsimp only); simp [*]) (fun hHeld => ?_)
        clear hK K
        try simp only [List.setIfInBounds_toArray, List.set_cons_zero, List.set_cons_succ]
        refine wpAnyH_take (i := 6) (oi := ⟨some 18, _, _, _, _, _⟩) (v := ?_) rfl (by kernel_rfl) (by kernel_rfl) (by kernel_rfl) (fun _ _ _ h => h) (Or.inl ⟨by rfl, ?_⟩) (by assumption) ?_
        rotate_left
        · (intro w hSw; (try dsimp only at hSw); go_simp; (try (with_reducible rfl)))
        try simp only [Act.put, List.setIfInBounds_toArray, List.set_cons_zero, List.set_cons_succ]
        refine wpAnyH_done (by kernel_rfl) ?_ _
        have HG3 := Lib.hid (HG.out.below d3 HG.out.lt)
        have HB3 := Lib.hid (btrans HB.out d3)
        clear b3 d3 k0 k1 q7 q5 p0 p1 hHeld
        go_wp2_with fail
        go_roundg g2
        case measure => omega
        case rel => exact ⟨k + 1, by omega, by go_num, HN, HG3.out, HB3.out⟩
      | false =>
        have HV : Hid (okG (BrnP (n : Int) xs) = false) := okG_no fun h => by
          have := inB_node.2 (h.1 y (List.mem_of_getElem? hy))
          rw [hib] at this; cases this
        rw [hib] at HNR
        clear hy c5 hgb hB hib
        go_wp2_with fail
        refine wp_region_held_drew (S := (fun w' : World => w'.cell? ⟨w.heap.size, 0, none⟩ = some (.int .i64 (n : Int)) ∧ w'.cell? ⟨w.heap.size, 1, none⟩ = some (.slice A l.length c) ∧ w'.cell? ⟨g5, o5 + k, none⟩ = some (.int .i64 y))) (by kernel_rfl) (by (try dsimp only); simp [*]) (fun hHeld => ?_)
        change wpAnyH _ _ _ _ _ _ #[false, false, false, false, false, false, false] _ _
        refine wpAnyH_take (i := 0) (oi := ⟨some 12, _, _, _, _, _⟩) (v := ?_) rfl (by kernel_rfl) (by kernel_rfl) (by kernel_rfl) (fun _ _ _ h => h) (Or.inl ⟨by rfl, ?_⟩) (by assumption) ?_
        rotate_left
        · (intro w hSw; (try dsimp only at hSw); go_simp; (try (with_reducible rfl)))
        try simp only [Act.put, List.setIfInBounds_toArray, List.set_cons_zero, List.set_cons_succ]
        refine wpAnyH_take (i := 1) (oi := ⟨some 13, _, _, _, _, _⟩) (v := ?_) rfl (by kernel_rfl) (by kernel_rfl) (by kernel_rfl) (fun _ _ _ h => h) (Or.inl ⟨by rfl, ?_⟩) (by assumption) ?_
        rotate_left
        · (intro w hSw; (try dsimp only at hSw); go_simp; (try (with_reducible rfl)))
        try simp only [Act.put, List.setIfInBounds_toArray, List.set_cons_zero, List.set_cons_succ]
        refine wpAnyH_take (i := 2) (oi := ⟨some 14, _, _, _, _, _⟩) (v := ?_) rfl (by kernel_rfl) (by kernel_rfl) (by kernel_rfl) (fun _ _ _ h => h) (Or.inl ⟨by rfl, ?_⟩) (by assumption) ?_
        rotate_left
        · (intro w hSw; (try dsimp only at hSw); go_simp; (try (with_reducible rfl)))
        try simp only [Act.put, List.setIfInBounds_toArray, List.set_cons_zero, List.set_cons_succ]
        refine wpAnyH_take (i := 3) (oi := ⟨some 15, _, _, _, _, _⟩) (v := ?_) rfl (by kernel_rfl) (by kernel_rfl) (by kernel_rfl) (fun _ _ _ h => h) (Or.inl ⟨by rfl, ?_⟩) (by assumption) ?_
        rotate_left
        · (intro w hSw; (try dsimp only at hSw); go_simp; (try (with_reducible rfl)))
        try simp only [Act.put, List.setIfInBounds_toArray, List.set_cons_zero, List.set_cons_succ]
        refine wpAnyH_take (i := 4) (oi := ⟨some 16, _, _, _, _, _⟩) (v := ?_) rfl (by kernel_rfl) (by kernel_rfl) (by kernel_rfl) (fun _ _ _ h => h) (Or.inl ⟨by rfl, ?_⟩) (by assumption) ?_
        rotate_left
        · (intro w hSw; (try dsimp only at hSw); go_simp; (try (with_reducible rfl)))
        try simp only [Act.put, List.setIfInBounds_toArray, List.set_cons_zero, List.set_cons_succ]
        refine wpAnyH_ready (rs := [5]) (by kernel_rfl) (by simp) ?_
        refine AllReadyH.cons (o := ⟨some 17, _, _, _, _, _⟩) rfl (fun K hK => ?_) AllReadyH.nil
        go_simp
        refine HNR.out.mono ?_; rintro e w3 ⟨rfl, b3⟩; have d3 : Below wr.heap.size wr w3 := btrans (Below.refl _ _).drew b3; obtain ⟨k0, k1, -, -⟩ := (HG.out.below d3 HG.out.lt).two; have q7 := nearv.cell_keep q5 d3
        go_wp2_with fail
        refine hK.out _ _ (by (try dsimp only); simp [*]) (fun hHeld => ?_)
        clear hK K
        try simp only [List.setIfInBounds_toArray, List.set_cons_zero, List.set_cons_succ]
        refine wpAnyH_take (i := 6) (oi := ⟨some 18, _, _, _, _, _⟩) (v := ?_) rfl (by kernel_rfl) (by kernel_rfl) (by kernel_rfl) (fun _ _ _ h => h) (Or.inl ⟨by rfl, ?_⟩) (by assumption) ?_
        rotate_left
        · (intro w hSw; (try dsimp only at hSw); go_simp; (try (with_reducible rfl)))
        try simp only [Act.put, List.setIfInBounds_toArray, List.set_cons_zero, List.set_cons_succ]
        refine wpAnyH_done (by kernel_rfl) ?_ _
        have HB3 := Lib.hid (btrans HB.out d3)
        clear b3 d3 k0 k1 q7 q5 p0 p1 hHeld
        go_wp2_with fail
        go_ret
        rw [HV.out]
        exact ⟨rfl, HB3.out⟩
theorem ball_bits {l : List Ed} {n x r : Nat} (hn : n ≤ 8) (hx : x < n) : ballo.ballL n l x (r : Int) = nw (bitB (bN l n x r)) n := by
  unfold ballo.ballL
  refine nw_congr fun y hy => ?_
  have h1 := wk_dist (l := l) hx (r := r) hy
  have h2 := bN_iff (l := l) hx (r := r) (y := y)
  rw [Bool.eq_iff_iff]
  unfold inB bitB
  rw [decide_eq_true_iff, h2, h1]
  exact ⟨fun h => ⟨hy, h⟩, fun h => h.2⟩
theorem codeT {n b : Nat} {M : List Int} (hM : M = nw (bitB b) n) {k : Nat} {y : Int} (hy : M[k]? = some y) : ∃ x : Nat, y = (x : Int) ∧ x < n ∧ codeL (M.take (k + 1)) = codeL (M.take k) ||| 2 ^ x := by
  obtain ⟨x, hx, -, rfl⟩ := mem_nw.1 (by rw [← hM]; exact List.mem_of_getElem? hy)
  exact ⟨x, rfl, hx, by rw [code_succ hy, Int.toNat_natCast]⟩
set_option maxHeartbeats 4000000 in
set_option maxRecDepth 100000 in
theorem l8Burnt_any (n : Nat) (v u : Value) (l : List Ed) (xs : List Int) (w : World) (h : Edges w v l) (hl : l.length ≤ 1048576) (hu : Ints w u xs) (hg : P2.Good (n : Int) l) (hn : n ≤ 8) (hx : ∀ x ∈ xs, 0 ≤ x ∧ x < (n : Int)) (hx8 : xs.length ≤ 8) :
    Calls Try.prog 85 #[.agg #[.int .i64 (n : Int), v], u] w (RowI w (nw (bitB (bntK l n xs xs.length)) n)) := by
  obtain ⟨A, c, rfl, -⟩ := h.form
  obtain ⟨A2, c2, rfl, hc2⟩ := hu.form
  have H := Lib.hid h
  have HC2 := Lib.hid hc2
  have HMM := Lib.hid hx
  have b0 : Below w.heap.size w ((w.alloc (.cells #[.int .i64 (n : Int), .slice A l.length c] 29)).alloc (.cells #[] 3)) := ((Below.refl _ _).alloc (Nat.le_refl _) _).alloc (by simp) _
  have HB0 := Lib.hid b0
  have HG0 := Lib.hid ((Blk.new w 29 #[.int .i64 (n : Int), .slice A l.length c]).alloc (.cells #[] 3))
  have o0 := own_new0 (w.alloc (.cells #[.int .i64 (n : Int), .slice A l.length c] 29)) 3 1
  rw [World.size_alloc] at o0
  have hz0 : nw (bitB 0) n = [] := by rw [nd_bits hn (Nat.pow_pos (by decide))]; decide
  have HO0 : Hid (((w.alloc (.cells #[.int .i64 (n : Int), .slice A l.length c] 29)).alloc (.cells #[] 3)).ownsRow w.heap.size 3 1 (.slice (some ⟨w.heap.size + 1, 0, none⟩) 0 0) (nw (bitB (bntK l n xs 0)) n).length (cellsI (nw (bitB (bntK l n xs 0)) n))) := by
    show World.ownsRow _ _ _ _ _ _ _
    unfold bntK
    rw [hz0]
    exact own_base o0 (by omega)
  clear h hu hc2 b0 o0 hz0 hg hx
  go_enter Try.func85, Try.ntmps85
  go_wp2_with fail
  go_loopg [5, 6] xs.length (fun g ov iv wr => ∃ (i : Nat) (ow : Value), ow = ov ∧ i + g = xs.length ∧ iv = .int .i64 (i : Int) ∧ wr.ownsRow w.heap.size 3 1 ow (nw (bitB (bntK l n xs i)) n).length (cellsI (nw (bitB (bntK l n xs i)) n)) ∧ Blk wr w.heap.size 29 #[.int .i64 (n : Int), .slice A l.length c] ∧ Below w.heap.size w wr)
  case atStart => exact ⟨0, _, rfl, by omega, rfl, HO0.out, HG0.out, HB0.out⟩
  case round =>
    clear HO0 HG0 HB0
    obtain ⟨i, ow, rfl, hig, rfl, hrow, hgb, hB⟩ := hrel
    obtain ⟨A4, c4, rfl⟩ := own_form hrow
    have HR := Lib.hid hrow
    have HG := Lib.hid hgb
    have HB := Lib.hid hB
    obtain ⟨p0, p1, -, -⟩ := hgb.two
    cases gk with
    | zero =>
      obtain rfl : i = xs.length := by omega
      clear hrow hgb hB
      go_wp2_with fail
      go_ret
      exact ⟨_, _, rfl, HR.out, HB.out⟩
    | succ g2 =>
      have hlt : i < xs.length := by omega
      have hlt' : (i : Int) < (xs.length : Int) := by omega
      obtain ⟨x', hx'⟩ : ∃ x, xs[i]? = some x := ⟨_, List.getElem?_eq_getElem hlt⟩
      have hxm := HMM.out x' (List.mem_of_getElem? hx')
      obtain ⟨x, rfl⟩ : ∃ x : Nat, x' = (x : Int) := ⟨x'.toNat, by omega⟩
      have hxn : x < n := by omega
      obtain ⟨g5, o5, rfl, c5⟩ := HC2.out i _ hx'
      have q5 := nearv.cell_keep c5 hB
      have hR : (xs.length : Int) - 1 - (i : Int) = ((xs.length - 1 - i : Nat) : Int) := by omega
      have HSU := Lib.hid (bnt_succ (l := l) (n := n) hx')
      have hw1 : IntKind.i64.wrap ((xs.length : Int) - 1) = (xs.length : Int) - 1 := Go.IntWalk.i64_in _ (by omega)
      have hw2 : IntKind.i64.wrap ((xs.length : Int) - 1 - (i : Int)) = ((xs.length - 1 - i : Nat) : Int) := by rw [hR]; exact Go.IntWalk.i64_in _ (by omega)
      have hw3 : IntKind.i64.wrap ((xs.length - 1 - i : Nat) : Int) = ((xs.length - 1 - i : Nat) : Int) := Go.IntWalk.i64_in _ (by omega)
      have HWI := ballo.l2Within_any n x ((xs.length - 1 - i : Nat) : Int) (.slice A l.length c) l wr.drew (H.out.below hB.drew) hl hn hxn
      rw [ball_bits hn hxn] at HWI
      have HW := Lib.hid HWI
      have hbn : bN l n x (xs.length - 1 - i) < 2 ^ n := by
        refine Nat.lt_pow_two_of_testBit _ fun j hj => ?_
        cases hb : (bN l n x (xs.length - 1 - i)).testBit j with
        | false => rfl
        | true => have := ((bN_iff hxn).1 hb).1; omega
      have HCD : Hid (codeL (nw (bitB (bN l n x (xs.length - 1 - i))) n) = bN l n x (xs.length - 1 - i)) := by
        apply Nat.eq_of_testBit_eq
        intro j
        rw [code_bit (fun y hy => by obtain ⟨z, _, _, rfl⟩ := mem_nw.1 hy; omega)]
        cases hb : (bN l n x (xs.length - 1 - i)).testBit j with
        | false =>
          rw [decide_eq_false_iff_not]
          intro hm
          obtain ⟨z, _, hz, e⟩ := mem_nw.1 hm
          have : j = z := by omega
          subst this
          unfold bitB at hz
          rw [hb] at hz; cases hz
        | true =>
          rw [decide_eq_true_iff]
          exact mem_nw.2 ⟨j, ((bN_iff hxn).1 hb).1, hb, rfl⟩
      have HCT := Lib.hid (fun (k : Nat) (y : Int) (hy : (nw (bitB (bN l n x (xs.length - 1 - i))) n)[k]? = some y) => codeT rfl hy)
      have HSS : Hid (bntK l n xs (i + 1) = bntK l n xs i ||| codeL ((nw (bitB (bN l n x (xs.length - 1 - i))) n).take (nw (bitB (bN l n x (xs.length - 1 - i))) n).length)) := by
        show _ = _
        rw [List.take_length, HCD.out]; exact HSU.out
      have hml := nw_len (bitB (bN l n x (xs.length - 1 - i))) n
      clear hx' hxm c5 hB HWI hbn HCD HSU hrow hgb
      generalize nw (bitB (bN l n x (xs.length - 1 - i))) n = M at *
      generalize xs.length - 1 - i = R at *
      generalize bntK l n xs i = y1 at *
      go_wp2_with fail
      refine wp_region_held_drew (S := (fun w' : World => w'.cell? ⟨w.heap.size, 0, none⟩ = some (.int .i64 (n : Int)) ∧ w'.cell? ⟨w.heap.size, 1, none⟩ = some (.slice A l.length c) ∧ w'.cell? ⟨g5, o5 + i, none⟩ = some (.int .i64 (x : Int)))) (by kernel_rfl) (by (try dsimp only); simp [*]) (fun hHeld => ?_)
      change wpAnyH _ _ _ _ _ _ #[false, false, false, false, false, false, false, false, false, false, false, false] _ _
      refine wpAnyH_take (i := 0) (oi := ⟨some 16, _, _, _, _, _⟩) (v := ?_) rfl (by kernel_rfl) (by kernel_rfl) (by kernel_rfl) (fun _ _ _ h => h) (Or.inl ⟨by rfl, ?_⟩) (by assumption) ?_
      rotate_left
      · (intro w hSw; (try dsimp only at hSw); go_simp; (try (with_reducible rfl)))
      try simp only [Act.put, List.setIfInBounds_toArray, List.set_cons_zero, List.set_cons_succ]
      refine wpAnyH_take (i := 1) (oi := ⟨some 17, _, _, _, _, _⟩) (v := ?_) rfl (by kernel_rfl) (by kernel_rfl) (by kernel_rfl) (fun _ _ _ h => h) (Or.inl ⟨by rfl, ?_⟩) (by assumption) ?_
      rotate_left
      · (intro w hSw; (try dsimp only at hSw); go_simp; (try (with_reducible rfl)))
      try simp only [Act.put, List.setIfInBounds_toArray, List.set_cons_zero, List.set_cons_succ]
      refine wpAnyH_take (i := 2) (oi := ⟨some 18, _, _, _, _, _⟩) (v := ?_) rfl (by kernel_rfl) (by kernel_rfl) (by kernel_rfl) (fun _ _ _ h => h) (Or.inl ⟨by rfl, ?_⟩) (by assumption) ?_
      rotate_left
      · (intro w hSw; (try dsimp only at hSw); go_simp; (try (with_reducible rfl)))
      try simp only [Act.put, List.setIfInBounds_toArray, List.set_cons_zero, List.set_cons_succ]
      refine wpAnyH_take (i := 3) (oi := ⟨some 19, _, _, _, _, _⟩) (v := ?_) rfl (by kernel_rfl) (by kernel_rfl) (by kernel_rfl) (fun _ _ _ h => h) (Or.inl ⟨by rfl, ?_⟩) (by assumption) ?_
      rotate_left
      · (intro w hSw; (try dsimp only at hSw); go_simp; (try (with_reducible rfl)))
      try simp only [Act.put, List.setIfInBounds_toArray, List.set_cons_zero, List.set_cons_succ]
      refine wpAnyH_take (i := 4) (oi := ⟨some 20, _, _, _, _, _⟩) (v := ?_) rfl (by kernel_rfl) (by kernel_rfl) (by kernel_rfl) (fun _ _ _ h => h) (Or.inl ⟨by rfl, ?_⟩) (by assumption) ?_
      rotate_left
      · (intro w hSw; (try dsimp only at hSw); go_simp; (try (with_reducible rfl)))
      try simp only [Act.put, List.setIfInBounds_toArray, List.set_cons_zero, List.set_cons_succ]
      refine wpAnyH_take (i := 5) (oi := ⟨some 21, _, _, _, _, _⟩) (v := ?_) rfl (by kernel_rfl) (by kernel_rfl) (by kernel_rfl) (fun _ _ _ h => h) (Or.inl ⟨by rfl, ?_⟩) (by assumption) ?_
      rotate_left
      · (intro w hSw; (try dsimp only at hSw); go_simp; (try (with_reducible rfl)))
      try simp only [Act.put, List.setIfInBounds_toArray, List.set_cons_zero, List.set_cons_succ]
      refine wpAnyH_take (i := 6) (oi := ⟨some 22, _, _, _, _, _⟩) (v := ?_) rfl (by kernel_rfl) (by kernel_rfl) (by kernel_rfl) (fun _ _ _ h => h) (Or.inl ⟨by rfl, ?_⟩) (by assumption) ?_
      rotate_left
      · (intro w hSw; (try dsimp only at hSw); go_simp; (try (with_reducible rfl)))
      try simp only [Act.put, List.setIfInBounds_toArray, List.set_cons_zero, List.set_cons_succ]
      refine wpAnyH_take (i := 7) (oi := ⟨some 23, _, _, _, _, _⟩) (v := ?_) rfl (by kernel_rfl) (by kernel_rfl) (by kernel_rfl) (fun _ _ _ h => h) (Or.inl ⟨by rfl, ?_⟩) (by assumption) ?_
      rotate_left
      · (intro w hSw; (try dsimp only at hSw); go_simp; (try (with_reducible rfl)))
      try simp only [Act.put, List.setIfInBounds_toArray, List.set_cons_zero, List.set_cons_succ]
      refine wpAnyH_take (i := 8) (oi := ⟨some 24, _, _, _, _, _⟩) (v := ?_) rfl (by kernel_rfl) (by kernel_rfl) (by kernel_rfl) (fun _ _ _ h => h) (Or.inl ⟨by rfl, ?_⟩) (by assumption) ?_
      rotate_left
      · (intro w hSw; (try dsimp only at hSw); go_simp; (try (with_reducible rfl)))
      try simp only [Act.put, List.setIfInBounds_toArray, List.set_cons_zero, List.set_cons_succ]
      refine wpAnyH_take (i := 9) (oi := ⟨some 25, _, _, _, _, _⟩) (v := ?_) rfl (by kernel_rfl) (by kernel_rfl) (by kernel_rfl) (fun _ _ _ h => h) (Or.inl ⟨by rfl, ?_⟩) (by assumption) ?_
      rotate_left
      · (intro w hSw; (try dsimp only at hSw); go_simp; (try (with_reducible rfl)))
      try simp only [Act.put, List.setIfInBounds_toArray, List.set_cons_zero, List.set_cons_succ]
      refine wpAnyH_ready (rs := [10]) (by kernel_rfl) (by simp) ?_
      refine AllReadyH.cons (o := ⟨some 26, _, _, _, _, _⟩) rfl (fun K hK => ?_) AllReadyH.nil
      go_simp
      (with_reducible refine HW.out.mono ?_); rintro e w3 ⟨A6, c6, rfl, o6, b3⟩; have d3 : Below wr.heap.size wr w3 := btrans (Below.refl _ _).drew b3; obtain ⟨k0, k1, -, -⟩ := (HG.out.below d3 HG.out.lt).two; have q7 := nearv.cell_keep q5 d3
      go_wp2_with fail
      refine hK.out _ _ (by (try dsimp only); simp [*]) (fun hHeld => ?_)
      clear hK K
      try simp only [List.setIfInBounds_toArray, List.set_cons_zero, List.set_cons_succ]
      refine wpAnyH_take (i := 11) (oi := ⟨some 7, _, _, _, _, _⟩) (v := ?_) rfl (by kernel_rfl) (by kernel_rfl) (by kernel_rfl) (fun _ _ _ h => h) (Or.inl ⟨by rfl, ?_⟩) (by assumption) ?_
      rotate_left
      · (intro w hSw; (try dsimp only at hSw); go_simp; (try (with_reducible rfl)))
      try simp only [Act.put, List.setIfInBounds_toArray, List.set_cons_zero, List.set_cons_succ]
      refine wpAnyH_done (by kernel_rfl) ?_ _
      have HG3 := Lib.hid (HG.out.below d3 HG.out.lt)
      have HB3 := Lib.hid (btrans HB.out d3)
      have HR3 : Hid (w3.ownsRow w.heap.size 3 1 (.slice A4 (nw (bitB y1) n).length c4) (nw (bitB (y1 ||| codeL (M.take 0))) n).length (cellsI (nw (bitB (y1 ||| codeL (M.take 0))) n))) := by
        show World.ownsRow _ _ _ _ _ _ _
        have : y1 ||| codeL (M.take 0) = y1 := by rw [List.take_zero]; show y1 ||| 0 = y1; simp
        rw [this]
        exact own_below HR.out d3
      have HM3 : Hid (Ints w3 (.slice A6 M.length c6) M) := Reads.of_own o6
      clear b3 d3 k0 k1 q7 q5 p0 p1 hHeld o6
      go_wp2_with fail
      obtain ⟨wo, hwo⟩ : ∃ wo, wo = wr := ⟨_, rfl⟩
      go_loopg [5, 8] M.length (fun g ov kv wr => ∃ (k : Nat) (ow : Value), ow = ov ∧ k + g = M.length ∧ kv = .int .i64 (k : Int) ∧ wr.ownsRow w.heap.size 3 1 ow (nw (bitB (y1 ||| codeL (M.take k))) n).length (cellsI (nw (bitB (y1 ||| codeL (M.take k))) n)) ∧ Blk wr w.heap.size 29 #[.int .i64 (n : Int), .slice A l.length c] ∧ Below w3.heap.size w3 wr)
      case atStart => exact ⟨0, _, rfl, by omega, rfl, HR3.out, HG3.out, Below.refl _ _⟩
      case round =>
        clear HR3 HG3
        obtain ⟨k, ow, rfl, hkg, rfl, hrow, hgb, hB⟩ := hrel
        obtain ⟨A7, c7, rfl⟩ := own_form hrow
        have HR7 := Lib.hid hrow
        have HG7 := Lib.hid hgb
        have HB7 := Lib.hid hB
        cases gk with
        | zero =>
          obtain rfl : k = M.length := by omega
          have HB8 := Lib.hid (HB3.out.trans (hB.mono HB3.out.size))
          clear hrow hgb hB
          go_wp2_with fail
          go_roundg g2
          case measure => omega
          case rel => exact ⟨i + 1, _, rfl, by omega, by go_num, by rw [HSS.out]; exact HR7.out, HG7.out, HB8.out⟩
        | succ g3 =>
          have hkl : k < M.length := by omega
          have hkl' : (k : Int) < (M.length : Int) := by omega
          obtain ⟨y, hy⟩ : ∃ y, M[k]? = some y := ⟨_, List.getElem?_eq_getElem hkl⟩
          obtain ⟨z, rfl, hzn, hcs⟩ := HCT.out k y hy
          obtain ⟨_, _, hf6, hcc⟩ := (show Ints wr (.slice A6 M.length c6) M from HM3.out.below hB).form
          cases hf6
          obtain ⟨g9, o9, rfl, c9⟩ := hcc k _ hy
          have hnl := nw_len (bitB (y1 ||| codeL (M.take k))) n
          have HPT := Lib.hid (l1Put_own _ (nw (bitB (y1 ||| codeL (M.take k))) n) (z : Int) wr w.heap.size hrow (Nat.le_trans HB3.out.size hB.size) (by omega) (nw_asc _ _))
          have HPB : Hid (∀ L, PutI (nw (bitB (y1 ||| codeL (M.take k))) n) (z : Int) L → L = nw (bitB (y1 ||| codeL (M.take (k + 1)))) n) := fun L h => by
            have := put_bits h hzn
            rw [hcs, ← Nat.or_assoc]
            exact this
          clear hrow hgb hB hcc hy hcs
          generalize (nw (bitB (y1 ||| codeL (M.take k))) n) = M2 at *
          go_wp2_with fail
          refine HPT.out.mono ?_
          rintro e w5 ⟨L, A8, c8, rfl, hpi, o8, b8⟩
          have HLB := Lib.hid (HPB.out L hpi)
          have HB8 := Lib.hid (HB7.out.trans (b8.mono HB7.out.size))
          have HG8 := Lib.hid (HG7.out.below b8 HG7.out.lt)
          have HO8 := Lib.hid o8
          clear hpi o8 b8 c9
          go_wp2_with fail
          go_roundg g3
          case measure => omega
          case rel => exact ⟨k + 1, _, rfl, by omega, by go_num, by rw [← HLB.out]; exact HO8.out, HG8.out, HB8.out⟩
set_option maxHeartbeats 2000000 in
set_option maxRecDepth 100000 in
theorem specBnt_any (s : Int) (v u : Value) (l : List Ed) (xs : List Int) (w : World) (h : Edges w v l) (hl : l.length ≤ 1048576) (hu : Ints w u xs) (hxl : xs.length ≤ 1048576) (hs1 : -9223372036854775808 ≤ s) (hs2 : s ≤ 9223372036854775807) :
    Calls Try.prog 35 #[.agg #[.int .i64 s, v], u] w (RetI w (BurnOk s l xs) (bntL s l xs)) := by
  obtain ⟨A, c, rfl, -⟩ := h.form
  have H := Lib.hid h
  have HU := Lib.hid hu
  have b0 : Below w.heap.size w (w.alloc (.cells #[.int .i64 s, .slice A l.length c] 29)) := (Below.refl _ _).alloc (Nat.le_refl _) _
  have g0 := Blk.new w 29 #[.int .i64 s, .slice A l.length c]
  obtain ⟨p0, p1, -, -⟩ := g0.two
  have HGD := Lib.hid (l2Good_any s _ l _ (h.below b0) hl hs1 hs2)
  have HB0 := Lib.hid b0
  have HG0 := Lib.hid g0
  clear h hu b0 g0
  by_cases hgd : P2.Good s l
  · rw [goodB_yes hgd] at HGD
    have h0 := hgd.1
    have h8 := hgd.2.1
    obtain ⟨n, rfl⟩ : ∃ n : Nat, s = (n : Int) := ⟨s.toNat, by omega⟩
    have hn : n ≤ 8 := by omega
    have HLB := Lib.hid (fun (W : World) (hW : Below w.heap.size w W) => l8Burning_any n (.slice A l.length c) u l xs W (H.out.below hW) (HU.out.below hW) hxl hn)
    by_cases hbn : BrnP (n : Int) xs
    · rw [okG_yes hbn] at HLB
      have HOK : Hid (BurnOk (n : Int) l xs) := (burn_iff hgd).2 hbn
      have HVL : Hid (bntL (n : Int) l xs = ndN (bntK l n xs xs.length)) := by show _ = _; unfold bntL; rw [Int.toNat_natCast]
      have HBT := Lib.hid (fun (W : World) (hW : Below w.heap.size w W) => l8Burnt_any n (.slice A l.length c) u l xs W (H.out.below hW) hl (HU.out.below hW) hgd hn hbn.1 hbn.2)
      have HBN : Hid (nw (bitB (bntK l n xs xs.length)) n = ndN (bntK l n xs xs.length)) := nd_bits hn (by
        have : ∀ i, i ≤ xs.length → bntK l n xs i < 2 ^ n := fun i => by
          induction i with
          | zero => intro _; exact Nat.pow_pos (by decide)
          | succ i ih =>
            intro hi
            obtain ⟨y, hy⟩ : ∃ y, xs[i]? = some y := ⟨_, List.getElem?_eq_getElem (by omega)⟩
            have hym := hbn.1 y (List.mem_of_getElem? hy)
            obtain ⟨x, rfl⟩ : ∃ x : Nat, y = (x : Int) := ⟨y.toNat, by omega⟩
            rw [bnt_succ hy]
            refine Nat.or_lt_two_pow (ih (by omega)) (Nat.lt_pow_two_of_testBit _ fun j hj => ?_)
            cases hb : (bN l n x (xs.length - 1 - i)).testBit j with
            | false => rfl
            | true => have := ((bN_iff (by omega)).1 hb).1; omega
        exact this _ (Nat.le_refl _))
      clear hgd hbn
      go_enter Try.func35, Try.ntmps35
      go_wp2_with fail
      refine HGD.out.mono ?_
      rintro e w1 ⟨rfl, b1⟩
      have HE1 := Lib.hid (btrans HB0.out b1)
      have HG1 := Lib.hid (HG0.out.below b1 HG0.out.lt)
      have HL1 := Lib.hid (HLB.out w1 HE1.out)
      clear p0 p1 b1 HGD HB0 HG0
      obtain ⟨p0, p1, -, -⟩ := HG1.out.two
      go_wp2_with fail
      refine HL1.out.mono ?_
      rintro e w2 ⟨rfl, b2⟩
      have HE2 := Lib.hid (btrans HE1.out b2)
      have HG2 := Lib.hid (HG1.out.below b2 HG1.out.lt)
      have HB2 := Lib.hid (HBT.out w2 HE2.out)
      clear p0 p1 b2 HE1 HG1
      obtain ⟨p0, p1, -, -⟩ := HG2.out.two
      go_wp2_with fail
      refine HB2.out.mono ?_
      rintro e w4 ⟨A4, c4, rfl, o4, b4⟩
      rw [HBN.out] at o4 ⊢
      have HO4 := Lib.hid o4
      have HB4 := Lib.hid b4
      clear o4 b4
      go_wp2_with fail
      go_ret2
      rw [HVL.out]
      exact RetI.yes HOK.out (own_base HO4.out HE2.out.size) (btrans HE2.out HB4.out)
    · rw [okG_no hbn] at HLB
      have HNO : Hid (¬ BurnOk (n : Int) l xs) := fun h => hbn ((burn_iff hgd).1 h)
      clear hgd hbn
      go_enter Try.func35, Try.ntmps35
      go_wp2_with fail
      refine HGD.out.mono ?_
      rintro e w1 ⟨rfl, b1⟩
      have HE1 := Lib.hid (btrans HB0.out b1)
      have HG1 := Lib.hid (HG0.out.below b1 HG0.out.lt)
      have HL1 := Lib.hid (HLB.out w1 HE1.out)
      clear p0 p1 b1 HGD HB0 HG0
      obtain ⟨p0, p1, -, -⟩ := HG1.out.two
      go_wp2_with fail
      refine HL1.out.mono ?_
      rintro e w2 ⟨rfl, b2⟩
      have HE2 := Lib.hid (btrans HE1.out b2)
      clear p0 p1 b2 HE1 HG1
      go_wp2_with fail
      go_ret2
      exact RetI.no HNO.out (own_base (own_new0 w2 3 1) HE2.out.size) (HE2.out.alloc HE2.out.size _)
  · rw [goodB_no hgd] at HGD
    have HNO : Hid (¬ BurnOk s l xs) := fun h => hgd (nodesB_iff.1 h.1).1
    clear hgd
    go_enter Try.func35, Try.ntmps35
    go_wp2_with fail
    refine HGD.out.mono ?_
    rintro e w1 ⟨rfl, b1⟩
    have HE1 := Lib.hid (btrans HB0.out b1)
    clear p0 p1 b1
    go_wp2_with fail
    go_ret2
    exact RetI.no HNO.out (own_base (own_new0 w1 3 1) HE1.out.size) (HE1.out.alloc HE1.out.size _)
theorem bnt_len (s : Int) (l : List Ed) (xs : List Int) : (inG (BurnOk s l xs) (bntL s l xs)).length ≤ 1048576 := inG_len fun _ => by
  unfold bntL ndN
  have := nw_len (bitB (bntK l s.toNat xs xs.length)) 8
  omega
end Go.Proofs.Ytnmidgnkjpcpgaa.ups
