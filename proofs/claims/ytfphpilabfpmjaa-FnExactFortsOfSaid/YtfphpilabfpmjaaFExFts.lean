/- One list of nodes is part of another one: the contract of the model's l7Part. -/
import Derived.Handy
import Derived.Test.YtfphpilabfpmjaaF01
import Derived.Test.YtfphpilabfpmjaaBall
import Derived.Test.YtfphpilabfpmjaaForcS
import Derived.Deep.DeepCutAuto
import Derived.Deep.RegionHeld3
import Derived.Deep.QuietTactic
import Derived.Test.YtfphpilabfpmjaaStsS
import Derived.Maps.AppendAt
import Derived.Test.YtfphpilabfpmjaaGridL
import Derived.Test.YtfphpilabfpmjaaOwn
import Derived.Test.YtfphpilabfpmjaaOpen
import Derived.Test.YtfphpilabfpmjaaRows
import Derived.ProofKit
import Derived.OpenShut
import Derived.ChangeOld
import Derived.Carry
namespace Go.Proofs.Ytfphpilabfpmjaa.forc
open Go.RowKit P2 words edges ints good adjs fns sets rets covs bags bitsI ups func balls
set_option linter.unusedVariables false

theorem ndN_mem {c : Nat} {x : Int} : x ∈ ndN c ↔ ∃ j : Nat, j < 8 ∧ c.testBit j = true ∧ x = (j : Int) := by
  unfold ndN
  rw [mem_nw]
  constructor
  · rintro ⟨j, h1, h2, h3⟩; exact ⟨j, h1, h2, h3⟩
  · rintro ⟨j, h1, h2, h3⟩; exact ⟨j, h1, h2, h3⟩
theorem nd_sub {f c : Nat} (hf : f < 256) : ((ndN f).all fun x => decide (x ∈ ndN c)) = subB f c := by
  rw [Bool.eq_iff_iff, subB_iff, List.all_eq_true]
  constructor
  · intro h z hz
    have hz8 : z < 8 := by
      by_cases e : z < 8
      · exact e
      · rw [Nat.testBit_lt_two_pow (Nat.lt_of_lt_of_le hf (Nat.pow_le_pow_right (show 0 < 2 by decide) (show 8 ≤ z by omega)))] at hz; cases hz
    obtain ⟨j, _, h2, h3⟩ := ndN_mem.1 (of_decide_eq_true (h (z : Int) (ndN_mem.2 ⟨z, hz8, hz, rfl⟩)))
    obtain rfl : z = j := by omega
    exact h2
  · intro h x hx
    obtain ⟨j, h1, h2, rfl⟩ := ndN_mem.1 hx
    exact decide_eq_true (ndN_mem.2 ⟨j, h1, h j h2, rfl⟩)
set_option maxHeartbeats 2000000 in
theorem l7Part_any (u v : Value) (xs ys : List Int) (w : World) (hu : Ints w u xs) (hv : Ints w v ys) (hx : xs.length ≤ 1048576) (hy : ys.length ≤ 1048576) :
    Calls Try.prog 77 #[u, v] w fun e w' => e = .returned (.bool (xs.all fun x => decide (x ∈ ys))) ∧ w = w' := by
  obtain ⟨A1, c1, rfl, hc⟩ := hu.form
  have HC := Lib.hid hc
  have HH := Lib.hid (fun (x : Int) => l1Has_any v ys x w hv hy)
  obtain ⟨A2, c2, rfl, -⟩ := hv.form
  clear hu hv hc
  go_enter Try.func77, Try.ntmps77
  go_wp2_with fail
  go_loopg [5] xs.length (fun g iv wr => ∃ k : Nat, k + g = xs.length ∧ iv = .int .i64 (k : Int) ∧ Hid (∀ j y, j < k → xs[j]? = some y → y ∈ ys) ∧ wr = w)
  case atStart => exact ⟨0, by omega, rfl, fun j e h => by omega, rfl⟩
  case round =>
    obtain ⟨k, hkg, rfl, hall, rfl⟩ := hrel
    cases gk with
    | zero =>
      obtain rfl : k = xs.length := by omega
      have HV : Hid ((xs.all fun x => decide (x ∈ ys)) = true) := by
        show _ = _
        rw [List.all_eq_true]
        intro x hx
        obtain ⟨j, hj⟩ := List.getElem?_of_mem hx
        exact decide_eq_true (hall.out j x (List.getElem?_eq_some_iff.1 hj).1 hj)
      go_wp2_with fail
      go_ret
      exact ⟨ret_bool HV.out.symm, rfl⟩
    | succ g2 =>
      have hlt : k < xs.length := by omega
      have hlt' : (k : Int) < (xs.length : Int) := by omega
      obtain ⟨y, hy⟩ : ∃ y, xs[k]? = some y := ⟨_, List.getElem?_eq_getElem hlt⟩
      obtain ⟨g, o, rfl, c0⟩ := HC.out k y hy
      have HL := Lib.hid (HH.out y)
      by_cases hm : y ∈ ys
      · have HK : Hid (∀ j z, j < k + 1 → xs[j]? = some z → z ∈ ys) := fun j z hj hz => by
          by_cases e : j = k
          · subst e; rw [hy] at hz; cases hz; exact hm
          · exact hall.out j z (by omega) hz
        rw [decide_eq_true hm] at HL
        clear hy hm
        go_wp2_with fail
        refine HL.out.mono ?_
        rintro e w' ⟨rfl, rfl⟩
        go_wp2_with fail
        go_roundg g2
        case measure => omega
        case rel => exact ⟨k + 1, by omega, by go_num, HK, rfl⟩
      · have HV : Hid ((xs.all fun x => decide (x ∈ ys)) = false) := by
          show _ = _
          rw [List.all_eq_false]
          exact ⟨y, List.mem_of_getElem? hy, by simpa using hm⟩
        rw [decide_eq_false hm] at HL
        clear hy hm
        go_wp2_with fail
        refine HL.out.mono ?_
        rintro e w' ⟨rfl, rfl⟩
        go_wp2_with fail
        go_ret
        exact ⟨ret_bool HV.out.symm, rfl⟩
end Go.Proofs.Ytfphpilabfpmjaa.forc

/- Forts: the contracts of the model's l9Fort and IsFort. -/
namespace Go.Proofs.Ytfphpilabfpmjaa.forc
open Go.RowKit P2 words edges ints good adjs fns sets rets covs bags balls bitsI ups func costs
set_option linter.unusedVariables false

/-- the neighbors of a node are those in a set and the others -/
theorem nei_split {n c x : Nat} {l : List Ed} (hg : P2.Good (n : Int) l) (hn : n ≤ 8) (hc : c < 2 ^ n) (hx : c.testBit x = false) : (nw (fun y => adj l (x : Int) (y : Int)) n).length = insN l c x + (nw (lefB l c x) n).length := by
  rw [← ins_len hg hn hc hx]
  unfold nw
  rw [List.length_map, List.length_map, List.length_map, ← List.countP_eq_length_filter, ← List.countP_eq_length_filter, ← List.countP_eq_length_filter]
  have h := List.countP_eq_countP_filter_add (List.range n) (fun y : Nat => adj l (x : Int) (y : Int)) (bitB c)
  rw [h, List.countP_filter, List.countP_filter]
  congr 1
  · congr 1; funext y; rw [adj_comm, Bool.and_comm]
theorem mem_code {n c : Nat} {x : Nat} (hx : x < n) : decide ((x : Int) ∈ nw (bitB c) n) = c.testBit x := by
  rw [Bool.eq_iff_iff, decide_eq_true_iff, mem_nw]
  constructor
  · rintro ⟨j, hj, hp, e⟩
    have : x = j := by omega
    subst this; exact hp
  · intro h; exact ⟨x, hx, h, rfl⟩
set_option maxHeartbeats 4000000 in
set_option maxRecDepth 100000 in
theorem l9Fort_any (n c : Nat) (v u : Value) (l : List Ed) (w : World) (h : Edges w v l) (hl : l.length ≤ 1048576) (hu : Ints w u (nw (bitB c) n)) (hg : P2.Good (n : Int) l) (hn : n ≤ 8) (hc : c < 2 ^ n) :
    Calls Try.prog 73 #[.agg #[.int .i64 (n : Int), v], u] w fun e w' => e = .returned (.bool (frtB n l c)) ∧ Below w.heap.size w w' := by
  obtain ⟨A, cc, rfl, -⟩ := h.form
  obtain ⟨A2, c2, rfl, -⟩ := hu.form
  have H := Lib.hid h
  have HU := Lib.hid hu
  have HGD := Lib.hid hg
  have HC := Lib.hid hc
  have HB0 : Hid (Below w.heap.size w (w.alloc (.cells #[.int .i64 (n : Int), .slice A l.length cc] 29))) := (Below.refl _ _).alloc (Nat.le_refl _) _
  have HG0 := Lib.hid (Blk.new w 29 #[.int .i64 (n : Int), .slice A l.length cc])
  have HK0 : Hid (∀ j, j < 0 → ¬ (c.testBit j = false ∧ insN l c j = 1)) := fun j hj => by omega
  have hL := nw_len (bitB c) n
  have HLO := Lib.hid (nw_ones hn hc)
  clear h hu hg hc
  go_enter Try.func73, Try.ntmps73
  go_wp2_with fail
  go_loopg [5] n (fun g xv wr => ∃ k : Nat, k + g = n ∧ xv = .int .i64 (k : Int) ∧ Hid (∀ j, j < k → ¬ (c.testBit j = false ∧ insN l c j = 1)) ∧ Blk wr w.heap.size 29 #[.int .i64 (n : Int), .slice A l.length cc] ∧ Below w.heap.size w wr)
  case atStart => exact ⟨0, by omega, rfl, HK0, HG0.out, HB0.out⟩
  case round =>
    clear HK0 HG0 HB0
    obtain ⟨k, hkg, rfl, hno, hgb, hB⟩ := hrel
    obtain ⟨p0, p1, -, -⟩ := hgb.two
    have HG := Lib.hid hgb
    have HB := Lib.hid hB
    cases gk with
    | zero =>
      obtain rfl : k = n := by omega
      have HV := Lib.hid (frt_end hno.out)
      by_cases hc0 : c = 0
      · have hl0 : Hid ((nw (bitB c) k).length = 0) := by
          show _ = _
          rw [HLO.out, hc0]; decide +kernel
        have hng : ¬ (0 : Int) < ((nw (bitB c) k).length : Int) := by rw [hl0.out]; omega
        have HV2 : Hid ((!(c == 0)) = false) := by show _ = _; rw [hc0]; rfl
        rw [HV2.out] at HV
        clear hgb hB hc0 HV2
        generalize (nw (bitB c) k).length = L at *
        go_wp2_with fail
        go_ret
        exact ⟨ret_bool (by rw [HV.out]; exact decide_eq_false (by omega)), HB.out⟩
      · have hng : (0 : Int) < ((nw (bitB c) k).length : Int) := by
          have h8 : c < 256 := Nat.lt_of_lt_of_le HC.out (pow_le hn)
          have h9 := ones_zero ⟨c, h8⟩
          simp only at h9
          have := HLO.out
          by_cases e : onesN c = 0
          · exact absurd (h9 e) hc0
          · omega
        have HV2 : Hid ((!(c == 0)) = true) := by show _ = _; rw [beq_eq_false_iff_ne.2 hc0]; rfl
        rw [HV2.out] at HV
        clear hgb hB hc0 HV2
        generalize (nw (bitB c) k).length = L at *
        go_wp2_with fail
        go_ret
        exact ⟨ret_bool (by rw [HV.out]; exact decide_eq_true (by omega)), HB.out⟩
    | succ g2 =>
      have hlt : k < n := by omega
      have hlt' : (k : Int) < (n : Int) := by omega
      have HH := Lib.hid (l1Has_any (.slice A2 (nw (bitB c) n).length c2) (nw (bitB c) n) (k : Int) wr.drew ((HU.out.below hB).below (Below.refl _ _).drew) (by omega))
      rw [mem_code hlt] at HH
      cases hb : c.testBit k with
      | true =>
        have HK : Hid (∀ j, j < k + 1 → ¬ (c.testBit j = false ∧ insN l c j = 1)) := fun j hj => by
          by_cases e : j = k
          · subst e; exact fun h_ => by rw [hb] at h_; cases h_.1
          · exact hno.out j (by omega)
        rw [hb] at HH
        clear hb hgb hB
        go_wp2_with fail
        refine wp_region_held_drew (S := (fun w' : World => w'.cell? ⟨w.heap.size, 0, none⟩ = some (.int .i64 (n : Int)) ∧ w'.cell? ⟨w.heap.size, 1, none⟩ = some (.slice A l.length cc))) (by kernel_rfl) (by (try dsimp only); simp [*]) (fun hHeld => ?_)
        change wpAnyH _ _ _ _ _ _ #[false, false, false, false, false, false, false, false, false, false, false, false, false, false, false, false, false] _ _
        refine wpAnyH_take (i := 0) (oi := ⟨some 12, _, _, _, _, _⟩) (v := ?_) rfl (by kernel_rfl) (by kernel_rfl) (by kernel_rfl) (fun _ _ _ h => h) (Or.inl ⟨by rfl, ?_⟩) (by assumption) ?_
        rotate_left
        · (intro w hSw; (try dsimp only at hSw); go_simp; (try (with_reducible rfl)))
        try simp only [Act.put, List.setIfInBounds_toArray, List.set_cons_zero, List.set_cons_succ]
        refine wpAnyH_take (i := 1) (oi := ⟨some 13, _, _, _, _, _⟩) (v := ?_) rfl (by kernel_rfl) (by kernel_rfl) (by kernel_rfl) (fun _ _ _ h => h) (Or.inl ⟨by rfl, ?_⟩) (by assumption) ?_
        rotate_left
        · (intro w hSw; (try dsimp only at hSw); go_simp; (try (with_reducible rfl)))
        try simp only [Act.put, List.setIfInBounds_toArray, List.set_cons_zero, List.set_cons_succ]
        refine wpAnyH_ready (rs := [2]) (by kernel_rfl) (by simp) ?_
        refine AllReadyH.cons (o := ⟨some 14, _, _, _, _, _⟩) rfl (fun K hK => ?_) AllReadyH.nil
        go_simp
        (with_reducible refine HH.out.mono ?_); rintro e w4 ⟨rfl, rfl⟩; obtain ⟨k0, k1, -, -⟩ := (HG.out.drewN 1).two
        go_wp2_with fail
        refine hK.out _ _ (by (try dsimp only); simp [*]) (fun hHeld => ?_)
        clear hK K
        try simp only [List.setIfInBounds_toArray, List.set_cons_zero, List.set_cons_succ]
        refine wpAnyH_take (i := 3) (oi := ⟨some 15, _, _, _, _, _⟩) (v := ?_) rfl (by kernel_rfl) (by kernel_rfl) (by kernel_rfl) (fun _ _ _ h => h) (Or.inl ⟨by rfl, ?_⟩) (by assumption) ?_
        rotate_left
        · (intro w hSw; (try dsimp only at hSw); go_simp; (try (with_reducible rfl)))
        try simp only [Act.put, List.setIfInBounds_toArray, List.set_cons_zero, List.set_cons_succ]
        refine wpAnyH_take (i := 4) (oi := ⟨some 16, _, _, _, _, _⟩) (v := ?_) rfl (by kernel_rfl) (by kernel_rfl) (by kernel_rfl) (fun _ _ _ h => h) (Or.inl ⟨by rfl, ?_⟩) (by assumption) ?_
        rotate_left
        · (intro w hSw; (try dsimp only at hSw); go_simp; (try (with_reducible rfl)))
        try simp only [Act.put, List.setIfInBounds_toArray, List.set_cons_zero, List.set_cons_succ]
        refine wpAnyH_take (i := 5) (oi := ⟨some 17, _, _, _, _, _⟩) (v := undef) rfl (by kernel_rfl) (by kernel_rfl) (by kernel_rfl) (fun _ _ _ h => h) (Or.inr ⟨by rfl, rfl⟩) (by assumption) ?_
        try simp only [Act.put, List.setIfInBounds_toArray, List.set_cons_zero, List.set_cons_succ]
        refine wpAnyH_take (i := 6) (oi := ⟨some 18, _, _, _, _, _⟩) (v := undef) rfl (by kernel_rfl) (by kernel_rfl) (by kernel_rfl) (fun _ _ _ h => h) (Or.inr ⟨by rfl, rfl⟩) (by assumption) ?_
        try simp only [Act.put, List.setIfInBounds_toArray, List.set_cons_zero, List.set_cons_succ]
        refine wpAnyH_take (i := 7) (oi := ⟨some 19, _, _, _, _, _⟩) (v := undef) rfl (by kernel_rfl) (by kernel_rfl) (by kernel_rfl) (fun _ _ _ h => h) (Or.inr ⟨by rfl, rfl⟩) (by assumption) ?_
        try simp only [Act.put, List.setIfInBounds_toArray, List.set_cons_zero, List.set_cons_succ]
        refine wpAnyH_take (i := 8) (oi := ⟨some 20, _, _, _, _, _⟩) (v := undef) rfl (by kernel_rfl) (by kernel_rfl) (by kernel_rfl) (fun _ _ _ h => h) (Or.inr ⟨by rfl, rfl⟩) (by assumption) ?_
        try simp only [Act.put, List.setIfInBounds_toArray, List.set_cons_zero, List.set_cons_succ]
        refine wpAnyH_take (i := 9) (oi := ⟨some 21, _, _, _, _, _⟩) (v := undef) rfl (by kernel_rfl) (by kernel_rfl) (by kernel_rfl) (fun _ _ _ h => h) (Or.inr ⟨by rfl, rfl⟩) (by assumption) ?_
        try simp only [Act.put, List.setIfInBounds_toArray, List.set_cons_zero, List.set_cons_succ]
        refine wpAnyH_take (i := 10) (oi := ⟨some 22, _, _, _, _, _⟩) (v := undef) rfl (by kernel_rfl) (by kernel_rfl) (by kernel_rfl) (fun _ _ _ h => h) (Or.inr ⟨by rfl, rfl⟩) (by assumption) ?_
        try simp only [Act.put, List.setIfInBounds_toArray, List.set_cons_zero, List.set_cons_succ]
        refine wpAnyH_take (i := 11) (oi := ⟨some 23, _, _, _, _, _⟩) (v := undef) rfl (by kernel_rfl) (by kernel_rfl) (by kernel_rfl) (fun _ _ _ h => h) (Or.inr ⟨by rfl, rfl⟩) (by assumption) ?_
        try simp only [Act.put, List.setIfInBounds_toArray, List.set_cons_zero, List.set_cons_succ]
        refine wpAnyH_take (i := 12) (oi := ⟨some 24, _, _, _, _, _⟩) (v := undef) rfl (by kernel_rfl) (by kernel_rfl) (by kernel_rfl) (fun _ _ _ h => h) (Or.inr ⟨by rfl, rfl⟩) (by assumption) ?_
        try simp only [Act.put, List.setIfInBounds_toArray, List.set_cons_zero, List.set_cons_succ]
        refine wpAnyH_take (i := 13) (oi := ⟨some 25, _, _, _, _, _⟩) (v := undef) rfl (by kernel_rfl) (by kernel_rfl) (by kernel_rfl) (fun _ _ _ h => h) (Or.inr ⟨by rfl, rfl⟩) (by assumption) ?_
        try simp only [Act.put, List.setIfInBounds_toArray, List.set_cons_zero, List.set_cons_succ]
        refine wpAnyH_take (i := 14) (oi := ⟨some 26, _, _, _, _, _⟩) (v := undef) rfl (by kernel_rfl) (by kernel_rfl) (by kernel_rfl) (fun _ _ _ h => h) (Or.inr ⟨by rfl, rfl⟩) (by assumption) ?_
        try simp only [Act.put, List.setIfInBounds_toArray, List.set_cons_zero, List.set_cons_succ]
        refine wpAnyH_take (i := 15) (oi := ⟨some 27, _, _, _, _, _⟩) (v := undef) rfl (by kernel_rfl) (by kernel_rfl) (by kernel_rfl) (fun _ _ _ h => h) (Or.inr ⟨by rfl, rfl⟩) (by assumption) ?_
        try simp only [Act.put, List.setIfInBounds_toArray, List.set_cons_zero, List.set_cons_succ]
        refine wpAnyH_take (i := 16) (oi := ⟨some 28, _, _, _, _, _⟩) (v := ?_) rfl (by kernel_rfl) (by kernel_rfl) (by kernel_rfl) (fun _ _ _ h => h) (Or.inl ⟨by rfl, ?_⟩) (by assumption) ?_
        rotate_left
        · (intro w hSw; (try dsimp only at hSw); go_simp; (try (with_reducible rfl)))
        try simp only [Act.put, List.setIfInBounds_toArray, List.set_cons_zero, List.set_cons_succ]
        refine wpAnyH_done (by kernel_rfl) ?_ _
        have HG4 := Lib.hid (HG.out.drewN 1)
        have HB4 := Lib.hid HB.out.drew
        clear p0 p1 hHeld
        go_wp2_with fail
        go_roundg g2
        case measure => omega
        case rel => exact ⟨k + 1, by omega, by go_num, HK, HG4.out, HB4.out⟩
      | false =>
        rw [hb] at HH
        have hspl := nei_split HGD.out hn HC.out hb
        have hn1 := nw_len (fun y => adj l (k : Int) (y : Int)) n
        have HNB := Lib.hid (fun (W : World) (hW : Below w.heap.size w W) => neigh.l2Neighbors_any n (k : Int) (.slice A l.length cc) l W (H.out.below hW) hl hn)
        have HOP := Lib.hid (fun (W : World) (hW : Below w.heap.size w W) => l9Open_any n c k (.slice A l.length cc) (.slice A2 (nw (bitB c) n).length c2) l W (H.out.below hW) hl (HU.out.below hW) hn)
        by_cases hr : insN l c k = 1
        · have HV := Lib.hid (frt_stop (n := n) hlt hb hr)
          have hwr : IntKind.i64.wrap (((nw (fun y => adj l (k : Int) (y : Int)) n).length : Int) - ((nw (lefB l c k) n).length : Int)) = 1 := by
            rw [show ((nw (fun y => adj l (k : Int) (y : Int)) n).length : Int) - ((nw (lefB l c k) n).length : Int) = 1 from by omega]; rfl
          have hw1 : IntKind.i64.wrap 1 = 1 := rfl
          clear hb hgb hB hspl hr
          generalize nw (lefB l c k) n = M1 at *
          generalize nw (fun y => adj l (k : Int) (y : Int)) n = M2 at *
          go_wp2_with fail
          refine wp_region_held_drew (S := (fun w' : World => w'.cell? ⟨w.heap.size, 0, none⟩ = some (.int .i64 (n : Int)) ∧ w'.cell? ⟨w.heap.size, 1, none⟩ = some (.slice A l.length cc))) (by kernel_rfl) (by (try dsimp only); simp [*]) (fun hHeld => ?_)
          change wpAnyH _ _ _ _ _ _ #[false, false, false, false, false, false, false, false, false, false, false, false, false, false, false, false, false] _ _
          refine wpAnyH_take (i := 0) (oi := ⟨some 12, _, _, _, _, _⟩) (v := ?_) rfl (by kernel_rfl) (by kernel_rfl) (by kernel_rfl) (fun _ _ _ h => h) (Or.inl ⟨by rfl, ?_⟩) (by assumption) ?_
          rotate_left
          · (intro w hSw; (try dsimp only at hSw); go_simp; (try (with_reducible rfl)))
          try simp only [Act.put, List.setIfInBounds_toArray, List.set_cons_zero, List.set_cons_succ]
          refine wpAnyH_take (i := 1) (oi := ⟨some 13, _, _, _, _, _⟩) (v := ?_) rfl (by kernel_rfl) (by kernel_rfl) (by kernel_rfl) (fun _ _ _ h => h) (Or.inl ⟨by rfl, ?_⟩) (by assumption) ?_
          rotate_left
          · (intro w hSw; (try dsimp only at hSw); go_simp; (try (with_reducible rfl)))
          try simp only [Act.put, List.setIfInBounds_toArray, List.set_cons_zero, List.set_cons_succ]
          refine wpAnyH_ready (rs := [2]) (by kernel_rfl) (by simp) ?_
          refine AllReadyH.cons (o := ⟨some 14, _, _, _, _, _⟩) rfl (fun K hK => ?_) AllReadyH.nil
          go_simp
          (with_reducible refine HH.out.mono ?_); rintro e w4 ⟨rfl, rfl⟩; obtain ⟨k0, k1, -, -⟩ := (HG.out.drewN 1).two
          go_wp2_with fail
          refine hK.out _ _ (by (try dsimp only); simp [*]) (fun hHeld => ?_)
          clear hK K
          try simp only [List.setIfInBounds_toArray, List.set_cons_zero, List.set_cons_succ]
          refine wpAnyH_take (i := 3) (oi := ⟨some 15, _, _, _, _, _⟩) (v := ?_) rfl (by kernel_rfl) (by kernel_rfl) (by kernel_rfl) (fun _ _ _ h => h) (Or.inl ⟨by rfl, ?_⟩) (by assumption) ?_
          rotate_left
          · (intro w hSw; (try dsimp only at hSw); go_simp; (try (with_reducible rfl)))
          try simp only [Act.put, List.setIfInBounds_toArray, List.set_cons_zero, List.set_cons_succ]
          refine wpAnyH_take (i := 4) (oi := ⟨some 16, _, _, _, _, _⟩) (v := ?_) rfl (by kernel_rfl) (by kernel_rfl) (by kernel_rfl) (fun _ _ _ h => h) (Or.inl ⟨by rfl, ?_⟩) (by assumption) ?_
          rotate_left
          · (intro w hSw; (try dsimp only at hSw); go_simp; (try (with_reducible rfl)))
          try simp only [Act.put, List.setIfInBounds_toArray, List.set_cons_zero, List.set_cons_succ]
          refine wpAnyH_take (i := 5) (oi := ⟨some 17, _, _, _, _, _⟩) (v := ?_) rfl (by kernel_rfl) (by kernel_rfl) (by kernel_rfl) (fun _ _ _ h => h) (Or.inl ⟨by rfl, ?_⟩) (by assumption) ?_
          rotate_left
          · (intro w hSw; (try dsimp only at hSw); go_simp; (try (with_reducible rfl)))
          try simp only [Act.put, List.setIfInBounds_toArray, List.set_cons_zero, List.set_cons_succ]
          refine wpAnyH_take (i := 6) (oi := ⟨some 18, _, _, _, _, _⟩) (v := ?_) rfl (by kernel_rfl) (by kernel_rfl) (by kernel_rfl) (fun _ _ _ h => h) (Or.inl ⟨by rfl, ?_⟩) (by assumption) ?_
          rotate_left
          · (intro w hSw; (try dsimp only at hSw); go_simp; (try (with_reducible rfl)))
          try simp only [Act.put, List.setIfInBounds_toArray, List.set_cons_zero, List.set_cons_succ]
          refine wpAnyH_take (i := 9) (oi := ⟨some 21, _, _, _, _, _⟩) (v := ?_) rfl (by kernel_rfl) (by kernel_rfl) (by kernel_rfl) (fun _ _ _ h => h) (Or.inl ⟨by rfl, ?_⟩) (by assumption) ?_
          rotate_left
          · (intro w hSw; (try dsimp only at hSw); go_simp; (try (with_reducible rfl)))
          try simp only [Act.put, List.setIfInBounds_toArray, List.set_cons_zero, List.set_cons_succ]
          refine wpAnyH_take (i := 10) (oi := ⟨some 22, _, _, _, _, _⟩) (v := ?_) rfl (by kernel_rfl) (by kernel_rfl) (by kernel_rfl) (fun _ _ _ h => h) (Or.inl ⟨by rfl, ?_⟩) (by assumption) ?_
          rotate_left
          · (intro w hSw; (try dsimp only at hSw); go_simp; (try (with_reducible rfl)))
          try simp only [Act.put, List.setIfInBounds_toArray, List.set_cons_zero, List.set_cons_succ]
          refine wpAnyH_take (i := 11) (oi := ⟨some 23, _, _, _, _, _⟩) (v := ?_) rfl (by kernel_rfl) (by kernel_rfl) (by kernel_rfl) (fun _ _ _ h => h) (Or.inl ⟨by rfl, ?_⟩) (by assumption) ?_
          rotate_left
          · (intro w hSw; (try dsimp only at hSw); go_simp; (try (with_reducible rfl)))
          try simp only [Act.put, List.setIfInBounds_toArray, List.set_cons_zero, List.set_cons_succ]
          refine wpAnyH_ready (rs := [7]) (by kernel_rfl) (by simp) ?_
          refine AllReadyH.cons (o := ⟨some 19, _, _, _, _, _⟩) rfl (fun K hK => ?_) AllReadyH.nil
          go_simp
          (with_reducible refine (HNB.out wr.drew HB.out.drew).mono ?_); rintro e w4 ⟨A5, c5, rfl, o5, b5⟩; have d4 : Below wr.heap.size wr w4 := btrans (Below.refl _ _).drew b5; obtain ⟨i0, i1, -, -⟩ := (HG.out.below d4 HG.out.lt).two
          go_wp2_with fail
          refine hK.out _ _ (by (try dsimp only); simp [*]) (fun hHeld => ?_)
          clear hK K
          try simp only [List.setIfInBounds_toArray, List.set_cons_zero, List.set_cons_succ]
          refine wpAnyH_take (i := 8) (oi := ⟨some 20, _, _, _, _, _⟩) (v := ?_) rfl (by kernel_rfl) (by kernel_rfl) (by kernel_rfl) (fun _ _ _ h => h) (Or.inl ⟨by rfl, ?_⟩) (by assumption) ?_
          rotate_left
          · (intro w hSw; (try dsimp only at hSw); go_simp; (try (with_reducible rfl)))
          try simp only [Act.put, List.setIfInBounds_toArray, List.set_cons_zero, List.set_cons_succ]
          refine wpAnyH_ready (rs := [12]) (by kernel_rfl) (by simp) ?_
          refine AllReadyH.cons (o := ⟨some 24, _, _, _, _, _⟩) rfl (fun K hK => ?_) AllReadyH.nil
          go_simp
          (with_reducible refine (HOP.out w4 (btrans HB.out d4)).mono ?_); rintro e w5 ⟨A6, c6, rfl, o6, b6⟩; have d5 : Below wr.heap.size wr w5 := btrans d4 b6; obtain ⟨j0, j1, -, -⟩ := (HG.out.below d5 HG.out.lt).two
          go_wp2_with fail
          refine hK.out _ _ (by (try dsimp only); simp [*]) (fun hHeld => ?_)
          clear hK K
          try simp only [List.setIfInBounds_toArray, List.set_cons_zero, List.set_cons_succ]
          refine wpAnyH_take (i := 13) (oi := ⟨some 25, _, _, _, _, _⟩) (v := ?_) rfl (by kernel_rfl) (by kernel_rfl) (by kernel_rfl) (fun _ _ _ h => h) (Or.inl ⟨by rfl, ?_⟩) (by assumption) ?_
          rotate_left
          · (intro w hSw; (try dsimp only at hSw); go_simp; (try (with_reducible rfl)))
          try simp only [Act.put, List.setIfInBounds_toArray, List.set_cons_zero, List.set_cons_succ]
          refine wpAnyH_take (i := 14) (oi := ⟨some 26, _, _, _, _, _⟩) (v := ?_) rfl (by kernel_rfl) (by kernel_rfl) (by kernel_rfl) (fun _ _ _ h => h) (Or.inl ⟨by rfl, ?_⟩) (by assumption) ?_
          rotate_left
          · (intro w hSw; (try dsimp only at hSw); go_simp; (try (with_reducible rfl)))
          try simp only [Act.put, List.setIfInBounds_toArray, List.set_cons_zero, List.set_cons_succ]
          refine wpAnyH_take (i := 15) (oi := ⟨some 27, _, _, _, _, _⟩) (v := ?_) rfl (by kernel_rfl) (by kernel_rfl) (by kernel_rfl) (fun _ _ _ h => h) (Or.inl ⟨by rfl, ?_⟩) (by assumption) ?_
          rotate_left
          · (intro w hSw; (try dsimp only at hSw); go_simp; (try (with_reducible rfl)))
          try simp only [Act.put, List.setIfInBounds_toArray, List.set_cons_zero, List.set_cons_succ]
          refine wpAnyH_take (i := 16) (oi := ⟨some 28, _, _, _, _, _⟩) (v := ?_) rfl (by kernel_rfl) (by kernel_rfl) (by kernel_rfl) (fun _ _ _ h => h) (Or.inl ⟨by rfl, ?_⟩) (by assumption) ?_
          rotate_left
          · (intro w hSw; (try dsimp only at hSw); go_simp; (try (with_reducible rfl)))
          try simp only [Act.put, List.setIfInBounds_toArray, List.set_cons_zero, List.set_cons_succ]
          refine wpAnyH_done (by kernel_rfl) ?_ _
          go_wp2_with fail
          first | go_ret | (rw [Exit.noGoto_ret]; go_ret)
          rw [HV.out]
          exact ⟨rfl, btrans HB.out d5⟩
        · have HK : Hid (∀ j, j < k + 1 → ¬ (c.testBit j = false ∧ insN l c j = 1)) := fun j hj => by
            by_cases e : j = k
            · subst e; exact fun h_ => hr h_.2
            · exact hno.out j (by omega)
          have hil : insN l c k ≤ 8 := ones_le _
          have hwr : IntKind.i64.wrap (((nw (fun y => adj l (k : Int) (y : Int)) n).length : Int) - ((nw (lefB l c k) n).length : Int)) = (insN l c k : Int) := by
            rw [show ((nw (fun y => adj l (k : Int) (y : Int)) n).length : Int) - ((nw (lefB l c k) n).length : Int) = (insN l c k : Int) from by omega]; exact IntWalk.i64_in _ (by omega)
          have hw1 : IntKind.i64.wrap (insN l c k : Int) = (insN l c k : Int) := IntWalk.i64_in _ (by omega)
          have hr' : ((insN l c k : Int) == 1) = false := by rw [beq_eq_false_iff_ne]; omega
          clear hb hgb hB hspl hr
          generalize insN l c k = q at *
          generalize nw (lefB l c k) n = M1 at *
          generalize nw (fun y => adj l (k : Int) (y : Int)) n = M2 at *
          go_wp2_with fail
          refine wp_region_held_drew (S := (fun w' : World => w'.cell? ⟨w.heap.size, 0, none⟩ = some (.int .i64 (n : Int)) ∧ w'.cell? ⟨w.heap.size, 1, none⟩ = some (.slice A l.length cc))) (by kernel_rfl) (by (try dsimp only); simp [*]) (fun hHeld => ?_)
          change wpAnyH _ _ _ _ _ _ #[false, false, false, false, false, false, false, false, false, false, false, false, false, false, false, false, false] _ _
          refine wpAnyH_take (i := 0) (oi := ⟨some 12, _, _, _, _, _⟩) (v := ?_) rfl (by kernel_rfl) (by kernel_rfl) (by kernel_rfl) (fun _ _ _ h => h) (Or.inl ⟨by rfl, ?_⟩) (by assumption) ?_
          rotate_left
          · (intro w hSw; (try dsimp only at hSw); go_simp; (try (with_reducible rfl)))
          try simp only [Act.put, List.setIfInBounds_toArray, List.set_cons_zero, List.set_cons_succ]
          refine wpAnyH_take (i := 1) (oi := ⟨some 13, _, _, _, _, _⟩) (v := ?_) rfl (by kernel_rfl) (by kernel_rfl) (by kernel_rfl) (fun _ _ _ h => h) (Or.inl ⟨by rfl, ?_⟩) (by assumption) ?_
          rotate_left
          · (intro w hSw; (try dsimp only at hSw); go_simp; (try (with_reducible rfl)))
          try simp only [Act.put, List.setIfInBounds_toArray, List.set_cons_zero, List.set_cons_succ]
          refine wpAnyH_ready (rs := [2]) (by kernel_rfl) (by simp) ?_
          refine AllReadyH.cons (o := ⟨some 14, _, _, _, _, _⟩) rfl (fun K hK => ?_) AllReadyH.nil
          go_simp
          (with_reducible refine HH.out.mono ?_); rintro e w4 ⟨rfl, rfl⟩; obtain ⟨k0, k1, -, -⟩ := (HG.out.drewN 1).two
          go_wp2_with fail
          refine hK.out _ _ (by (try dsimp only); simp [*]) (fun hHeld => ?_)
          clear hK K
          try simp only [List.setIfInBounds_toArray, List.set_cons_zero, List.set_cons_succ]
          refine wpAnyH_take (i := 3) (oi := ⟨some 15, _, _, _, _, _⟩) (v := ?_) rfl (by kernel_rfl) (by kernel_rfl) (by kernel_rfl) (fun _ _ _ h => h) (Or.inl ⟨by rfl, ?_⟩) (by assumption) ?_
          rotate_left
          · (intro w hSw; (try dsimp only at hSw); go_simp; (try (with_reducible rfl)))
          try simp only [Act.put, List.setIfInBounds_toArray, List.set_cons_zero, List.set_cons_succ]
          refine wpAnyH_take (i := 4) (oi := ⟨some 16, _, _, _, _, _⟩) (v := ?_) rfl (by kernel_rfl) (by kernel_rfl) (by kernel_rfl) (fun _ _ _ h => h) (Or.inl ⟨by rfl, ?_⟩) (by assumption) ?_
          rotate_left
          · (intro w hSw; (try dsimp only at hSw); go_simp; (try (with_reducible rfl)))
          try simp only [Act.put, List.setIfInBounds_toArray, List.set_cons_zero, List.set_cons_succ]
          refine wpAnyH_take (i := 5) (oi := ⟨some 17, _, _, _, _, _⟩) (v := ?_) rfl (by kernel_rfl) (by kernel_rfl) (by kernel_rfl) (fun _ _ _ h => h) (Or.inl ⟨by rfl, ?_⟩) (by assumption) ?_
          rotate_left
          · (intro w hSw; (try dsimp only at hSw); go_simp; (try (with_reducible rfl)))
          try simp only [Act.put, List.setIfInBounds_toArray, List.set_cons_zero, List.set_cons_succ]
          refine wpAnyH_take (i := 6) (oi := ⟨some 18, _, _, _, _, _⟩) (v := ?_) rfl (by kernel_rfl) (by kernel_rfl) (by kernel_rfl) (fun _ _ _ h => h) (Or.inl ⟨by rfl, ?_⟩) (by assumption) ?_
          rotate_left
          · (intro w hSw; (try dsimp only at hSw); go_simp; (try (with_reducible rfl)))
          try simp only [Act.put, List.setIfInBounds_toArray, List.set_cons_zero, List.set_cons_succ]
          refine wpAnyH_take (i := 9) (oi := ⟨some 21, _, _, _, _, _⟩) (v := ?_) rfl (by kernel_rfl) (by kernel_rfl) (by kernel_rfl) (fun _ _ _ h => h) (Or.inl ⟨by rfl, ?_⟩) (by assumption) ?_
          rotate_left
          · (intro w hSw; (try dsimp only at hSw); go_simp; (try (with_reducible rfl)))
          try simp only [Act.put, List.setIfInBounds_toArray, List.set_cons_zero, List.set_cons_succ]
          refine wpAnyH_take (i := 10) (oi := ⟨some 22, _, _, _, _, _⟩) (v := ?_) rfl (by kernel_rfl) (by kernel_rfl) (by kernel_rfl) (fun _ _ _ h => h) (Or.inl ⟨by rfl, ?_⟩) (by assumption) ?_
          rotate_left
          · (intro w hSw; (try dsimp only at hSw); go_simp; (try (with_reducible rfl)))
          try simp only [Act.put, List.setIfInBounds_toArray, List.set_cons_zero, List.set_cons_succ]
          refine wpAnyH_take (i := 11) (oi := ⟨some 23, _, _, _, _, _⟩) (v := ?_) rfl (by kernel_rfl) (by kernel_rfl) (by kernel_rfl) (fun _ _ _ h => h) (Or.inl ⟨by rfl, ?_⟩) (by assumption) ?_
          rotate_left
          · (intro w hSw; (try dsimp only at hSw); go_simp; (try (with_reducible rfl)))
          try simp only [Act.put, List.setIfInBounds_toArray, List.set_cons_zero, List.set_cons_succ]
          refine wpAnyH_ready (rs := [7]) (by kernel_rfl) (by simp) ?_
          refine AllReadyH.cons (o := ⟨some 19, _, _, _, _, _⟩) rfl (fun K hK => ?_) AllReadyH.nil
          go_simp
          (with_reducible refine (HNB.out wr.drew HB.out.drew).mono ?_); rintro e w4 ⟨A5, c5, rfl, o5, b5⟩; have d4 : Below wr.heap.size wr w4 := btrans (Below.refl _ _).drew b5; obtain ⟨i0, i1, -, -⟩ := (HG.out.below d4 HG.out.lt).two
          go_wp2_with fail
          refine hK.out _ _ (by (try dsimp only); simp [*]) (fun hHeld => ?_)
          clear hK K
          try simp only [List.setIfInBounds_toArray, List.set_cons_zero, List.set_cons_succ]
          refine wpAnyH_take (i := 8) (oi := ⟨some 20, _, _, _, _, _⟩) (v := ?_) rfl (by kernel_rfl) (by kernel_rfl) (by kernel_rfl) (fun _ _ _ h => h) (Or.inl ⟨by rfl, ?_⟩) (by assumption) ?_
          rotate_left
          · (intro w hSw; (try dsimp only at hSw); go_simp; (try (with_reducible rfl)))
          try simp only [Act.put, List.setIfInBounds_toArray, List.set_cons_zero, List.set_cons_succ]
          refine wpAnyH_ready (rs := [12]) (by kernel_rfl) (by simp) ?_
          refine AllReadyH.cons (o := ⟨some 24, _, _, _, _, _⟩) rfl (fun K hK => ?_) AllReadyH.nil
          go_simp
          (with_reducible refine (HOP.out w4 (btrans HB.out d4)).mono ?_); rintro e w5 ⟨A6, c6, rfl, o6, b6⟩; have d5 : Below wr.heap.size wr w5 := btrans d4 b6; obtain ⟨j0, j1, -, -⟩ := (HG.out.below d5 HG.out.lt).two
          go_wp2_with fail
          refine hK.out _ _ (by (try dsimp only); simp [*]) (fun hHeld => ?_)
          clear hK K
          try simp only [List.setIfInBounds_toArray, List.set_cons_zero, List.set_cons_succ]
          refine wpAnyH_take (i := 13) (oi := ⟨some 25, _, _, _, _, _⟩) (v := ?_) rfl (by kernel_rfl) (by kernel_rfl) (by kernel_rfl) (fun _ _ _ h => h) (Or.inl ⟨by rfl, ?_⟩) (by assumption) ?_
          rotate_left
          · (intro w hSw; (try dsimp only at hSw); go_simp; (try (with_reducible rfl)))
          try simp only [Act.put, List.setIfInBounds_toArray, List.set_cons_zero, List.set_cons_succ]
          refine wpAnyH_take (i := 14) (oi := ⟨some 26, _, _, _, _, _⟩) (v := ?_) rfl (by kernel_rfl) (by kernel_rfl) (by kernel_rfl) (fun _ _ _ h => h) (Or.inl ⟨by rfl, ?_⟩) (by assumption) ?_
          rotate_left
          · (intro w hSw; (try dsimp only at hSw); go_simp; (try (with_reducible rfl)))
          try simp only [Act.put, List.setIfInBounds_toArray, List.set_cons_zero, List.set_cons_succ]
          refine wpAnyH_take (i := 15) (oi := ⟨some 27, _, _, _, _, _⟩) (v := ?_) rfl (by kernel_rfl) (by kernel_rfl) (by kernel_rfl) (fun _ _ _ h => h) (Or.inl ⟨by rfl, ?_⟩) (by assumption) ?_
          rotate_left
          · (intro w hSw; (try dsimp only at hSw); go_simp; (try (with_reducible rfl)))
          try simp only [Act.put, List.setIfInBounds_toArray, List.set_cons_zero, List.set_cons_succ]
          refine wpAnyH_take (i := 16) (oi := ⟨some 28, _, _, _, _, _⟩) (v := ?_) rfl (by kernel_rfl) (by kernel_rfl) (by kernel_rfl) (fun _ _ _ h => h) (Or.inl ⟨by rfl, ?_⟩) (by assumption) ?_
          rotate_left
          · (intro w hSw; (try dsimp only at hSw); go_simp; (try (with_reducible rfl)))
          try simp only [Act.put, List.setIfInBounds_toArray, List.set_cons_zero, List.set_cons_succ]
          refine wpAnyH_done (by kernel_rfl) ?_ _
          have HG5 := Lib.hid (HG.out.below d5 HG.out.lt)
          have HB5 := Lib.hid (btrans HB.out d5)
          clear p0 p1 d4 d5 i0 i1 j0 j1 k0 k1 o5 o6 b5 b6 hHeld
          go_wp2_with fail
          go_roundg g2
          case measure => omega
          case rel => exact ⟨k + 1, by omega, by go_num, HK, HG5.out, HB5.out⟩
set_option maxHeartbeats 2000000 in
set_option maxRecDepth 100000 in
theorem specIsFort_any (s : Int) (v u : Value) (l : List Ed) (xs : List Int) (w : World) (h : Edges w v l) (hl : l.length ≤ 1048576) (hu : Ints w u xs) (hxl : xs.length ≤ 1048576) (hs1 : -9223372036854775808 ≤ s) (hs2 : s ≤ 9223372036854775807) :
    Calls Try.prog 33 #[.agg #[.int .i64 s, v], u] w fun e w' => e = .returned (.tuple #[.bool (okG (FrtP s l xs)), .bool (okG (SetOk s l xs))]) ∧ Below w.heap.size w w' := by
  obtain ⟨A, c, rfl, -⟩ := h.form
  have H := Lib.hid h
  have HU := Lib.hid hu
  have b0 : Below w.heap.size w (w.alloc (.cells #[.int .i64 s, .slice A l.length c] 29)) := (Below.refl _ _).alloc (Nat.le_refl _) _
  have HG0 := Lib.hid (Blk.new w 29 #[.int .i64 s, .slice A l.length c])
  obtain ⟨p0, p1, -, -⟩ := HG0.out.two
  have HBT := Lib.hid (l9Both_any s (.slice A l.length c) u l xs _ (h.below b0) hl (hu.below b0) hxl hs1 hs2)
  have HB0 := Lib.hid b0
  clear h hu b0
  by_cases hso : SetOk s l xs
  · rw [okG_yes hso] at HBT ⊢
    have h0 := hso.1.1
    have h8 := hso.1.2.1
    obtain ⟨n, rfl⟩ : ∃ n : Nat, s = (n : Int) := ⟨s.toNat, by omega⟩
    have hn : n ≤ 8 := by omega
    have HXS := Lib.hid (setOk_code hso)
    have HF := Lib.hid (fun (W : World) (hW : Below w.heap.size w W) => l9Fort_any n (codeL xs) (.slice A l.length c) u l W (H.out.below hW) hl (by have h_ := HU.out.below hW; rw [HXS.out] at h_; exact h_) hso.1 hn (code_set hso))
    rw [frtP_is hso]
    clear hso
    generalize frtB n l (codeL xs) = bb at *
    go_enter Try.func33, Try.ntmps33
    go_wp2_with fail
    refine HBT.out.mono ?_
    rintro e w1 ⟨rfl, b1⟩
    have HE1 := Lib.hid (btrans HB0.out b1)
    have HG1 := Lib.hid (HG0.out.below b1 HG0.out.lt)
    have HF1 := Lib.hid (HF.out w1 HE1.out)
    clear p0 p1 b1 HBT HB0 HG0 HF
    obtain ⟨p0, p1, -, -⟩ := HG1.out.two
    go_wp2_with fail
    refine HF1.out.mono ?_
    rintro e w2 ⟨rfl, b2⟩
    go_wp2_with fail
    go_ret2
    exact ⟨rfl, btrans HE1.out b2⟩
  · have HV2 : Hid (okG (FrtP s l xs) = false) := okG_no fun h => hso h.1
    rw [okG_no hso] at HBT ⊢
    rw [HV2.out]
    clear hso
    go_enter Try.func33, Try.ntmps33
    go_wp2_with fail
    refine HBT.out.mono ?_
    rintro e w1 ⟨rfl, b1⟩
    have HE1 := Lib.hid (btrans HB0.out b1)
    clear p0 p1 b1
    go_wp2_with fail
    go_ret2
    exact ⟨rfl, HE1.out⟩
end Go.Proofs.Ytfphpilabfpmjaa.forc

/- The least forts, in order: the contract of the model's FortsOf. -/
namespace Go.Proofs.Ytfphpilabfpmjaa.forc
open Go.RowKit P2 words edges ints good adjs fns sets rets covs bags balls bitsI ups func apps grid gridr gridl trip lists
set_option linter.unusedVariables false

/-- a row that lies elsewhere is named in a table -/
theorem ftsPush {w w6 : World} {B : Nat} {v u v6 : Value} {us : List Value} {rows : List (List Int)} {r : List Int} {o : Obj} (h : OwnG w B v us rows) (hu : w.ownsRow B 3 1 u r.length (cellsI r)) (hf : ∀ x ∈ us, ∀ k, x.ownBlock = some k → u.ownBlock ≠ some k)
    (hown : w6.ownsRow B 25 1 v6 (rows.length + 1) (us ++ [u])) (hg : (w.alloc o).grownBy w6 v.ownBlock) : OwnG w6 B v6 (us ++ [u]) (rows ++ [r]) := by
  have hlen := h.len
  have apart : ∀ {x : Value} {q : List Int}, w.ownsRow B 3 1 x q.length (cellsI q) → x.ownBlock = none ∨ x.ownBlock ≠ v.ownBlock := fun {x q} ho => by
    cases hh : x.ownBlock with
    | none => exact .inl rfl
    | some k => exact .inr (fun e => own_apart ho h.1 tneI k hh e.symm)
  refine ⟨by rw [List.length_append]; exact hown, ?_, ?_⟩
  · intro i x q hx hq
    by_cases hi : i < rows.length
    · rw [List.getElem?_append_left (by omega)] at hx
      rw [List.getElem?_append_left hi] at hq
      have ho := h.2.1 i x q hx hq
      exact (ho.alloc o).kept hg (apart ho)
    · have hi' : i = rows.length := by
        have := (List.getElem?_eq_some_iff.1 hq).1
        simp at this; omega
      subst hi'
      rw [List.getElem?_append_right (by omega), hlen, Nat.sub_self] at hx
      rw [List.getElem?_append_right (by omega), Nat.sub_self] at hq
      cases hx; cases hq
      exact (hu.alloc o).kept hg (apart hu)
  · intro i j x y k hij hx hy hxk
    by_cases hj : j < us.length
    · rw [List.getElem?_append_left hj] at hy
      rw [List.getElem?_append_left (by omega)] at hx
      exact h.2.2 i j x y k hij hx hy hxk
    · have hj' : j = us.length := by
        have := (List.getElem?_eq_some_iff.1 hy).1
        simp at this; omega
      subst hj'
      rw [List.getElem?_append_right (by omega), Nat.sub_self] at hy
      rw [List.getElem?_append_left hij] at hx
      cases hy
      exact hf x (List.mem_of_getElem? hx) k hxk
theorem setsKept {w w6 : World} {C D : Nat} {sv ov : Value} {us : List Value} {rows : List (List Int)} {o : Obj} (h : OwnGR C D w sv us rows) (hne : ∀ k, ov.ownBlock = some k → k < C ∨ D ≤ k) (hg : (w.alloc o).grownBy w6 ov.ownBlock) : OwnGR C D w6 sv us rows := by
  have key : ∀ {x : Value} {t : TypeId} {m : Nat} {q : List Value}, w.ownsRow C t 1 x m q → (∀ k, x.ownBlock = some k → k < D) → x.ownBlock = none ∨ x.ownBlock ≠ ov.ownBlock := fun {x t m q} hx hb => by
    cases hh : x.ownBlock with
    | none => exact .inl rfl
    | some k => exact .inr (fun e => by
        have h1 := (hx.lt k hh).1
        have h2 := hb k hh
        rcases hne k e.symm with h3 | h3 <;> omega)
  exact ⟨⟨(h.1.1.alloc o).kept hg (key h.1.1 h.2.1), fun i x q hx hq => ((h.1.2.1 i x q hx hq).alloc o).kept hg (key (h.1.2.1 i x q hx hq) (fun k hk => h.2.2 i x k hx hk)), h.1.2.2⟩, h.2⟩
set_option maxHeartbeats 8000000 in
set_option maxRecDepth 100000 in
theorem specForts_any (s : Int) (v : Value) (l : List Ed) (w : World) (h : Edges w v l) (hl : l.length ≤ 1048576) (hs1 : -9223372036854775808 ≤ s) (hs2 : s ≤ 9223372036854775807) :
    Calls Try.prog 37 #[.agg #[.int .i64 s, v]] w (RetGr w (P2.Good s l) (ftsL s l)) := by
  obtain ⟨i1, hi1, hy0, hy1, hy2⟩ := info_parts infoRow
  obtain ⟨A, c, rfl, -⟩ := h.form
  have H := Lib.hid h
  have b0 : Below w.heap.size w ((w.alloc (.cells #[.int .i64 s, .slice A l.length c] 29)).alloc (.cells #[] 25)) := ((Below.refl _ _).alloc (Nat.le_refl _) _).alloc (by simp) _
  have HG0 := Lib.hid ((Blk.new w 29 #[.int .i64 s, .slice A l.length c]).alloc (.cells #[] 25))
  obtain ⟨p0, p1, -, -⟩ := HG0.out.two
  have HO0 : Hid (OwnG ((w.alloc (.cells #[.int .i64 s, .slice A l.length c] 29)).alloc (.cells #[] 25)) w.heap.size (.slice (some ⟨w.heap.size + 1, 0, none⟩) 0 0) [] []) := by
    refine ⟨?_, fun i u r hu => by simp at hu, fun i j u u' k _ hu => by simp at hu⟩
    have := own_new0 (w.alloc (.cells #[.int .i64 s, .slice A l.length c] 29)) 25 1
    rw [World.size_alloc] at this
    exact own_base this (by omega)
  have HSZ0 : Hid (w.heap.size + 2 = ((w.alloc (.cells #[.int .i64 s, .slice A l.length c] 29)).alloc (.cells #[] 25)).heap.size) := by show _ = _; rw [World.size_alloc, World.size_alloc]
  have HGD := Lib.hid (l2Good_any s _ l _ (h.below b0) hl hs1 hs2)
  have HB0 := Lib.hid b0
  clear h b0
  by_cases hgd : P2.Good s l
  · rw [goodB_yes hgd] at HGD
    have HOK := Lib.hid hgd
    have h0 := hgd.1
    have h8 := hgd.2.1
    obtain ⟨n, rfl⟩ : ∃ n : Nat, s = (n : Int) := ⟨s.toNat, by omega⟩
    have hn : n ≤ 8 := by omega
    have HV : Hid (ftsL (n : Int) l = rowS (ftsT n l (setsN n n))) := by show _ = _; unfold ftsL rowS; rw [Int.toNat_natCast]
    rw [HV.out]
    have hwn : IntKind.i64.wrap ((n : Int) + 1) = ((n + 1 : Nat) : Int) := by rw [show (n : Int) + 1 = ((n + 1 : Nat) : Int) from by omega]; exact IntWalk.i64_in _ (by omega)
    clear hgd HV
    go_enter Try.func37, Try.ntmps37
    go_wp2_with fail
    refine HGD.out.mono ?_
    rintro e w1 ⟨rfl, b1⟩
    have HE1 := Lib.hid (btrans HB0.out b1)
    have HG1 := Lib.hid (HG0.out.below b1 HG0.out.lt)
    have HO1 := Lib.hid (HO0.out.below b1)
    have hsz1 : w.heap.size + 2 ≤ w1.heap.size := by have := b1.size; rw [HSZ0.out]; exact this
    clear p0 p1 b1 HGD HB0 HG0 HO0 HSZ0
    obtain ⟨p0, p1, -, -⟩ := HG1.out.two
    have HLS := Lib.hid (l5Sets_any n (n + 1) (.slice A l.length c) l w1 (H.out.below HE1.out) hn (Nat.le_refl _))
    rw [setT_end hn] at HLS
    have hsl : (rowS (setsN n n)).length ≤ 256 := by rw [rowS_len]; exact sets_len hn hn
    have HSM := Lib.hid (fun c => mem_all (n := n) (c := c) hn)
    go_wp2_with fail
    refine HLS.out.mono ?_
    rintro e w4 ⟨A5, c5, us, rfl, o5, b5⟩
    have HE4 := Lib.hid (btrans HE1.out b5)
    have HG4 := Lib.hid (HG1.out.below b5 HG1.out.lt)
    have HS4 : Hid (OwnGR w1.heap.size w4.heap.size w4 (.slice A5 (rowS (setsN n n)).length c5) us (rowS (setsN n n))) := OwnGR.new o5
    have HO4 : Hid (OwnG w4 w.heap.size (.slice (some ⟨w.heap.size + 1, 0, none⟩) 0 0) [] (rowS (ftsT n l ((setsN n n).take 0)))) := HO1.out.below b5
    have HM4 : Hid (∀ u ∈ ([] : List Value), ∃ j, j < 0 ∧ us[j]? = some u) := fun u hu => by simp at hu
    have HK4 : Hid (∀ k, (Value.slice (some ⟨w.heap.size + 1, 0, none⟩) 0 0).ownBlock = some k → k < w1.heap.size ∨ w4.heap.size ≤ k) := fun k hk => by
      simp [Value.ownBlock] at hk
      exact .inl (by omega)
    have HRL := Lib.hid (rowS_len (setsN n n))
    clear p0 p1 b5 o5 HLS HG1 HO1
    generalize setsN n n = S at *
    obtain ⟨C, hC⟩ : ∃ C, C = w1.heap.size := ⟨_, rfl⟩
    have HWC := Lib.hid (show w.heap.size ≤ C by omega)
    rw [← hC] at HS4 HK4
    clear hC
    go_wp2_with fail
    go_loopg [4, 6] S.length (fun g ov iv wr => ∃ (i : Nat) (os : List Value) (ow : Value), ow = ov ∧ i + g = S.length ∧ iv = .int .i64 (i : Int) ∧ OwnG wr w.heap.size ow os (rowS (ftsT n l (S.take i))) ∧ Hid (∀ u ∈ os, ∃ j, j < i ∧ us[j]? = some u) ∧ Hid (∀ k, ow.ownBlock = some k → k < C ∨ w4.heap.size ≤ k) ∧ OwnGR C w4.heap.size wr (.slice A5 (rowS S).length c5) us (rowS S) ∧ Blk wr w.heap.size 29 #[.int .i64 (n : Int), .slice A l.length c] ∧ w4.heap.size ≤ wr.heap.size ∧ Below w.heap.size w wr)
    case atStart => exact ⟨0, [], _, rfl, by omega, rfl, HO4.out, HM4, HK4, HS4.out, HG4.out, Nat.le_refl _, HE4.out⟩
    case round =>
      clear HO4 HM4 HK4 HS4 HG4 HE4
      obtain ⟨i, os, ow, rfl, hig, rfl, hout, hmem, hblk, hset, hgb, hsz, hB⟩ := hrel
      obtain ⟨A6, c6, rfl⟩ := own_form hout.1
      obtain ⟨p0, p1, -, -⟩ := hgb.two
      have HO := Lib.hid hout
      have HS := Lib.hid hset
      have HG := Lib.hid hgb
      have HB := Lib.hid hB
      have hrs := HRL.out
      clear hout hset hgb hB
      cases gk with
      | zero =>
        obtain rfl : i = S.length := by omega
        have hcz : ¬ ((S.length : Int) < ((rowS S).length : Int)) := by omega
        have HV : Hid (ftsT n l (S.take S.length) = ftsT n l S) := by show _ = _; rw [List.take_length]
        have HRE := Lib.hid (RetGr.yes HOK.out HO.out HB.out)
        clear hrs
        go_wp2_with fail
        go_ret2
        rw [← HV.out]
        exact HRE.out
      | succ g2 =>
        have hlt : i < S.length := by omega
        have hlt' : (i : Int) < ((rowS S).length : Int) := by omega
        have hlt2 : i < (rowS S).length := by omega
        clear hrs
        obtain ⟨d, hd⟩ : ∃ d, S[i]? = some d := ⟨_, List.getElem?_eq_getElem hlt⟩
        have hdn : d < 2 ^ n := (HSM.out d).1 (List.mem_of_getElem? hd)
        have hd256 : d < 256 := Nat.lt_of_lt_of_le hdn (pow_le hn)
        have HST := Lib.hid (fts_succ (n := n) (l := l) hd)
        have HTM : Hid (∀ f ∈ ftsT n l (S.take i), f < 256) := fun f hf => Nat.lt_of_lt_of_le ((HSM.out f).1 (List.mem_of_mem_take (fts_mem hf))) (pow_le hn)
        have htl : (rowS (ftsT n l (S.take i))).length ≤ 256 := by
          have h1 := fts_len n l (S.take i)
          have h2 : (S.take i).length ≤ S.length := by rw [List.length_take]; omega
          rw [rowS_len]
          have := HRL.out
          omega
        have HTL := Lib.hid (rowS_len (ftsT n l (S.take i)))
        have HYES := Lib.hid (fts_yes (n := n) (l := l) (acc := ftsT n l (S.take i)) (c := d))
        have HNO := Lib.hid (fts_no (n := n) (l := l) (acc := ftsT n l (S.take i)) (c := d))
        obtain ⟨u, hu, hur⟩ := HS.out.1.row (rowS_at hd)
        obtain ⟨u', g, o, hu', hAx, c0, hru⟩ := HS.out.reads.row (rowS_at hd)
        obtain rfl : u = u' := by rw [hu] at hu'; exact Option.some.inj hu'
        subst hAx
        obtain ⟨Ar, cr, rfl, -⟩ := hru.form
        have HU := Lib.hid hu
        have HUR := Lib.hid hur
        have HFO := Lib.hid (fun (W : World) (hW : Below wr.heap.size wr W) => l9Fort_any n d (.slice A l.length c) (.slice Ar (ndN d).length cr) l W (H.out.below (btrans HB.out hW)) hl (by rw [nd_bits hn hdn]; exact hru.below hW) HOK.out hn hdn)
        have hdl : (ndN d).length ≤ 8 := by rw [nd_len]; exact ones_le d
        have HSUB := Lib.hid (fun (f : Nat) (hf : f < 256) => nd_sub (f := f) (c := d) hf)
        have HFL := Lib.hid (fun (f : Nat) => show (ndN f).length ≤ 8 from by rw [nd_len]; exact ones_le f)
        have HXD : Hid (∀ Q : List Nat, rowS (Q ++ [d]) = rowS Q ++ [ndN d]) := fun Q => by simp [rowS]
        clear hu hu' hur hru hd
        generalize hTT : ftsT n l (S.take i) = T at *
        clear hTT
        generalize ndN d = X at *
        generalize frtB n l d = fb at *
        go_wp2_with fail
        refine wp_region_held_drew (S := (fun w' : World => w'.cell? ⟨w.heap.size, 0, none⟩ = some (.int .i64 (n : Int)) ∧ w'.cell? ⟨w.heap.size, 1, none⟩ = some (.slice A l.length c) ∧ w'.cell? ⟨g, o + i, none⟩ = some (.slice Ar X.length cr))) (by kernel_rfl) (by (try dsimp only); simp [*]) (fun hHeld => ?_)
        change wpAnyH _ _ _ _ _ _ #[false, false, false, false, false, false, false] _ _
        refine wpAnyH_take (i := 0) (oi := ⟨some 25, _, _, _, _, _⟩) (v := ?_) rfl (by kernel_rfl) (by kernel_rfl) (by kernel_rfl) (fun _ _ _ h => h) (Or.inl ⟨by rfl, ?_⟩) (by assumption) ?_
        rotate_left
        · (intro w hSw; (try dsimp only at hSw); go_simp; (try (with_reducible rfl)))
        try simp only [Act.put, List.setIfInBounds_toArray, List.set_cons_zero, List.set_cons_succ]
        refine wpAnyH_take (i := 1) (oi := ⟨some 26, _, _, _, _, _⟩) (v := ?_) rfl (by kernel_rfl) (by kernel_rfl) (by kernel_rfl) (fun _ _ _ h => h) (Or.inl ⟨by rfl, ?_⟩) (by assumption) ?_
        rotate_left
        · (intro w hSw; (try dsimp only at hSw); go_simp; (try (with_reducible rfl)))
        try simp only [Act.put, List.setIfInBounds_toArray, List.set_cons_zero, List.set_cons_succ]
        refine wpAnyH_take (i := 2) (oi := ⟨some 27, _, _, _, _, _⟩) (v := ?_) rfl (by kernel_rfl) (by kernel_rfl) (by kernel_rfl) (fun _ _ _ h => h) (Or.inl ⟨by rfl, ?_⟩) (by assumption) ?_
        rotate_left
        · (intro w hSw; (try dsimp only at hSw); go_simp; (try (with_reducible rfl)))
        try simp only [Act.put, List.setIfInBounds_toArray, List.set_cons_zero, List.set_cons_succ]
        refine wpAnyH_take (i := 3) (oi := ⟨some 28, _, _, _, _, _⟩) (v := ?_) rfl (by kernel_rfl) (by kernel_rfl) (by kernel_rfl) (fun _ _ _ h => h) (Or.inl ⟨by rfl, ?_⟩) (by assumption) ?_
        rotate_left
        · (intro w hSw; (try dsimp only at hSw); go_simp; (try (with_reducible rfl)))
        try simp only [Act.put, List.setIfInBounds_toArray, List.set_cons_zero, List.set_cons_succ]
        refine wpAnyH_take (i := 4) (oi := ⟨some 29, _, _, _, _, _⟩) (v := ?_) rfl (by kernel_rfl) (by kernel_rfl) (by kernel_rfl) (fun _ _ _ h => h) (Or.inl ⟨by rfl, ?_⟩) (by assumption) ?_
        rotate_left
        · (intro w hSw; (try dsimp only at hSw); go_simp; (try (with_reducible rfl)))
        try simp only [Act.put, List.setIfInBounds_toArray, List.set_cons_zero, List.set_cons_succ]
        refine wpAnyH_ready (rs := [5]) (by kernel_rfl) (by simp) ?_
        refine AllReadyH.cons (o := ⟨some 30, _, _, _, _, _⟩) rfl (fun K hK => ?_) AllReadyH.nil
        go_simp
        (with_reducible refine (HFO.out wr.drew (Below.refl _ _).drew).mono ?_); rintro e w5 ⟨rfl, b5⟩; have d5 : Below wr.heap.size wr w5 := btrans (Below.refl _ _).drew b5; obtain ⟨i0, i1, -, -⟩ := (HG.out.below d5 HG.out.lt).two; have j0 := nearv.cell_keep c0 d5
        go_wp2_with fail
        refine hK.out _ _ (by (try dsimp only); simp [*]) (fun hHeld => ?_)
        clear hK K
        try simp only [List.setIfInBounds_toArray, List.set_cons_zero, List.set_cons_succ]
        refine wpAnyH_take (i := 6) (oi := ⟨some 7, _, _, _, _, _⟩) (v := ?_) rfl (by kernel_rfl) (by kernel_rfl) (by kernel_rfl) (fun _ _ _ h => h) (Or.inl ⟨by rfl, ?_⟩) (by assumption) ?_
        rotate_left
        · (intro w hSw; (try dsimp only at hSw); go_simp; (try (with_reducible rfl)))
        try simp only [Act.put, List.setIfInBounds_toArray, List.set_cons_zero, List.set_cons_succ]
        refine wpAnyH_done (by kernel_rfl) ?_ _
        have HO5 := Lib.hid (HO.out.below d5)
        have HS5 := Lib.hid (HS.out.below d5)
        have HG5 := Lib.hid (HG.out.below d5 HG.out.lt)
        have HB5 := Lib.hid (btrans HB.out d5)
        have HUR5 := Lib.hid (own_below HUR.out d5)
        have hsz5 : w4.heap.size ≤ w5.heap.size := Nat.le_trans hsz d5.size
        have q0 := nearv.cell_keep c0 d5
        have HXI5 : Hid (Ints w5 (.slice Ar X.length cr) X) := Reads.of_own HUR5.out
        have HQ0 := Lib.hid q0
        clear c0 d5 b5 p0 p1 i0 i1 j0 HFO HO HS HG HB HUR
        go_wp2_with fail
        go_loopg [7, 8] (rowS T).length (fun g bv kv wx => ∃ (k : Nat) (b : Bool), k + g = (rowS T).length ∧ bv = .bool b ∧ kv = .int .i64 (k : Int) ∧ Hid (b = true → fb = true ∧ ∀ j f, j < k → T[j]? = some f → subB f d = false) ∧ Hid (b = false → fb = false ∨ (T.any fun f => subB f d) = true) ∧ Below w5.heap.size w5 wx)
        case atStart => exact ⟨0, fb, by omega, rfl, rfl, fun h => ⟨h, fun j f hj => by omega⟩, fun h => .inl h, Below.refl _ _⟩
        case round =>
          obtain ⟨k, b, hkg, rfl, rfl, hyes, hno, hbx⟩ := hrel
          have HBX := Lib.hid hbx
          have HO6 := Lib.hid (HO5.out.below hbx)
          have HS6 := Lib.hid (HS5.out.below hbx)
          have HG6 := Lib.hid (HG5.out.below hbx HG5.out.lt)
          have HB6 := Lib.hid (btrans HB5.out hbx)
          have HUR6 := Lib.hid (own_below HUR5.out hbx)
          have HXI6 := Lib.hid (HXI5.out.below hbx)
          have hsz6 : w4.heap.size ≤ wr.heap.size := Nat.le_trans hsz5 hbx.size
          have q1 := nearv.cell_keep HQ0.out hbx
          clear hbx q0
          have hk1 : k ≤ (rowS T).length := by omega
          cases b with
          | false =>
            have HN := Lib.hid (HNO.out (hno.out rfl))
            by_cases hk : k < (rowS T).length
            · have hk2 : (k : Int) < ((rowS T).length : Int) := by omega
              clear hk
              go_wp2_with fail
              go_roundg g2
              case measure => omega
              case rel =>
                refine ⟨i + 1, os, _, rfl, by omega, by go_num, ?_, fun u hu => by obtain ⟨j, h1, h2⟩ := hmem.out u hu; exact ⟨j, by omega, h2⟩, hblk, HS6.out, HG6.out, hsz6, HB6.out⟩
                rw [HST.out, HN.out]
                exact HO6.out
            · have hk2 : ¬ (k : Int) < ((rowS T).length : Int) := by omega
              clear hk
              go_wp2_with fail
              go_roundg g2
              case measure => omega
              case rel =>
                refine ⟨i + 1, os, _, rfl, by omega, by go_num, ?_, fun u hu => by obtain ⟨j, h1, h2⟩ := hmem.out u hu; exact ⟨j, by omega, h2⟩, hblk, HS6.out, HG6.out, hsz6, HB6.out⟩
                rw [HST.out, HN.out]
                exact HO6.out
          | true =>
            cases gk with
            | zero =>
              obtain rfl : k = (rowS T).length := by omega
              have hany : (T.any fun f => subB f d) = false := by
                rw [List.any_eq_false]
                intro f hf
                obtain ⟨j, hj⟩ := List.getElem?_of_mem hf
                rw [(hyes.out rfl).2 j f (by rw [HTL.out]; exact (List.getElem?_eq_some_iff.1 hj).1) hj]
                decide
              have HN := Lib.hid (HYES.out (hyes.out rfl).1 hany)
              have hkx : ¬ ((rowS T).length : Int) < ((rowS T).length : Int) := by omega
              have hg9 := HO6.out.1
              have hs6 := HB6.out.size
              clear hany
              go_wp2_with (at_builtin; refine wpList_append_own_at _ rfl _ _ 41 rfl w.heap.size 25 i1 (.slice none 0 0) 1 24 Try.underlying41 hi1 hy0 hy1 hy2 rfl (by decide) _ _ _ rfl (hg9.alloc _) ⟨wr.heap.size, 0, none⟩ 1 1 [.slice Ar X.length cr] rfl rfl (cell_one_new _ _ _) (fun x hx => by simp at hx; subst hx; rfl) (by unfold maxLen; omega) (by omega) (by simp; omega) ?_; intro v10 w10 hown10 hgrow10 _ hl10)
              have HO10 : Hid (OwnG w10 w.heap.size v10 (os ++ [.slice Ar X.length cr]) (rowS T ++ [X])) := ftsPush HO6.out (own_base HUR6.out HWC.out) (fun x hx k hk => by
                obtain ⟨j, h1, h2⟩ := hmem.out x hx
                exact HS6.out.1.2.2 j i x _ k h1 h2 HU.out hk) hown10 hgrow10
              have HS10 := Lib.hid (setsKept HS6.out hblk.out hgrow10)
              have HM10 : Hid (∀ u ∈ os ++ [.slice Ar X.length cr], ∃ j, j < i + 1 ∧ us[j]? = some u) := fun u hu => by
                rcases List.mem_append.1 hu with h | h
                · obtain ⟨j, h1, h2⟩ := hmem.out u h; exact ⟨j, by omega, h2⟩
                · rw [List.mem_singleton.1 h]; exact ⟨i, by omega, HU.out⟩
              have HK10 : Hid (∀ k, v10.ownBlock = some k → k < C ∨ w4.heap.size ≤ k) := fun k hk => by
                rcases hl10 with h | h
                · have h' : v10.ownBlock = (Value.slice A6 (rowS T).length c6).ownBlock := h
                  exact hblk.out k (h'.symm.trans hk)
                · rw [h, World.size_alloc] at hk
                  have := Option.some.inj hk
                  exact .inr (by omega)
              have HG10 := Lib.hid ((HG6.out.alloc (.cells #[.slice Ar X.length cr] 25)).grown hgrow10 (fun e => mids.own_ne hg9 HG6.out (by decide) e.symm))
              have hsz10 : w4.heap.size ≤ w10.heap.size := by
                have := hgrow10.4
                rw [World.size_alloc] at this
                omega
              have HB10 := Lib.hid ((HB6.out.alloc hs6 (.cells #[.slice Ar X.length cr] 25)).grown hgrow10 (by simp; omega) (fun j e => (hg9.lt j e).1))
              clear hown10 hgrow10 hl10 hg9
              go_roundg g2
              case measure => omega
              case rel =>
                refine ⟨i + 1, _, _, rfl, by omega, by go_num, ?_, HM10, HK10, HS10.out, HG10.out, hsz10, HB10.out⟩
                rw [HST.out, HN.out, HXD.out]
                exact HO10.out
            | succ g4 =>
              have hk : k < (rowS T).length := by omega
              have hk2 : (k : Int) < ((rowS T).length : Int) := by omega
              obtain ⟨f, hf⟩ : ∃ f, T[k]? = some f := ⟨_, List.getElem?_eq_getElem (by rw [HTL.out] at hk; exact hk)⟩
              have hf256 := HTM.out f (List.mem_of_getElem? hf)
              obtain ⟨u6, g6, o6, hu6, hAx, d0, hru⟩ := (gridl.readsG_of_own HO6.out).row (rowS_at hf)
              subst hAx
              obtain ⟨A8, c8, rfl, -⟩ := hru.form
              have HPT := Lib.hid (fun (W : World) (hW : Below wr.heap.size wr W) => l7Part_any (.slice A8 (ndN f).length c8) (.slice Ar X.length cr) (ndN f) X W (hru.below hW) (HXI6.out.below hW) (by have := HFL.out f; omega) (by omega))
              rw [HSUB.out f hf256] at HPT
              have HNX : Hid (subB f d = false → true = true → fb = true ∧ ∀ j f, j < k + 1 → T[j]? = some f → subB f d = false) := fun hs _ => ⟨(hyes.out rfl).1, fun j f' hj hf' => by
                by_cases e : j = k
                · subst e; rw [hf] at hf'; cases hf'; exact hs
                · exact (hyes.out rfl).2 j f' (by omega) hf'⟩
              have HNY : Hid (subB f d = true → fb = false ∨ (T.any fun f => subB f d) = true) := fun hs => .inr (List.any_eq_true.2 ⟨f, List.mem_of_getElem? hf, hs⟩)
              clear hu6 hru hf hk
              generalize subB f d = sb at *
              generalize ndN f = Y at *
              go_wp2_with fail
              refine wp_region_held_drew (S := (fun w' : World => w'.cell? ⟨g6, o6 + k, none⟩ = some (.slice A8 Y.length c8) ∧ w'.cell? ⟨g, o + i, none⟩ = some (.slice Ar X.length cr))) (by kernel_rfl) (by (try dsimp only); simp [*]) (fun hHeld => ?_)
              change wpAnyH _ _ _ _ _ _ #[false, false, false, false, false, false, false, false, false, false, false] _ _
              refine wpAnyH_take (i := 0) (oi := ⟨some 40, _, _, _, _, _⟩) (v := ?_) rfl (by kernel_rfl) (by kernel_rfl) (by kernel_rfl) (fun _ _ _ h => h) (Or.inl ⟨by rfl, ?_⟩) (by assumption) ?_
              rotate_left
              · (intro w hSw; (try dsimp only at hSw); go_simp; (try (with_reducible rfl)))
              try simp only [Act.put, List.setIfInBounds_toArray, List.set_cons_zero, List.set_cons_succ]
              refine wpAnyH_take (i := 1) (oi := ⟨some 41, _, _, _, _, _⟩) (v := ?_) rfl (by kernel_rfl) (by kernel_rfl) (by kernel_rfl) (fun _ _ _ h => h) (Or.inl ⟨by rfl, ?_⟩) (by assumption) ?_
              rotate_left
              · (intro w hSw; (try dsimp only at hSw); go_simp; (try (with_reducible rfl)))
              try simp only [Act.put, List.setIfInBounds_toArray, List.set_cons_zero, List.set_cons_succ]
              refine wpAnyH_take (i := 2) (oi := ⟨some 42, _, _, _, _, _⟩) (v := ?_) rfl (by kernel_rfl) (by kernel_rfl) (by kernel_rfl) (fun _ _ _ h => h) (Or.inl ⟨by rfl, ?_⟩) (by assumption) ?_
              rotate_left
              · (intro w hSw; (try dsimp only at hSw); go_simp; (try (with_reducible rfl)))
              try simp only [Act.put, List.setIfInBounds_toArray, List.set_cons_zero, List.set_cons_succ]
              refine wpAnyH_take (i := 3) (oi := ⟨some 43, _, _, _, _, _⟩) (v := ?_) rfl (by kernel_rfl) (by kernel_rfl) (by kernel_rfl) (fun _ _ _ h => h) (Or.inl ⟨by rfl, ?_⟩) (by assumption) ?_
              rotate_left
              · (intro w hSw; (try dsimp only at hSw); go_simp; (try (with_reducible rfl)))
              try simp only [Act.put, List.setIfInBounds_toArray, List.set_cons_zero, List.set_cons_succ]
              refine wpAnyH_take (i := 4) (oi := ⟨some 44, _, _, _, _, _⟩) (v := ?_) rfl (by kernel_rfl) (by kernel_rfl) (by kernel_rfl) (fun _ _ _ h => h) (Or.inl ⟨by rfl, ?_⟩) (by assumption) ?_
              rotate_left
              · (intro w hSw; (try dsimp only at hSw); go_simp; (try (with_reducible rfl)))
              try simp only [Act.put, List.setIfInBounds_toArray, List.set_cons_zero, List.set_cons_succ]
              refine wpAnyH_take (i := 5) (oi := ⟨some 45, _, _, _, _, _⟩) (v := ?_) rfl (by kernel_rfl) (by kernel_rfl) (by kernel_rfl) (fun _ _ _ h => h) (Or.inl ⟨by rfl, ?_⟩) (by assumption) ?_
              rotate_left
              · (intro w hSw; (try dsimp only at hSw); go_simp; (try (with_reducible rfl)))
              try simp only [Act.put, List.setIfInBounds_toArray, List.set_cons_zero, List.set_cons_succ]
              refine wpAnyH_take (i := 6) (oi := ⟨some 46, _, _, _, _, _⟩) (v := ?_) rfl (by kernel_rfl) (by kernel_rfl) (by kernel_rfl) (fun _ _ _ h => h) (Or.inl ⟨by rfl, ?_⟩) (by assumption) ?_
              rotate_left
              · (intro w hSw; (try dsimp only at hSw); go_simp; (try (with_reducible rfl)))
              try simp only [Act.put, List.setIfInBounds_toArray, List.set_cons_zero, List.set_cons_succ]
              refine wpAnyH_take (i := 7) (oi := ⟨some 47, _, _, _, _, _⟩) (v := ?_) rfl (by kernel_rfl) (by kernel_rfl) (by kernel_rfl) (fun _ _ _ h => h) (Or.inl ⟨by rfl, ?_⟩) (by assumption) ?_
              rotate_left
              · (intro w hSw; (try dsimp only at hSw); go_simp; (try (with_reducible rfl)))
              try simp only [Act.put, List.setIfInBounds_toArray, List.set_cons_zero, List.set_cons_succ]
              refine wpAnyH_ready (rs := [8]) (by kernel_rfl) (by simp) ?_
              refine AllReadyH.cons (o := ⟨some 48, _, _, _, _, _⟩) rfl (fun K hK => ?_) AllReadyH.nil
              go_simp
              (with_reducible refine (HPT.out wr.drew (Below.refl _ _).drew).mono ?_); rintro e w7 ⟨rfl, rfl⟩; have j0 := nearv.cell_keep d0 (show Below wr.heap.size wr wr.drew from (Below.refl _ _).drew); have j1 := nearv.cell_keep q1 (show Below wr.heap.size wr wr.drew from (Below.refl _ _).drew)
              go_wp2_with fail
              refine hK.out _ _ (by (try dsimp only); simp [*]) (fun hHeld => ?_)
              clear hK K
              try simp only [List.setIfInBounds_toArray, List.set_cons_zero, List.set_cons_succ]
              refine wpAnyH_take (i := 9) (oi := ⟨some 49, _, _, _, _, _⟩) (v := ?_) rfl (by kernel_rfl) (by kernel_rfl) (by kernel_rfl) (fun _ _ _ h => h) (Or.inl ⟨by rfl, ?_⟩) (by assumption) ?_
              rotate_left
              · (intro w hSw; (try dsimp only at hSw); go_simp; (try (with_reducible rfl)))
              try simp only [Act.put, List.setIfInBounds_toArray, List.set_cons_zero, List.set_cons_succ]
              refine wpAnyH_take (i := 10) (oi := ⟨some 7, _, _, _, _, _⟩) (v := ?_) rfl (by kernel_rfl) (by kernel_rfl) (by kernel_rfl) (fun _ _ _ h => h) (Or.inl ⟨by rfl, ?_⟩) (by assumption) ?_
              rotate_left
              · (intro w hSw; (try dsimp only at hSw); go_simp; (try (with_reducible rfl)))
              try simp only [Act.put, List.setIfInBounds_toArray, List.set_cons_zero, List.set_cons_succ]
              refine wpAnyH_done (by kernel_rfl) ?_ _
              go_wp2_with fail
              go_roundg g4
              case measure => omega
              case rel =>
                refine ⟨k + 1, !sb, by omega, rfl, by go_num, ?_, ?_, btrans HBX.out (Below.refl _ _).drew⟩
                · show _ → _
                  intro hs
                  exact HNX.out (by simpa using hs) trivial
                · show _ → _
                  intro hs
                  exact HNY.out (by simpa using hs)
  · rw [goodB_no hgd] at HGD
    go_enter Try.func37, Try.ntmps37
    go_wp2_with fail
    refine HGD.out.mono ?_
    rintro e w1 ⟨rfl, b1⟩
    have HRE := Lib.hid (RetGr.no (rows := ftsL s l) hgd (own_below HO0.out.1 b1) (btrans HB0.out b1))
    clear p0 p1 b1 hgd
    go_wp2_with fail
    go_ret2
    exact HRE.out
theorem tot_fts {M : Nat} : ∀ (rows : List (List Int)), (∀ r ∈ rows, r.length ≤ M) → gridl.tot rows ≤ rows.length * M
  | [], _ => by simp [gridl.tot]
  | r :: rs, h => by
    have h1 := h r List.mem_cons_self
    have h2 := tot_fts rs fun q hq => h q (List.mem_cons_of_mem _ hq)
    have h3 : gridl.tot (r :: rs) = r.length + gridl.tot rs := by simp [gridl.tot]
    rw [h3, List.length_cons, Nat.succ_mul]; omega
theorem fts_bound (s : Int) (l : List Ed) : gridl.tot (gdG (P2.Good s l) (ftsL s l)) ≤ 1048576 ∧ (gdG (P2.Good s l) (ftsL s l)).length ≤ 1048576 := by
  by_cases h : P2.Good s l
  · rw [gdG_yes h]
    have h8 := h.2.1
    have hs : s.toNat ≤ 8 := by omega
    have h1 : (ftsL s l).length ≤ 256 := by
      unfold ftsL
      rw [List.length_map]
      exact Nat.le_trans (fts_len _ _ _) (sets_len hs hs)
    have h2 := tot_fts (M := 8) (ftsL s l) (fun r hr => by
      unfold ftsL at hr
      obtain ⟨x, _, rfl⟩ := List.mem_map.1 hr
      rw [nd_len]; exact ones_le x)
    omega
  · rw [gdG_no h]; simp [gridl.tot]
end Go.Proofs.Ytfphpilabfpmjaa.forc

/- FnExactFortsOf returns true for every Graph: the program's FortsOf and the model's return the same, in memory of their own, and write into nothing that was there. No conditions. -/
namespace Go.Proofs.Ytfphpilabfpmjaa.exFts
open Go.ChangeShapes Go.WideShapes Go.ChangeAt Go.RowKit P2 words edges ints owns good adjs fns rets sets bags grid gridl ups forc _root_.Go.Proofs.Ytfphpilabfpmjaa.opens
set_option linter.unusedVariables false

set_option maxHeartbeats 4000000 in
set_option maxRecDepth 100000 in
theorem core (s0 : Int) (A0 : Option Addr) (c0 : Nat) (l0 : List Ed) (w : World) (h0 : Edges w (.slice A0 l0.length c0) l0) (hl0 : l0.length ≤ 1048576)
    (HS : Hid (∀ (B0 : Option Addr) (d0 : Nat) (W : World), Edges W (.slice B0 l0.length d0) l0 → Calls Try.prog 37 #[.agg #[.int .i64 s0, .slice B0 l0.length d0]] W fun e W' => ∃ Ar cr us, e = .returned (.tuple #[.slice Ar (gdG (P2.Good s0 l0) (ftsL s0 l0)).length cr, .bool (okG (P2.Good s0 l0))]) ∧ grid.OwnG W' W.heap.size (.slice Ar (gdG (P2.Good s0 l0) (ftsL s0 l0)).length cr) us (gdG (P2.Good s0 l0) (ftsL s0 l0)) ∧ Below W.heap.size W W'))
    (HI : Hid (∀ (B0 : Option Addr) (d0 : Nat) (W : World), Edges W (.slice B0 l0.length d0) l0 → Calls Try.prog 38 #[.agg #[.int .i64 s0, .slice B0 l0.length d0]] W fun e W' => ∃ Ar cr us, e = .returned (.tuple #[.slice Ar (gdG (P2.Good s0 l0) (ftsL s0 l0)).length cr, .bool (okG (P2.Good s0 l0))]) ∧ grid.OwnG W' W.heap.size (.slice Ar (gdG (P2.Good s0 l0) (ftsL s0 l0)).length cr) us (gdG (P2.Good s0 l0) (ftsL s0 l0)) ∧ Below W.heap.size W W')) (hlen : gridl.tot (gdG (P2.Good s0 l0) (ftsL s0 l0)) ≤ 1048576 ∧ (gdG (P2.Good s0 l0) (ftsL s0 l0)).length ≤ 1048576) :
    Calls Try.prog 10 #[.agg #[.int .i64 s0, .slice A0 l0.length c0]] w fun e w' => e = .returned (.bool true) ∧ Below w.heap.size w w' := by
  obtain ⟨hlen, hlen2⟩ := hlen
  have H0 := Lib.hid h0
  have b0_0 : Below w.heap.size w (w.alloc (.cells #[.int .i64 s0, .slice A0 l0.length c0] 24)) := (Below.refl _ _).alloc (Nat.le_refl _) _
  have e0_0 : Below w.heap.size w (w.alloc (.cells #[.int .i64 s0, .slice A0 l0.length c0] 24)) := b0_0
  have g0 := Blk.new w 24 #[.int .i64 s0, .slice A0 l0.length c0]
  have z0_0 := Lib.hid b0_0.size
  have yag := Lib.hid g0.lt
  have hself : ∀ b : Bool, (b != b) = false := fun b => by simp
  clear h0
  go_enter Try.func10, Try.ntmps10
  have hz0 : ((l0.length : Nat) : Int) ≤ 1048576 := by omega
  obtain ⟨pag0, pag1, -, -⟩ := g0.two
  go_wp2_with fail
  refine (szGraph_yes s0 (.slice A0 l0.length c0) l0 (1048576) (w.alloc (.cells #[.int .i64 s0, .slice A0 l0.length c0] 24)) (H0.out.below e0_0) (by omega) (by omega)).mono ?_
  rintro e w2 ⟨rfl, bw2⟩
  clear pag0 pag1
  have e0 := btrans e0_0 bw2
  have z0 := Lib.hid bw2.size
  replace g0 := g0.below bw2 g0.lt
  clear bw2
  obtain ⟨pag0, pag1, -, -⟩ := g0.two
  go_wp2_with fail
  refine (toGraph_any s0 (.slice A0 l0.length c0) l0 w2 (H0.out.below e0) hl0).mono ?_
  rintro e w3 ⟨Apg, cpg, rfl, opg, bw3⟩
  clear pag0 pag1
  have e1 := btrans e0 bw3
  have z1 := Lib.hid bw3.size
  replace g0 := g0.below bw3 g0.lt
  clear bw3 e0
  have opg_ := OwnR.new opg
  clear opg
  go_wp2_with fail
  refine (HS.out Apg cpg w3 opg_.reads).mono ?_
  rintro e w4 ⟨Aw, cw, usw, rfl, ow, bw4⟩
  have e2 := btrans e1 bw4
  have z2 := Lib.hid bw4.size
  replace g0 := g0.below bw4 g0.lt
  replace opg_ := opg_.below bw4
  clear bw4 e1
  have ow_ := gridl.OwnGR.new ow
  clear ow
  obtain ⟨pag0, pag1, -, -⟩ := g0.two
  go_wp2_with fail
  refine (toGraph_any s0 (.slice A0 l0.length c0) l0 w4 (H0.out.below e2) hl0).mono ?_
  rintro e w5 ⟨Axg, cxg, rfl, oxg, bw5⟩
  clear pag0 pag1
  have e3 := btrans e2 bw5
  have z3 := Lib.hid bw5.size
  replace g0 := g0.below bw5 g0.lt
  replace ow_ := ow_.below bw5
  clear bw5 e2
  have oxg_ := OwnR.new oxg
  clear oxg
  have bxxg : Below w5.heap.size w5 (w5.alloc (.cells #[.int .i64 s0, .slice Axg l0.length cxg] 29)) := (Below.refl _ _).alloc (Nat.le_refl _) _
  have gxg := Blk.new w5 29 #[.int .i64 s0, .slice Axg l0.length cxg]
  have e4 := btrans e3 bxxg
  have z4 := Lib.hid bxxg.size
  replace g0 := g0.below bxxg g0.lt
  replace ow_ := ow_.below bxxg
  replace oxg_ := oxg_.below bxxg
  clear bxxg e3
  have yxg := Lib.hid gxg.lt
  obtain ⟨pxg0, pxg1, -, -⟩ := gxg.two
  go_wp2_with fail
  refine (HI.out Axg cxg (w5.alloc (.cells #[.int .i64 s0, .slice Axg l0.length cxg] 29)) oxg_.reads).mono ?_
  rintro e w6 ⟨Ag, cg, usg, rfl, og, bw6⟩
  clear pxg0 pxg1
  have e5 := btrans e4 bw6
  have z5 := Lib.hid bw6.size
  replace g0 := g0.below bw6 g0.lt
  replace gxg := gxg.below bw6 gxg.lt
  replace ow_ := ow_.below bw6
  replace oxg_ := oxg_.below bw6
  clear bw6 e4
  have og_ := gridl.OwnGR.new og
  clear og
  go_wp2_with fail
  refine (gridl.eqIntSS_own _ _ _ _ (gdG (P2.Good s0 l0) (ftsL s0 l0)) w6 og_.reads ow_.reads hlen hlen2).mono ?_
  rintro e w7 ⟨rfl, bw7⟩
  have e6 := btrans e5 bw7
  have z6 := Lib.hid bw7.size
  replace g0 := g0.below bw7 g0.lt
  replace gxg := gxg.below bw7 gxg.lt
  replace ow_ := ow_.below bw7
  replace oxg_ := oxg_.below bw7
  replace og_ := og_.below bw7
  clear bw7 e5
  obtain ⟨pag0, pag1, -, -⟩ := g0.two
  obtain ⟨pxg0, pxg1, -, -⟩ := gxg.two
  have HA := Lib.hid (H0.out.below e6)
  have HX := Lib.hid (oxg_.reads)
  go_wp2_with fail
  go_region_held3 (fun w' => w'.cell? ⟨w.heap.size, 0, none⟩ = some (.int .i64 s0) ∧ w'.cell? ⟨w.heap.size, 1, none⟩ = some (.slice A0 l0.length c0) ∧ w'.cell? ⟨w5.heap.size, 0, none⟩ = some (.int .i64 s0) ∧ w'.cell? ⟨w5.heap.size, 1, none⟩ = some (.slice Axg l0.length cxg)) (go_keep)
    (first | (go_at_call 17; refine (toGraph_k s0 (.slice A0 l0.length c0) l0 w7.drew HA.out hl0 (p := ⟨w.heap.size, 0, none⟩) (q := ⟨w.heap.size, 1, none⟩) (r := ⟨w5.heap.size, 0, none⟩) (t := ⟨w5.heap.size, 1, none⟩) (a := .int .i64 s0) (b := .slice A0 l0.length c0) (c := .int .i64 s0) (d := .slice Axg l0.length cxg) ?_ ?_ ?_ ?_).mono ?_; (simp [*]); (simp [*]); (simp [*]); (simp [*]); rintro e w8 ⟨⟨Ay, cy, rfl, oy⟩, k0, k1, k2, k3, bw8⟩)
           | (go_at_call 21; refine (eqGraph_k s0 _ _ l0 _ (Reads.below (w := w7.drew) HX.out bw8) (Reads.of_own oy) hl0 (p := ⟨w.heap.size, 0, none⟩) (q := ⟨w.heap.size, 1, none⟩) (r := ⟨w5.heap.size, 0, none⟩) (t := ⟨w5.heap.size, 1, none⟩) (a := .int .i64 s0) (b := .slice A0 l0.length c0) (c := .int .i64 s0) (d := .slice Axg l0.length cxg) ?_ ?_ ?_ ?_).mono ?_; (simp [*]); (simp [*]); (simp [*]); (simp [*]); rintro e w9 ⟨rfl, m0, m1, m2, m3, bw9⟩))
  clear k0 k1 k2 k3 m0 m1 m2 m3 HA HX oy
  clear pag0 pag1 pxg0 pxg1
  have cw8 : Below w7.heap.size w7 w8 := (Below.refl _ _).drew.trans bw8
  clear bw8
  have e7 := btrans e6 cw8
  have z7 := Lib.hid cw8.size
  replace g0 := g0.below cw8 g0.lt
  replace gxg := gxg.below cw8 gxg.lt
  replace ow_ := ow_.below cw8
  replace oxg_ := oxg_.below cw8
  replace og_ := og_.below cw8
  clear cw8 e6
  have e8 := btrans e7 bw9
  have z8 := Lib.hid bw9.size
  replace g0 := g0.below bw9 g0.lt
  replace gxg := gxg.below bw9 gxg.lt
  replace ow_ := ow_.below bw9
  replace oxg_ := oxg_.below bw9
  replace og_ := og_.below bw9
  clear bw9 e7
  obtain ⟨pxg0, pxg1, -, -⟩ := gxg.two
  go_wp2_with fail
  refine (markGraph_own s0 _ l0 _ _ (1) w9 oxg_ (by omega)).mono ?_
  rintro e w10 ⟨rfl, om, tw10⟩
  clear pxg0 pxg1
  have uz0_0 := z0_0.out
  have uyag := yag.out
  have uz0 := z0.out
  have uz1 := z1.out
  have uz2 := z2.out
  have uz3 := z3.out
  have uz4 := z4.out
  have uyxg := yxg.out
  have uz5 := z5.out
  have uz6 := z6.out
  have uz7 := z7.out
  have uz8 := z8.out
  have e9 : Below w.heap.size w w10 := e8.trans (tw10.below (by omega) (by omega))
  have z9 := Lib.hid tw10.size
  replace g0 := blk_turned g0 tw10 (by omega)
  replace gxg := blk_turned gxg tw10 (by omega)
  replace ow_ := ow_.turned tw10 (by omega)
  replace og_ := og_.turned tw10 (by omega)
  clear uz0_0 uyag uz0 uz1 uz2 uz3 uz4 uyxg uz5 uz6 uz7 uz8
  clear oxg_ tw10 e8
  have oxg_ := om
  clear om
  go_wp2_with fail
  refine (gridl.eqIntSS_own _ _ _ _ (gdG (P2.Good s0 l0) (ftsL s0 l0)) w10 og_.reads ow_.reads hlen hlen2).mono ?_
  rintro e w11 ⟨rfl, bw11⟩
  have e10 := btrans e9 bw11
  have z10 := Lib.hid bw11.size
  replace g0 := g0.below bw11 g0.lt
  replace gxg := gxg.below bw11 gxg.lt
  replace ow_ := ow_.below bw11
  replace oxg_ := oxg_.below bw11
  replace og_ := og_.below bw11
  clear bw11 e9
  clear oxg_
  clear gxg
  go_wp2_with fail
  refine (gridl.markIntSS_own _ _ (gdG (P2.Good s0 l0) (ftsL s0 l0)) _ _ 1 w11 og_ (by omega) hlen2).mono ?_
  rintro e w12 ⟨rfl, om, tw12⟩
  have uz0_0 := z0_0.out
  have uyag := yag.out
  have uz0 := z0.out
  have uz1 := z1.out
  have uz2 := z2.out
  have uz3 := z3.out
  have uz4 := z4.out
  have uyxg := yxg.out
  have uz5 := z5.out
  have uz6 := z6.out
  have uz7 := z7.out
  have uz8 := z8.out
  have uz9 := z9.out
  have uz10 := z10.out
  have e11 : Below w.heap.size w w12 := e10.trans (tw12.below (by omega) (by omega))
  have z11 := Lib.hid tw12.size
  replace g0 := blk_turned g0 tw12 (by omega)
  replace ow_ := ow_.turned tw12 (by omega)
  clear uz0_0 uyag uz0 uz1 uz2 uz3 uz4 uyxg uz5 uz6 uz7 uz8 uz9 uz10
  clear og_ tw12 e10
  have og_ := om
  clear om
  go_wp2_with fail
  refine (gridl.heldIntSS_own _ _ (gdG (P2.Good s0 l0) (ftsL s0 l0)) _ _ 1 w12 og_ (by omega) hlen2).mono ?_
  rintro e w13 ⟨rfl, bw13⟩
  have e12 := btrans e11 bw13
  have z12 := Lib.hid bw13.size
  replace g0 := g0.below bw13 g0.lt
  replace ow_ := ow_.below bw13
  replace og_ := og_.below bw13
  clear bw13 e11
  obtain ⟨pag0, pag1, -, -⟩ := g0.two
  go_wp2_with fail
  refine (toGraph_any s0 (.slice A0 l0.length c0) l0 w13 (H0.out.below e12) hl0).mono ?_
  rintro e w14 ⟨Aqg, cqg, rfl, oqg, bw14⟩
  clear pag0 pag1
  have e13 := btrans e12 bw14
  have z13 := Lib.hid bw14.size
  replace g0 := g0.below bw14 g0.lt
  replace ow_ := ow_.below bw14
  replace og_ := og_.below bw14
  clear bw14 e12
  have oqg_ := OwnR.new oqg
  clear oqg
  go_wp2_with fail
  refine (HI.out Aqg cqg w14 oqg_.reads).mono ?_
  rintro e w15 ⟨Ah, ch, ush, rfl, oh, bw15⟩
  have e14 := btrans e13 bw15
  have z14 := Lib.hid bw15.size
  replace g0 := g0.below bw15 g0.lt
  replace ow_ := ow_.below bw15
  replace og_ := og_.below bw15
  replace oqg_ := oqg_.below bw15
  clear bw15 e13
  have oh_ := gridl.OwnGR.new oh
  clear oh
  clear oqg_
  go_wp2_with fail
  refine (gridl.eqIntSS_own _ _ _ _ (gdG (P2.Good s0 l0) (ftsL s0 l0)) w15 oh_.reads ow_.reads hlen hlen2).mono ?_
  rintro e w16 ⟨rfl, bw16⟩
  have e15 := btrans e14 bw16
  have z15 := Lib.hid bw16.size
  replace g0 := g0.below bw16 g0.lt
  replace ow_ := ow_.below bw16
  replace og_ := og_.below bw16
  replace oh_ := oh_.below bw16
  clear bw16 e14
  go_wp2_with fail
  refine (gridl.heldIntSS_own _ _ (gdG (P2.Good s0 l0) (ftsL s0 l0)) _ _ 1 w16 og_ (by omega) hlen2).mono ?_
  rintro e w17 ⟨rfl, bw17⟩
  have e16 := btrans e15 bw17
  have z16 := Lib.hid bw17.size
  replace g0 := g0.below bw17 g0.lt
  replace ow_ := ow_.below bw17
  replace og_ := og_.below bw17
  replace oh_ := oh_.below bw17
  clear bw17 e15
  go_wp2_with fail
  go_ret
  exact ⟨rfl, e16⟩

set_option maxHeartbeats 1000000 in
set_option maxRecDepth 100000 in
theorem walk (s0 : Int) (u0 : Value) (l0 : List Ed) (w : World) (w0 : IsGr w s0 u0 l0) :
    Calls Try.prog 10 #[.agg #[.int .i64 s0, u0]] w fun e w' => e = .returned (.bool true) ∧ Below w.heap.size w w' := by
  obtain ⟨h0, hm0, hs0, ht0⟩ := w0
  obtain ⟨A0, c0, rfl, -⟩ := h0.form
  unfold maxLen at hm0
  have b0_0 : Below w.heap.size w (w.alloc (.cells #[.int .i64 s0, .slice A0 l0.length c0] 24)) := (Below.refl _ _).alloc (Nat.le_refl _) _
  have e0_0 : Below w.heap.size w (w.alloc (.cells #[.int .i64 s0, .slice A0 l0.length c0] 24)) := b0_0
  have g0 := Blk.new w 24 #[.int .i64 s0, .slice A0 l0.length c0]
  by_cases hl0 : l0.length ≤ 1048576
  rotate_left
  · have hlt : (1048576 : Int) < (l0.length : Int) := by omega
    have HZ := Lib.hid (szGraph_no s0 (.slice A0 l0.length c0) l0 1048576 _ (h0.below e0_0) hlt (by omega) (by omega))
    clear h0
    obtain ⟨p0, p1, -, -⟩ := g0.two
    go_enter Try.func10, Try.ntmps10
    go_wp2_with fail
    refine HZ.out.mono ?_
    rintro e w1 ⟨rfl, b1⟩
    go_wp2_with fail
    go_ret
    exact ⟨rfl, btrans e0_0 b1⟩
  exact core s0 A0 c0 l0 w h0 hl0 (Lib.hid (fun B0 d0 W k0 => specForts_any s0 _ l0 W k0 hl0 hs0 ht0)) (Lib.hid (fun B0 d0 W k0 => implForts_any s0 _ l0 W k0 hl0)) (fts_bound s0 l0)

theorem own : ownKnob Try.prog.godebug = none := by kernel_rfl
theorem laidOut : laidOutB Try.prog = true := by kernel_rfl

set_option maxHeartbeats 1000000 in
set_option maxRecDepth 100000 in
theorem lifted (os : Os) (started : os.Started) (H : Type) (enc : TypeId × Value → H) :
    ReturnsInHanded {} Try.checked os 10 .any (Rows.fnExactFortsOfSpec.pre6 enc Try.prog Try.f10 Rows.fnExactFortsOfRow.domain false) (Rows.fnExactFortsOfSpec.post enc Try.prog Try.f10 false true false false) := by
  refine returnsInHanded_of_change (C := Try.checked) own started (by kernel_rfl) Try.func10
    (ChangeSpec.witness6 (enc := enc) (C := Try.checked) false ⟨#[], #[.agg #[.int .i64 0, .slice none 0 0]], []⟩ 8 (by kernel_rfl) (by kernel_rfl) (by kernel_rfl) (by kernel_rfl)) ?_
  intro W base args ds gs before hval0 hW hcnd _
  have hval : ∀ (j : Nat) t v, Try.f10.params[j]? = some t → args[j]? = some v → Value.okWide Try.prog W .any base t v := hval0
  have hW' := hW
  obtain ⟨p, q, hA0, hV, rfl, hfz, hnd⟩ := hW
  have hA : DataW.TrodAll enc Try.prog W 0 (fun _ => true) true Try.f10.params.toList args.toList ds p := hA0
  rw [Try.params10] at hA hval
  obtain ⟨v0, vs0, d0, ds0, p0, q0, hargs, rfl, rfl, h0, r0⟩ := trodAll_cons hA
  obtain ⟨rfl, rfl, rfl⟩ := trodAll_nil r0
  obtain rfl : args = #[v0] := by cases args; simp_all
  obtain ⟨rfl, rfl⟩ := trodVars_none hV
  have k0 := h0
  have lt0 : ∀ x ∈ p0, x.block < W.heap.size := by obtain ⟨m, hm⟩ := k0; exact DataW.trod_lt m _ _ _ hm
  obtain ⟨s0, u0, l0, rfl, w0⟩ := opens.open_graph (hval 0 24 v0 rfl rfl) h0
  clear hA0 hval0
  refine (walk s0 u0 l0 W w0).mono fun e W' ⟨he, bel⟩ => ?_
  subst he
  exact ⟨_, rfl, _, _, _, [], _, [], hW', trodAll_mk1 (shut_bool Try.underlying4 _), (trodAll_cons_mk (Below.trod laidOut (by kernel_rfl) (of_decide_eq_true (by kernel_rfl)) k0 bel lt0) trodAll_mk0), rfl, bel.frame _, fun h => by cases h⟩

theorem over : Rows.fnExactFortsOfRow.holds Try.pinned (OpenSpec.ofChange Rows.fnExactFortsOfSpec) :=
  OpenClaim.holds_of_wide 10 Try.f10 rfl rfl rfl rfl rfl rfl rfl ⟨rfl, rfl, rfl, rfl, rfl⟩ rfl rfl rfl rfl rfl (by kernel_rfl) Try.func10 (by kernel_rfl)
    (of_decide_eq_true (by kernel_rfl)) (by unfold Func.isWrapper; first | (rw [if_pos (by decide +kernel)]; kernel_rfl) | (rw [if_neg (by decide +kernel)]; exact ⟨rfl, rfl⟩))
    (fun os started H enc _ => lifted os started H enc)

theorem fnExactFortsOf_holds : Rows.FnExactFortsOfSaid := over
end Go.Proofs.Ytfphpilabfpmjaa.exFts
