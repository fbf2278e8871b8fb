/- Guards: the contracts of the model's l10Dominates, IsDominating and LeastDominating. -/
import Derived.Handy
import Derived.Test.YtdhbaegkogklgaaK16
import Derived.Test.YtdhbaegkogklgaaK01
import Derived.Deep.DeepCutAuto
import Derived.Deep.RegionHeld3
import Derived.Deep.QuietTactic
import Derived.Test.YtdhbaegkogklgaaK14
import Derived.Test.YtdhbaegkogklgaaK11
import Derived.Test.YtdhbaegkogklgaaK10
import Derived.Test.YtdhbaegkogklgaaK03
import Derived.Test.YtdhbaegkogklgaaK02
import Derived.Test.YtdhbaegkogklgaaK05
import Derived.Maps.AppendAt
import Derived.Test.YtdhbaegkogklgaaK06
namespace Go.Proofs.Ytdhbaegkogklgaa.ups
open Go.RowKit P2 words edges ints good adjs fns sets rets covs bags balls bitsI func
set_option linter.unusedVariables false

theorem rises_set {n : Nat} {l : List Ed} {xs : List Int} (hg : P2.Good (n : Int) l) : RisesIn xs 0 ((n : Int) - 1) ↔ SetOk (n : Int) l xs :=
  ⟨fun h => ⟨hg, fun x hx => by have := h.1 x hx; omega, h.2⟩, fun h => ⟨fun x hx => by have := h.2.1 x hx; omega, h.2.2⟩⟩
end Go.Proofs.Ytdhbaegkogklgaa.ups

/- Clique covers: the contracts of the program's and the model's IsCliqueCover. -/
namespace Go.Proofs.Ytdhbaegkogklgaa.ups
open Go.RowKit P2 words edges ints owns good adjs fns sets rets covs bags balls bitsI func costs gridr
set_option linter.unusedVariables false

set_option maxHeartbeats 8000000 in
set_option maxRecDepth 100000 in
theorem l10Cover_any (n : Nat) (v : Value) (A2 : Option Addr) (c2 : Nat) (us : List Value) (q : List (List Int)) (l : List Ed) (w : World) (h : Edges w v l) (hl : l.length ≤ 1048576) (ht : ReadsG w (.slice A2 q.length c2) us q) (hql : q.length ≤ 1048576) (hqr : ∀ r ∈ q, r.length ≤ 1048576) (hg : P2.Good (n : Int) l) (hn : n ≤ 8) :
    Calls Try.prog 35 #[.agg #[.int .i64 (n : Int), v], .slice A2 q.length c2] w fun e w' => e = .returned (.bool (okG (CvP n l q))) ∧ Below w.heap.size w w' := by
  obtain ⟨A, c, rfl, -⟩ := h.form
  obtain ⟨i0, hi, hz0, hz1, hz2⟩ := info_parts infoInt
  have H := Lib.hid h
  have HT := Lib.hid ht
  have HB0 : Hid (Below w.heap.size w ((w.alloc (.cells #[.int .i64 (n : Int), .slice A l.length c] 30)).alloc (.cells #[] 3))) := ((Below.refl _ _).alloc (Nat.le_refl _) _).alloc (by simp) _
  have HG0 := Lib.hid ((Blk.new w 30 #[.int .i64 (n : Int), .slice A l.length c]).alloc (.cells #[] 3))
  have o0 := own_new0 (w.alloc (.cells #[.int .i64 (n : Int), .slice A l.length c] 30)) 3 1
  rw [World.size_alloc] at o0
  have HO0 := Lib.hid (own_base (B' := w.heap.size) o0 (by omega))
  have HST := Lib.hid (fun (xs : List Int) (u : Value) (W : World) (hu : Ints W u xs) (hx : xs.length ≤ 1048576) => l2Set_any (n : Int) (.slice A l.length c) u l xs W hu hx (by omega) (by omega))
  have HRS : Hid (∀ xs, RisesIn xs 0 ((n : Int) - 1) ↔ SetOk (n : Int) l xs) := fun xs => rises_set hg
  have HAL := Lib.hid (fun (xs : List Int) (u : Value) (W : World) (hW : Below w.heap.size w W) (hu : Ints W u xs) (hx : xs.length ≤ 1048576) => l10Alike_any (n : Int) (.slice A l.length c) u l xs true W (H.out.below hW) hl hu hx)
  have HHS := Lib.hid (fun (xs : List Int) (x : Int) (u : Value) (W : World) (hu : Ints W u xs) (hx : xs.length ≤ 1048576) => l1Has_any u xs x W hu hx)
  have HCL : Hid (∀ xs, SetOk (n : Int) l xs → okG (AlkL l xs true) = clqC n l (codeL xs)) := fun xs hso => by
    have h1 : xs = nw (bitB (codeL xs)) n := by
      refine asc_ext hso.2.2 (nw_asc _ _) fun x => ?_
      rw [mem_nw]
      constructor
      · intro hx
        have := hso.2.1 x hx
        refine ⟨x.toNat, by omega, ?_, by omega⟩
        unfold bitB
        rw [code_bit (fun z hz => (hso.2.1 z hz).1), Int.toNat_of_nonneg this.1, decide_eq_true hx]
      · rintro ⟨j, hj, hp, rfl⟩
        unfold bitB at hp
        rw [code_bit (fun z hz => (hso.2.1 z hz).1)] at hp
        exact of_decide_eq_true hp
    have h2 : okG (AlkL l xs true) = okG (ClqL l xs) := by rw [Bool.eq_iff_iff, okG_iff, okG_iff]; exact alk_clq
    rw [h2]
    unfold clqC
    rw [← clq_nw, ← h1]
  clear h ht hg o0
  go_enter Try.func35, Try.ntmps35
  go_wp2_with fail
  go_loopg [5, 6] q.length (fun g sv iv wr => ∃ (k : Nat) (sw : Value) (S : List Int), sw = sv ∧ k + g = q.length ∧ iv = .int .i64 (k : Int) ∧ Hid (CvK n l q k ∧ SeenOk n (cvN q k) S) ∧ wr.ownsRow w.heap.size 3 1 sw S.length (cellsI S) ∧ Blk wr w.heap.size 30 #[.int .i64 (n : Int), .slice A l.length c] ∧ Below w.heap.size w wr)
  case atStart => exact ⟨0, _, [], rfl, by omega, rfl, ⟨CvK.zero n l q, SeenOk.nil n⟩, HO0.out, HG0.out, HB0.out⟩
  case round =>
    clear HO0 HG0 HB0
    obtain ⟨k, sw, S, rfl, hkg, rfl, hck, hrow, hgb, hB⟩ := hrel
    obtain ⟨A4, c4, rfl⟩ := own_form hrow
    obtain ⟨p0, p1, -, -⟩ := hgb.two
    have HB := Lib.hid hB
    have HG := Lib.hid hgb
    have HR := Lib.hid hrow
    have hcl := cvN_lt (by omega) hck.out.1
    have hsl := hck.out.2.2
    have ho8 := ones_le (cvN q k)
    cases gk with
    | zero =>
      obtain rfl : k = q.length := by omega
      have HV : Hid (okG (CvP n l q) = (S.length == n)) := by
        show _ = _
        rw [Bool.eq_iff_iff, okG_iff, beq_iff_eq, hck.out.2.2, full_ones hn hcl]
        exact ⟨fun h => h.2, fun h => ⟨hck.out.1, h⟩⟩
      clear hcl hsl hrow hgb hB
      generalize S.length = sl at *
      have hbq := beq_castC sl n
      go_wp2_with fail
      go_ret
      exact ⟨ret_bool (by first | exact HV.out.symm | (rw [HV.out]; first | rfl | exact hbq)), HB.out⟩
    | succ g2 =>
      have hlt : k < q.length := by omega
      have hlt' : (k : Int) < (q.length : Int) := by omega
      obtain ⟨xs, hxs⟩ : ∃ xs, q[k]? = some xs := ⟨_, List.getElem?_eq_getElem hlt⟩
      have hxl := hqr xs (List.mem_of_getElem? hxs)
      obtain ⟨u, g5, o5, hu5, hA5, c5w, huw⟩ := HT.out.row hxs
      subst hA5
      obtain ⟨Ax, cx, rfl, -⟩ := huw.form
      have c5 := nearv.cell_keep c5w hB
      have hu := huw.below hB
      have HC5W := Lib.hid c5w
      have HUW := Lib.hid huw
      clear c5w huw
      have HNO : Hid (¬ CvS n l (cvN q k) xs → okG (CvP n l q) = false) := fun h1 => okG_no (cvP_no hxs h1)
      have HU := Lib.hid hu
      have HS1 := Lib.hid (HST.out xs (.slice Ax xs.length cx) wr.drew (hu.below (Below.refl _ _).drew) hxl)
      by_cases hso : SetOk (n : Int) l xs
      · rw [okG_yes ((HRS.out xs).2 hso)] at HS1
        by_cases hx0 : xs = []
        · have HF := Lib.hid (HNO.out fun h1 => h1.1.2 hx0)
          subst hx0
          rw [List.length_nil] at HS1 c5
          clear hso hcl hu hu5 hxs hrow hB hck hgb hsl hxl HU
          go_wp2_with fail
          refine wp_region_held_drew (S := (fun w' : World => w'.cell? ⟨w.heap.size, 0, none⟩ = some (.int .i64 (n : Int)) ∧ w'.cell? ⟨w.heap.size, 1, none⟩ = some (.slice A l.length c) ∧ w'.cell? ⟨g5, o5 + k, none⟩ = some (.slice Ax 0 cx))) (by kernel_rfl) (by (try dsimp only); simp [*]) (fun hHeld => ?_)
          change wpAnyH _ _ _ _ _ _ #[false, false, false, false, false, false, false, false, false, false, false, false, false, false, false, false, false, false, false, false, false, false, false, false] _ _
          refine wpAnyH_take (i := 0) (oi := ⟨some 15, _, _, _, _, _⟩) (v := ?_) rfl (by kernel_rfl) (by kernel_rfl) (by kernel_rfl) (fun _ _ _ h => h) (Or.inl ⟨by rfl, ?_⟩) (by assumption) ?_
          rotate_left
          · (intro w hSw; (try dsimp only at hSw); go_simp; (try (with_reducible rfl)))
          try simp only [Act.put, List.setIfInBounds_toArray, List.set_cons_zero, List.set_cons_succ]
          refine wpAnyH_take (i := 1) (oi := ⟨some 16, _, _, _, _, _⟩) (v := ?_) rfl (by kernel_rfl) (by kernel_rfl) (by kernel_rfl) (fun _ _ _ h => h) (Or.inl ⟨by rfl, ?_⟩) (by assumption) ?_
          rotate_left
          · (intro w hSw; (try dsimp only at hSw); go_simp; (try (with_reducible rfl)))
          try simp only [Act.put, List.setIfInBounds_toArray, List.set_cons_zero, List.set_cons_succ]
          refine wpAnyH_take (i := 2) (oi := ⟨some 17, _, _, _, _, _⟩) (v := ?_) rfl (by kernel_rfl) (by kernel_rfl) (by kernel_rfl) (fun _ _ _ h => h) (Or.inl ⟨by rfl, ?_⟩) (by assumption) ?_
          rotate_left
          · (intro w hSw; (try dsimp only at hSw); go_simp; (try (with_reducible rfl)))
          try simp only [Act.put, List.setIfInBounds_toArray, List.set_cons_zero, List.set_cons_succ]
          refine wpAnyH_take (i := 3) (oi := ⟨some 18, _, _, _, _, _⟩) (v := ?_) rfl (by kernel_rfl) (by kernel_rfl) (by kernel_rfl) (fun _ _ _ h => h) (Or.inl ⟨by rfl, ?_⟩) (by assumption) ?_
          rotate_left
          · (intro w hSw; (try dsimp only at hSw); go_simp; (try (with_reducible rfl)))
          try simp only [Act.put, List.setIfInBounds_toArray, List.set_cons_zero, List.set_cons_succ]
          refine wpAnyH_take (i := 4) (oi := ⟨some 19, _, _, _, _, _⟩) (v := ?_) rfl (by kernel_rfl) (by kernel_rfl) (by kernel_rfl) (fun _ _ _ h => h) (Or.inl ⟨by rfl, ?_⟩) (by assumption) ?_
          rotate_left
          · (intro w hSw; (try dsimp only at hSw); go_simp; (try (with_reducible rfl)))
          try simp only [Act.put, List.setIfInBounds_toArray, List.set_cons_zero, List.set_cons_succ]
          refine wpAnyH_ready (rs := [5]) (by kernel_rfl) (by simp) ?_
          refine AllReadyH.cons (o := ⟨some 20, _, _, _, _, _⟩) rfl (fun K hK => ?_) AllReadyH.nil
          go_simp
          (with_reducible refine HS1.out.mono ?_); rintro e w4 ⟨rfl, b4⟩; have d4 : Below wr.heap.size wr w4 := btrans (Below.refl _ _).drew b4; obtain ⟨k0, k1, -, -⟩ := (HG.out.below d4 HG.out.lt).two; have k2 := nearv.cell_keep c5 d4
          go_wp2_with fail
          refine hK.out _ _ (by (try dsimp only); simp [*]) (fun hHeld => ?_)
          clear hK K
          try simp only [List.setIfInBounds_toArray, List.set_cons_zero, List.set_cons_succ]
          refine wpAnyH_take (i := 6) (oi := ⟨some 21, _, _, _, _, _⟩) (v := ?_) rfl (by kernel_rfl) (by kernel_rfl) (by kernel_rfl) (fun _ _ _ h => h) (Or.inl ⟨by rfl, ?_⟩) (by assumption) ?_
          rotate_left
          · (intro w hSw; (try dsimp only at hSw); go_simp; (try (with_reducible rfl)))
          try simp only [Act.put, List.setIfInBounds_toArray, List.set_cons_zero, List.set_cons_succ]
          refine wpAnyH_take (i := 7) (oi := ⟨some 22, _, _, _, _, _⟩) (v := ?_) rfl (by kernel_rfl) (by kernel_rfl) (by kernel_rfl) (fun _ _ _ h => h) (Or.inl ⟨by rfl, ?_⟩) (by assumption) ?_
          rotate_left
          · (intro w hSw; (try dsimp only at hSw); go_simp; (try (with_reducible rfl)))
          try simp only [Act.put, List.setIfInBounds_toArray, List.set_cons_zero, List.set_cons_succ]
          refine wpAnyH_take (i := 8) (oi := ⟨some 23, _, _, _, _, _⟩) (v := ?_) rfl (by kernel_rfl) (by kernel_rfl) (by kernel_rfl) (fun _ _ _ h => h) (Or.inl ⟨by rfl, ?_⟩) (by assumption) ?_
          rotate_left
          · (intro w hSw; (try dsimp only at hSw); go_simp; (try (with_reducible rfl)))
          try simp only [Act.put, List.setIfInBounds_toArray, List.set_cons_zero, List.set_cons_succ]
          refine wpAnyH_take (i := 9) (oi := ⟨some 24, _, _, _, _, _⟩) (v := ?_) rfl (by kernel_rfl) (by kernel_rfl) (by kernel_rfl) (fun _ _ _ h => h) (Or.inl ⟨by rfl, ?_⟩) (by assumption) ?_
          rotate_left
          · (intro w hSw; (try dsimp only at hSw); go_simp; (try (with_reducible rfl)))
          try simp only [Act.put, List.setIfInBounds_toArray, List.set_cons_zero, List.set_cons_succ]
          refine wpAnyH_take (i := 10) (oi := ⟨some 25, _, _, _, _, _⟩) (v := ?_) rfl (by kernel_rfl) (by kernel_rfl) (by kernel_rfl) (fun _ _ _ h => h) (Or.inl ⟨by rfl, ?_⟩) (by assumption) ?_
          rotate_left
          · (intro w hSw; (try dsimp only at hSw); go_simp; (try (with_reducible rfl)))
          try simp only [Act.put, List.setIfInBounds_toArray, List.set_cons_zero, List.set_cons_succ]
          refine wpAnyH_take (i := 11) (oi := ⟨some 26, _, _, _, _, _⟩) (v := ?_) rfl (by kernel_rfl) (by kernel_rfl) (by kernel_rfl) (fun _ _ _ h => h) (Or.inl ⟨by rfl, ?_⟩) (by assumption) ?_
          rotate_left
          · (intro w hSw; (try dsimp only at hSw); go_simp; (try (with_reducible rfl)))
          try simp only [Act.put, List.setIfInBounds_toArray, List.set_cons_zero, List.set_cons_succ]
          refine wpAnyH_take (i := 12) (oi := ⟨some 27, _, _, _, _, _⟩) (v := ?_) rfl (by kernel_rfl) (by kernel_rfl) (by kernel_rfl) (fun _ _ _ h => h) (Or.inl ⟨by rfl, ?_⟩) (by assumption) ?_
          rotate_left
          · (intro w hSw; (try dsimp only at hSw); go_simp; (try (with_reducible rfl)))
          try simp only [Act.put, List.setIfInBounds_toArray, List.set_cons_zero, List.set_cons_succ]
          refine wpAnyH_take (i := 13) (oi := ⟨some 28, _, _, _, _, _⟩) (v := ?_) rfl (by kernel_rfl) (by kernel_rfl) (by kernel_rfl) (fun _ _ _ h => h) (Or.inl ⟨by rfl, ?_⟩) (by assumption) ?_
          rotate_left
          · (intro w hSw; (try dsimp only at hSw); go_simp; (try (with_reducible rfl)))
          try simp only [Act.put, List.setIfInBounds_toArray, List.set_cons_zero, List.set_cons_succ]
          refine wpAnyH_take (i := 14) (oi := ⟨some 29, _, _, _, _, _⟩) (v := ?_) rfl (by kernel_rfl) (by kernel_rfl) (by kernel_rfl) (fun _ _ _ h => h) (Or.inl ⟨by rfl, ?_⟩) (by assumption) ?_
          rotate_left
          · (intro w hSw; (try dsimp only at hSw); go_simp; (try (with_reducible rfl)))
          try simp only [Act.put, List.setIfInBounds_toArray, List.set_cons_zero, List.set_cons_succ]
          refine wpAnyH_take (i := 15) (oi := ⟨some 30, _, _, _, _, _⟩) (v := ?_) rfl (by kernel_rfl) (by kernel_rfl) (by kernel_rfl) (fun _ _ _ h => h) (Or.inl ⟨by rfl, ?_⟩) (by assumption) ?_
          rotate_left
          · (intro w hSw; (try dsimp only at hSw); go_simp; (try (with_reducible rfl)))
          try simp only [Act.put, List.setIfInBounds_toArray, List.set_cons_zero, List.set_cons_succ]
          refine wpAnyH_take (i := 16) (oi := ⟨some 31, _, _, _, _, _⟩) (v := undef) rfl (by kernel_rfl) (by kernel_rfl) (by kernel_rfl) (fun _ _ _ h => h) (Or.inr ⟨by rfl, rfl⟩) (by assumption) ?_
          try simp only [Act.put, List.setIfInBounds_toArray, List.set_cons_zero, List.set_cons_succ]
          refine wpAnyH_take (i := 17) (oi := ⟨some 32, _, _, _, _, _⟩) (v := undef) rfl (by kernel_rfl) (by kernel_rfl) (by kernel_rfl) (fun _ _ _ h => h) (Or.inr ⟨by rfl, rfl⟩) (by assumption) ?_
          try simp only [Act.put, List.setIfInBounds_toArray, List.set_cons_zero, List.set_cons_succ]
          refine wpAnyH_take (i := 18) (oi := ⟨some 33, _, _, _, _, _⟩) (v := undef) rfl (by kernel_rfl) (by kernel_rfl) (by kernel_rfl) (fun _ _ _ h => h) (Or.inr ⟨by rfl, rfl⟩) (by assumption) ?_
          try simp only [Act.put, List.setIfInBounds_toArray, List.set_cons_zero, List.set_cons_succ]
          refine wpAnyH_take (i := 19) (oi := ⟨some 34, _, _, _, _, _⟩) (v := undef) rfl (by kernel_rfl) (by kernel_rfl) (by kernel_rfl) (fun _ _ _ h => h) (Or.inr ⟨by rfl, rfl⟩) (by assumption) ?_
          try simp only [Act.put, List.setIfInBounds_toArray, List.set_cons_zero, List.set_cons_succ]
          refine wpAnyH_take (i := 20) (oi := ⟨some 35, _, _, _, _, _⟩) (v := undef) rfl (by kernel_rfl) (by kernel_rfl) (by kernel_rfl) (fun _ _ _ h => h) (Or.inr ⟨by rfl, rfl⟩) (by assumption) ?_
          try simp only [Act.put, List.setIfInBounds_toArray, List.set_cons_zero, List.set_cons_succ]
          refine wpAnyH_take (i := 21) (oi := ⟨some 36, _, _, _, _, _⟩) (v := undef) rfl (by kernel_rfl) (by kernel_rfl) (by kernel_rfl) (fun _ _ _ h => h) (Or.inr ⟨by rfl, rfl⟩) (by assumption) ?_
          try simp only [Act.put, List.setIfInBounds_toArray, List.set_cons_zero, List.set_cons_succ]
          refine wpAnyH_take (i := 22) (oi := ⟨some 37, _, _, _, _, _⟩) (v := undef) rfl (by kernel_rfl) (by kernel_rfl) (by kernel_rfl) (fun _ _ _ h => h) (Or.inr ⟨by rfl, rfl⟩) (by assumption) ?_
          try simp only [Act.put, List.setIfInBounds_toArray, List.set_cons_zero, List.set_cons_succ]
          refine wpAnyH_take (i := 23) (oi := ⟨some 38, _, _, _, _, _⟩) (v := ?_) rfl (by kernel_rfl) (by kernel_rfl) (by kernel_rfl) (fun _ _ _ h => h) (Or.inl ⟨by rfl, ?_⟩) (by assumption) ?_
          rotate_left
          · (intro w hSw; (try dsimp only at hSw); go_simp; (try (with_reducible rfl)))
          try simp only [Act.put, List.setIfInBounds_toArray, List.set_cons_zero, List.set_cons_succ]
          refine wpAnyH_done (by kernel_rfl) ?_ _
          go_wp2_with fail
          go_ret
          rw [HF.out]
          exact ⟨rfl, btrans HB.out d4⟩
        · have hq0 : ((xs.length : Int) == 0) = false := by
            rw [beq_eq_false_iff_ne]
            intro e
            exact hx0 (List.length_eq_zero_iff.1 (by omega))
          have HA1 := Lib.hid (fun (W : World) (hW : Below wr.heap.size wr W) => HAL.out xs (.slice Ax xs.length cx) W (btrans HB.out hW) (HU.out.below hW) hxl)
          rw [HCL.out xs hso] at HA1
          cases hcq : clqC n l (codeL xs) with
          | false =>
            have HF := Lib.hid (HNO.out fun h1 => by have := h1.2.2; rw [hcq] at this; cases this)
            rw [hcq] at HA1
            clear hso hcl hu hu5 hxs hrow hB hck hgb hsl hx0 hcq
            go_wp2_with fail
            refine wp_region_held_drew (S := (fun w' : World => w'.cell? ⟨w.heap.size, 0, none⟩ = some (.int .i64 (n : Int)) ∧ w'.cell? ⟨w.heap.size, 1, none⟩ = some (.slice A l.length c) ∧ w'.cell? ⟨g5, o5 + k, none⟩ = some (.slice Ax xs.length cx))) (by kernel_rfl) (by (try dsimp only); simp [*]) (fun hHeld => ?_)
            change wpAnyH _ _ _ _ _ _ #[false, false, false, false, false, false, false, false, false, false, false, false, false, false, false, false, false, false, false, false, false, false, false, false] _ _
            refine wpAnyH_take (i := 0) (oi := ⟨some 15, _, _, _, _, _⟩) (v := ?_) rfl (by kernel_rfl) (by kernel_rfl) (by kernel_rfl) (fun _ _ _ h => h) (Or.inl ⟨by rfl, ?_⟩) (by assumption) ?_
            rotate_left
            · (intro w hSw; (try dsimp only at hSw); go_simp; (try (with_reducible rfl)))
            try simp only [Act.put, List.setIfInBounds_toArray, List.set_cons_zero, List.set_cons_succ]
            refine wpAnyH_take (i := 1) (oi := ⟨some 16, _, _, _, _, _⟩) (v := ?_) rfl (by kernel_rfl) (by kernel_rfl) (by kernel_rfl) (fun _ _ _ h => h) (Or.inl ⟨by rfl, ?_⟩) (by assumption) ?_
            rotate_left
            · (intro w hSw; (try dsimp only at hSw); go_simp; (try (with_reducible rfl)))
            try simp only [Act.put, List.setIfInBounds_toArray, List.set_cons_zero, List.set_cons_succ]
            refine wpAnyH_take (i := 2) (oi := ⟨some 17, _, _, _, _, _⟩) (v := ?_) rfl (by kernel_rfl) (by kernel_rfl) (by kernel_rfl) (fun _ _ _ h => h) (Or.inl ⟨by rfl, ?_⟩) (by assumption) ?_
            rotate_left
            · (intro w hSw; (try dsimp only at hSw); go_simp; (try (with_reducible rfl)))
            try simp only [Act.put, List.setIfInBounds_toArray, List.set_cons_zero, List.set_cons_succ]
            refine wpAnyH_take (i := 3) (oi := ⟨some 18, _, _, _, _, _⟩) (v := ?_) rfl (by kernel_rfl) (by kernel_rfl) (by kernel_rfl) (fun _ _ _ h => h) (Or.inl ⟨by rfl, ?_⟩) (by assumption) ?_
            rotate_left
            · (intro w hSw; (try dsimp only at hSw); go_simp; (try (with_reducible rfl)))
            try simp only [Act.put, List.setIfInBounds_toArray, List.set_cons_zero, List.set_cons_succ]
            refine wpAnyH_take (i := 4) (oi := ⟨some 19, _, _, _, _, _⟩) (v := ?_) rfl (by kernel_rfl) (by kernel_rfl) (by kernel_rfl) (fun _ _ _ h => h) (Or.inl ⟨by rfl, ?_⟩) (by assumption) ?_
            rotate_left
            · (intro w hSw; (try dsimp only at hSw); go_simp; (try (with_reducible rfl)))
            try simp only [Act.put, List.setIfInBounds_toArray, List.set_cons_zero, List.set_cons_succ]
            refine wpAnyH_ready (rs := [5]) (by kernel_rfl) (by simp) ?_
            refine AllReadyH.cons (o := ⟨some 20, _, _, _, _, _⟩) rfl (fun K hK => ?_) AllReadyH.nil
            go_simp
            (with_reducible refine HS1.out.mono ?_); rintro e w4 ⟨rfl, b4⟩; have d4 : Below wr.heap.size wr w4 := btrans (Below.refl _ _).drew b4; obtain ⟨k0, k1, -, -⟩ := (HG.out.below d4 HG.out.lt).two; have k2 := nearv.cell_keep c5 d4
            go_wp2_with fail
            refine hK.out _ _ (by (try dsimp only); simp [*]) (fun hHeld => ?_)
            clear hK K
            try simp only [List.setIfInBounds_toArray, List.set_cons_zero, List.set_cons_succ]
            refine wpAnyH_take (i := 6) (oi := ⟨some 21, _, _, _, _, _⟩) (v := ?_) rfl (by kernel_rfl) (by kernel_rfl) (by kernel_rfl) (fun _ _ _ h => h) (Or.inl ⟨by rfl, ?_⟩) (by assumption) ?_
            rotate_left
            · (intro w hSw; (try dsimp only at hSw); go_simp; (try (with_reducible rfl)))
            try simp only [Act.put, List.setIfInBounds_toArray, List.set_cons_zero, List.set_cons_succ]
            refine wpAnyH_take (i := 7) (oi := ⟨some 22, _, _, _, _, _⟩) (v := ?_) rfl (by kernel_rfl) (by kernel_rfl) (by kernel_rfl) (fun _ _ _ h => h) (Or.inl ⟨by rfl, ?_⟩) (by assumption) ?_
            rotate_left
            · (intro w hSw; (try dsimp only at hSw); go_simp; (try (with_reducible rfl)))
            try simp only [Act.put, List.setIfInBounds_toArray, List.set_cons_zero, List.set_cons_succ]
            refine wpAnyH_take (i := 8) (oi := ⟨some 23, _, _, _, _, _⟩) (v := ?_) rfl (by kernel_rfl) (by kernel_rfl) (by kernel_rfl) (fun _ _ _ h => h) (Or.inl ⟨by rfl, ?_⟩) (by assumption) ?_
            rotate_left
            · (intro w hSw; (try dsimp only at hSw); go_simp; (try (with_reducible rfl)))
            try simp only [Act.put, List.setIfInBounds_toArray, List.set_cons_zero, List.set_cons_succ]
            refine wpAnyH_take (i := 9) (oi := ⟨some 24, _, _, _, _, _⟩) (v := ?_) rfl (by kernel_rfl) (by kernel_rfl) (by kernel_rfl) (fun _ _ _ h => h) (Or.inl ⟨by rfl, ?_⟩) (by assumption) ?_
            rotate_left
            · (intro w hSw; (try dsimp only at hSw); go_simp; (try (with_reducible rfl)))
            try simp only [Act.put, List.setIfInBounds_toArray, List.set_cons_zero, List.set_cons_succ]
            refine wpAnyH_take (i := 10) (oi := ⟨some 25, _, _, _, _, _⟩) (v := ?_) rfl (by kernel_rfl) (by kernel_rfl) (by kernel_rfl) (fun _ _ _ h => h) (Or.inl ⟨by rfl, ?_⟩) (by assumption) ?_
            rotate_left
            · (intro w hSw; (try dsimp only at hSw); go_simp; (try (with_reducible rfl)))
            try simp only [Act.put, List.setIfInBounds_toArray, List.set_cons_zero, List.set_cons_succ]
            refine wpAnyH_take (i := 11) (oi := ⟨some 26, _, _, _, _, _⟩) (v := ?_) rfl (by kernel_rfl) (by kernel_rfl) (by kernel_rfl) (fun _ _ _ h => h) (Or.inl ⟨by rfl, ?_⟩) (by assumption) ?_
            rotate_left
            · (intro w hSw; (try dsimp only at hSw); go_simp; (try (with_reducible rfl)))
            try simp only [Act.put, List.setIfInBounds_toArray, List.set_cons_zero, List.set_cons_succ]
            refine wpAnyH_take (i := 12) (oi := ⟨some 27, _, _, _, _, _⟩) (v := ?_) rfl (by kernel_rfl) (by kernel_rfl) (by kernel_rfl) (fun _ _ _ h => h) (Or.inl ⟨by rfl, ?_⟩) (by assumption) ?_
            rotate_left
            · (intro w hSw; (try dsimp only at hSw); go_simp; (try (with_reducible rfl)))
            try simp only [Act.put, List.setIfInBounds_toArray, List.set_cons_zero, List.set_cons_succ]
            refine wpAnyH_take (i := 13) (oi := ⟨some 28, _, _, _, _, _⟩) (v := ?_) rfl (by kernel_rfl) (by kernel_rfl) (by kernel_rfl) (fun _ _ _ h => h) (Or.inl ⟨by rfl, ?_⟩) (by assumption) ?_
            rotate_left
            · (intro w hSw; (try dsimp only at hSw); go_simp; (try (with_reducible rfl)))
            try simp only [Act.put, List.setIfInBounds_toArray, List.set_cons_zero, List.set_cons_succ]
            refine wpAnyH_take (i := 14) (oi := ⟨some 29, _, _, _, _, _⟩) (v := ?_) rfl (by kernel_rfl) (by kernel_rfl) (by kernel_rfl) (fun _ _ _ h => h) (Or.inl ⟨by rfl, ?_⟩) (by assumption) ?_
            rotate_left
            · (intro w hSw; (try dsimp only at hSw); go_simp; (try (with_reducible rfl)))
            try simp only [Act.put, List.setIfInBounds_toArray, List.set_cons_zero, List.set_cons_succ]
            refine wpAnyH_take (i := 15) (oi := ⟨some 30, _, _, _, _, _⟩) (v := ?_) rfl (by kernel_rfl) (by kernel_rfl) (by kernel_rfl) (fun _ _ _ h => h) (Or.inl ⟨by rfl, ?_⟩) (by assumption) ?_
            rotate_left
            · (intro w hSw; (try dsimp only at hSw); go_simp; (try (with_reducible rfl)))
            try simp only [Act.put, List.setIfInBounds_toArray, List.set_cons_zero, List.set_cons_succ]
            refine wpAnyH_take (i := 16) (oi := ⟨some 31, _, _, _, _, _⟩) (v := ?_) rfl (by kernel_rfl) (by kernel_rfl) (by kernel_rfl) (fun _ _ _ h => h) (Or.inl ⟨by rfl, ?_⟩) (by assumption) ?_
            rotate_left
            · (intro w hSw; (try dsimp only at hSw); go_simp; (try (with_reducible rfl)))
            try simp only [Act.put, List.setIfInBounds_toArray, List.set_cons_zero, List.set_cons_succ]
            refine wpAnyH_take (i := 17) (oi := ⟨some 32, _, _, _, _, _⟩) (v := ?_) rfl (by kernel_rfl) (by kernel_rfl) (by kernel_rfl) (fun _ _ _ h => h) (Or.inl ⟨by rfl, ?_⟩) (by assumption) ?_
            rotate_left
            · (intro w hSw; (try dsimp only at hSw); go_simp; (try (with_reducible rfl)))
            try simp only [Act.put, List.setIfInBounds_toArray, List.set_cons_zero, List.set_cons_succ]
            refine wpAnyH_take (i := 18) (oi := ⟨some 33, _, _, _, _, _⟩) (v := ?_) rfl (by kernel_rfl) (by kernel_rfl) (by kernel_rfl) (fun _ _ _ h => h) (Or.inl ⟨by rfl, ?_⟩) (by assumption) ?_
            rotate_left
            · (intro w hSw; (try dsimp only at hSw); go_simp; (try (with_reducible rfl)))
            try simp only [Act.put, List.setIfInBounds_toArray, List.set_cons_zero, List.set_cons_succ]
            refine wpAnyH_take (i := 19) (oi := ⟨some 34, _, _, _, _, _⟩) (v := ?_) rfl (by kernel_rfl) (by kernel_rfl) (by kernel_rfl) (fun _ _ _ h => h) (Or.inl ⟨by rfl, ?_⟩) (by assumption) ?_
            rotate_left
            · (intro w hSw; (try dsimp only at hSw); go_simp; (try (with_reducible rfl)))
            try simp only [Act.put, List.setIfInBounds_toArray, List.set_cons_zero, List.set_cons_succ]
            refine wpAnyH_take (i := 20) (oi := ⟨some 35, _, _, _, _, _⟩) (v := ?_) rfl (by kernel_rfl) (by kernel_rfl) (by kernel_rfl) (fun _ _ _ h => h) (Or.inl ⟨by rfl, ?_⟩) (by assumption) ?_
            rotate_left
            · (intro w hSw; (try dsimp only at hSw); go_simp; (try (with_reducible rfl)))
            try simp only [Act.put, List.setIfInBounds_toArray, List.set_cons_zero, List.set_cons_succ]
            refine wpAnyH_ready (rs := [21]) (by kernel_rfl) (by simp) ?_
            refine AllReadyH.cons (o := ⟨some 36, _, _, _, _, _⟩) rfl (fun K hK => ?_) AllReadyH.nil
            go_simp
            (with_reducible refine (HA1.out w4 d4).mono ?_); rintro e w5 ⟨rfl, b5⟩; have d5 : Below wr.heap.size wr w5 := btrans d4 b5; obtain ⟨i0_, i1_, -, -⟩ := (HG.out.below d5 HG.out.lt).two; have i2_ := nearv.cell_keep c5 d5
            go_wp2_with fail
            refine hK.out _ _ (by (try dsimp only); simp [*]) (fun hHeld => ?_)
            clear hK K
            try simp only [List.setIfInBounds_toArray, List.set_cons_zero, List.set_cons_succ]
            refine wpAnyH_take (i := 22) (oi := ⟨some 37, _, _, _, _, _⟩) (v := ?_) rfl (by kernel_rfl) (by kernel_rfl) (by kernel_rfl) (fun _ _ _ h => h) (Or.inl ⟨by rfl, ?_⟩) (by assumption) ?_
            rotate_left
            · (intro w hSw; (try dsimp only at hSw); go_simp; (try (with_reducible rfl)))
            try simp only [Act.put, List.setIfInBounds_toArray, List.set_cons_zero, List.set_cons_succ]
            refine wpAnyH_take (i := 23) (oi := ⟨some 38, _, _, _, _, _⟩) (v := ?_) rfl (by kernel_rfl) (by kernel_rfl) (by kernel_rfl) (fun _ _ _ h => h) (Or.inl ⟨by rfl, ?_⟩) (by assumption) ?_
            rotate_left
            · (intro w hSw; (try dsimp only at hSw); go_simp; (try (with_reducible rfl)))
            try simp only [Act.put, List.setIfInBounds_toArray, List.set_cons_zero, List.set_cons_succ]
            refine wpAnyH_done (by kernel_rfl) ?_ _
            go_wp2_with fail
            go_ret
            rw [HF.out]
            exact ⟨rfl, btrans HB.out d5⟩
          | true =>
            have HAZ : Hid (codeL xs &&& cvN q k = 0 ↔ ∀ x ∈ xs, (cvN q k).testBit x.toNat = false) := and_zero hso.2.1
            have HCS : Hid (codeL xs &&& cvN q k = 0 → CvS n l (cvN q k) xs) := fun h1 => ⟨⟨hso, hx0⟩, h1, hcq⟩
            have HCN : Hid (¬ codeL xs &&& cvN q k = 0 → okG (CvP n l q) = false) := fun h1 => HNO.out fun h2 => h1 h2.2.1
            have HADD : Hid (codeL xs &&& cvN q k = 0 → CvK n l q (k + 1) ∧ SeenOk n (cvN q (k + 1)) (S ++ xs)) := fun h1 => ⟨hck.out.1.next hxs (HCS.out h1), by rw [cvN_succ hxs]; exact hck.out.2.add hn hso h1⟩
            have HSH : Hid (∀ (j : Nat) (x : Int) (T : List Int), SeenK n (cvN q k) S xs j T → xs[j]? = some x → decide (x ∈ T) = (cvN q k).testBit x.toNat) := fun j x T h1 h2 => seen_has hck.out.2 hso.2.2 (hso.2.1 x (List.mem_of_getElem? h2)) h1 h2
            have HXL : Hid (xs.length ≤ 8) := Nat.le_trans (asc_len hso.2.2 hso.2.1) hn
            have HSL : Hid (S.length ≤ 8) := by show _ ≤ _; omega
            rw [hcq] at HA1
            clear hso hcl hu hu5 hrow hB hgb hsl hx0 hcq
            go_wp2_with fail
            refine wp_region_held_drew (S := (fun w' : World => w'.cell? ⟨w.heap.size, 0, none⟩ = some (.int .i64 (n : Int)) ∧ w'.cell? ⟨w.heap.size, 1, none⟩ = some (.slice A l.length c) ∧ w'.cell? ⟨g5, o5 + k, none⟩ = some (.slice Ax xs.length cx))) (by kernel_rfl) (by (try dsimp only); simp [*]) (fun hHeld => ?_)
            change wpAnyH _ _ _ _ _ _ #[false, false, false, false, false, false, false, false, false, false, false, false, false, false, false, false, false, false, false, false, false, false, false, false] _ _
            refine wpAnyH_take (i := 0) (oi := ⟨some 15, _, _, _, _, _⟩) (v := ?_) rfl (by kernel_rfl) (by kernel_rfl) (by kernel_rfl) (fun _ _ _ h => h) (Or.inl ⟨by rfl, ?_⟩) (by assumption) ?_
            rotate_left
            · (intro w hSw; (try dsimp only at hSw); go_simp; (try (with_reducible rfl)))
            try simp only [Act.put, List.setIfInBounds_toArray, List.set_cons_zero, List.set_cons_succ]
            refine wpAnyH_take (i := 1) (oi := ⟨some 16, _, _, _, _, _⟩) (v := ?_) rfl (by kernel_rfl) (by kernel_rfl) (by kernel_rfl) (fun _ _ _ h => h) (Or.inl ⟨by rfl, ?_⟩) (by assumption) ?_
            rotate_left
            · (intro w hSw; (try dsimp only at hSw); go_simp; (try (with_reducible rfl)))
            try simp only [Act.put, List.setIfInBounds_toArray, List.set_cons_zero, List.set_cons_succ]
            refine wpAnyH_take (i := 2) (oi := ⟨some 17, _, _, _, _, _⟩) (v := ?_) rfl (by kernel_rfl) (by kernel_rfl) (by kernel_rfl) (fun _ _ _ h => h) (Or.inl ⟨by rfl, ?_⟩) (by assumption) ?_
            rotate_left
            · (intro w hSw; (try dsimp only at hSw); go_simp; (try (with_reducible rfl)))
            try simp only [Act.put, List.setIfInBounds_toArray, List.set_cons_zero, List.set_cons_succ]
            refine wpAnyH_take (i := 3) (oi := ⟨some 18, _, _, _, _, _⟩) (v := ?_) rfl (by kernel_rfl) (by kernel_rfl) (by kernel_rfl) (fun _ _ _ h => h) (Or.inl ⟨by rfl, ?_⟩) (by assumption) ?_
            rotate_left
            · (intro w hSw; (try dsimp only at hSw); go_simp; (try (with_reducible rfl)))
            try simp only [Act.put, List.setIfInBounds_toArray, List.set_cons_zero, List.set_cons_succ]
            refine wpAnyH_take (i := 4) (oi := ⟨some 19, _, _, _, _, _⟩) (v := ?_) rfl (by kernel_rfl) (by kernel_rfl) (by kernel_rfl) (fun _ _ _ h => h) (Or.inl ⟨by rfl, ?_⟩) (by assumption) ?_
            rotate_left
            · (intro w hSw; (try dsimp only at hSw); go_simp; (try (with_reducible rfl)))
            try simp only [Act.put, List.setIfInBounds_toArray, List.set_cons_zero, List.set_cons_succ]
            refine wpAnyH_ready (rs := [5]) (by kernel_rfl) (by simp) ?_
            refine AllReadyH.cons (o := ⟨some 20, _, _, _, _, _⟩) rfl (fun K hK => ?_) AllReadyH.nil
            go_simp
            (with_reducible refine HS1.out.mono ?_); rintro e w4 ⟨rfl, b4⟩; have d4 : Below wr.heap.size wr w4 := btrans (Below.refl _ _).drew b4; obtain ⟨k0, k1, -, -⟩ := (HG.out.below d4 HG.out.lt).two; have k2 := nearv.cell_keep c5 d4
            go_wp2_with fail
            refine hK.out _ _ (by (try dsimp only); simp [*]) (fun hHeld => ?_)
            clear hK K
            try simp only [List.setIfInBounds_toArray, List.set_cons_zero, List.set_cons_succ]
            refine wpAnyH_take (i := 6) (oi := ⟨some 21, _, _, _, _, _⟩) (v := ?_) rfl (by kernel_rfl) (by kernel_rfl) (by kernel_rfl) (fun _ _ _ h => h) (Or.inl ⟨by rfl, ?_⟩) (by assumption) ?_
            rotate_left
            · (intro w hSw; (try dsimp only at hSw); go_simp; (try (with_reducible rfl)))
            try simp only [Act.put, List.setIfInBounds_toArray, List.set_cons_zero, List.set_cons_succ]
            refine wpAnyH_take (i := 7) (oi := ⟨some 22, _, _, _, _, _⟩) (v := ?_) rfl (by kernel_rfl) (by kernel_rfl) (by kernel_rfl) (fun _ _ _ h => h) (Or.inl ⟨by rfl, ?_⟩) (by assumption) ?_
            rotate_left
            · (intro w hSw; (try dsimp only at hSw); go_simp; (try (with_reducible rfl)))
            try simp only [Act.put, List.setIfInBounds_toArray, List.set_cons_zero, List.set_cons_succ]
            refine wpAnyH_take (i := 8) (oi := ⟨some 23, _, _, _, _, _⟩) (v := ?_) rfl (by kernel_rfl) (by kernel_rfl) (by kernel_rfl) (fun _ _ _ h => h) (Or.inl ⟨by rfl, ?_⟩) (by assumption) ?_
            rotate_left
            · (intro w hSw; (try dsimp only at hSw); go_simp; (try (with_reducible rfl)))
            try simp only [Act.put, List.setIfInBounds_toArray, List.set_cons_zero, List.set_cons_succ]
            refine wpAnyH_take (i := 9) (oi := ⟨some 24, _, _, _, _, _⟩) (v := ?_) rfl (by kernel_rfl) (by kernel_rfl) (by kernel_rfl) (fun _ _ _ h => h) (Or.inl ⟨by rfl, ?_⟩) (by assumption) ?_
            rotate_left
            · (intro w hSw; (try dsimp only at hSw); go_simp; (try (with_reducible rfl)))
            try simp only [Act.put, List.setIfInBounds_toArray, List.set_cons_zero, List.set_cons_succ]
            refine wpAnyH_take (i := 10) (oi := ⟨some 25, _, _, _, _, _⟩) (v := ?_) rfl (by kernel_rfl) (by kernel_rfl) (by kernel_rfl) (fun _ _ _ h => h) (Or.inl ⟨by rfl, ?_⟩) (by assumption) ?_
            rotate_left
            · (intro w hSw; (try dsimp only at hSw); go_simp; (try (with_reducible rfl)))
            try simp only [Act.put, List.setIfInBounds_toArray, List.set_cons_zero, List.set_cons_succ]
            refine wpAnyH_take (i := 11) (oi := ⟨some 26, _, _, _, _, _⟩) (v := ?_) rfl (by kernel_rfl) (by kernel_rfl) (by kernel_rfl) (fun _ _ _ h => h) (Or.inl ⟨by rfl, ?_⟩) (by assumption) ?_
            rotate_left
            · (intro w hSw; (try dsimp only at hSw); go_simp; (try (with_reducible rfl)))
            try simp only [Act.put, List.setIfInBounds_toArray, List.set_cons_zero, List.set_cons_succ]
            refine wpAnyH_take (i := 12) (oi := ⟨some 27, _, _, _, _, _⟩) (v := ?_) rfl (by kernel_rfl) (by kernel_rfl) (by kernel_rfl) (fun _ _ _ h => h) (Or.inl ⟨by rfl, ?_⟩) (by assumption) ?_
            rotate_left
            · (intro w hSw; (try dsimp only at hSw); go_simp; (try (with_reducible rfl)))
            try simp only [Act.put, List.setIfInBounds_toArray, List.set_cons_zero, List.set_cons_succ]
            refine wpAnyH_take (i := 13) (oi := ⟨some 28, _, _, _, _, _⟩) (v := ?_) rfl (by kernel_rfl) (by kernel_rfl) (by kernel_rfl) (fun _ _ _ h => h) (Or.inl ⟨by rfl, ?_⟩) (by assumption) ?_
            rotate_left
            · (intro w hSw; (try dsimp only at hSw); go_simp; (try (with_reducible rfl)))
            try simp only [Act.put, List.setIfInBounds_toArray, List.set_cons_zero, List.set_cons_succ]
            refine wpAnyH_take (i := 14) (oi := ⟨some 29, _, _, _, _, _⟩) (v := ?_) rfl (by kernel_rfl) (by kernel_rfl) (by kernel_rfl) (fun _ _ _ h => h) (Or.inl ⟨by rfl, ?_⟩) (by assumption) ?_
            rotate_left
            · (intro w hSw; (try dsimp only at hSw); go_simp; (try (with_reducible rfl)))
            try simp only [Act.put, List.setIfInBounds_toArray, List.set_cons_zero, List.set_cons_succ]
            refine wpAnyH_take (i := 15) (oi := ⟨some 30, _, _, _, _, _⟩) (v := ?_) rfl (by kernel_rfl) (by kernel_rfl) (by kernel_rfl) (fun _ _ _ h => h) (Or.inl ⟨by rfl, ?_⟩) (by assumption) ?_
            rotate_left
            · (intro w hSw; (try dsimp only at hSw); go_simp; (try (with_reducible rfl)))
            try simp only [Act.put, List.setIfInBounds_toArray, List.set_cons_zero, List.set_cons_succ]
            refine wpAnyH_take (i := 16) (oi := ⟨some 31, _, _, _, _, _⟩) (v := ?_) rfl (by kernel_rfl) (by kernel_rfl) (by kernel_rfl) (fun _ _ _ h => h) (Or.inl ⟨by rfl, ?_⟩) (by assumption) ?_
            rotate_left
            · (intro w hSw; (try dsimp only at hSw); go_simp; (try (with_reducible rfl)))
            try simp only [Act.put, List.setIfInBounds_toArray, List.set_cons_zero, List.set_cons_succ]
            refine wpAnyH_take (i := 17) (oi := ⟨some 32, _, _, _, _, _⟩) (v := ?_) rfl (by kernel_rfl) (by kernel_rfl) (by kernel_rfl) (fun _ _ _ h => h) (Or.inl ⟨by rfl, ?_⟩) (by assumption) ?_
            rotate_left
            · (intro w hSw; (try dsimp only at hSw); go_simp; (try (with_reducible rfl)))
            try simp only [Act.put, List.setIfInBounds_toArray, List.set_cons_zero, List.set_cons_succ]
            refine wpAnyH_take (i := 18) (oi := ⟨some 33, _, _, _, _, _⟩) (v := ?_) rfl (by kernel_rfl) (by kernel_rfl) (by kernel_rfl) (fun _ _ _ h => h) (Or.inl ⟨by rfl, ?_⟩) (by assumption) ?_
            rotate_left
            · (intro w hSw; (try dsimp only at hSw); go_simp; (try (with_reducible rfl)))
            try simp only [Act.put, List.setIfInBounds_toArray, List.set_cons_zero, List.set_cons_succ]
            refine wpAnyH_take (i := 19) (oi := ⟨some 34, _, _, _, _, _⟩) (v := ?_) rfl (by kernel_rfl) (by kernel_rfl) (by kernel_rfl) (fun _ _ _ h => h) (Or.inl ⟨by rfl, ?_⟩) (by assumption) ?_
            rotate_left
            · (intro w hSw; (try dsimp only at hSw); go_simp; (try (with_reducible rfl)))
            try simp only [Act.put, List.setIfInBounds_toArray, List.set_cons_zero, List.set_cons_succ]
            refine wpAnyH_take (i := 20) (oi := ⟨some 35, _, _, _, _, _⟩) (v := ?_) rfl (by kernel_rfl) (by kernel_rfl) (by kernel_rfl) (fun _ _ _ h => h) (Or.inl ⟨by rfl, ?_⟩) (by assumption) ?_
            rotate_left
            · (intro w hSw; (try dsimp only at hSw); go_simp; (try (with_reducible rfl)))
            try simp only [Act.put, List.setIfInBounds_toArray, List.set_cons_zero, List.set_cons_succ]
            refine wpAnyH_ready (rs := [21]) (by kernel_rfl) (by simp) ?_
            refine AllReadyH.cons (o := ⟨some 36, _, _, _, _, _⟩) rfl (fun K hK => ?_) AllReadyH.nil
            go_simp
            (with_reducible refine (HA1.out w4 d4).mono ?_); rintro e w5 ⟨rfl, b5⟩; have d5 : Below wr.heap.size wr w5 := btrans d4 b5; obtain ⟨i0_, i1_, -, -⟩ := (HG.out.below d5 HG.out.lt).two; have i2_ := nearv.cell_keep c5 d5
            go_wp2_with fail
            refine hK.out _ _ (by (try dsimp only); simp [*]) (fun hHeld => ?_)
            clear hK K
            try simp only [List.setIfInBounds_toArray, List.set_cons_zero, List.set_cons_succ]
            refine wpAnyH_take (i := 22) (oi := ⟨some 37, _, _, _, _, _⟩) (v := ?_) rfl (by kernel_rfl) (by kernel_rfl) (by kernel_rfl) (fun _ _ _ h => h) (Or.inl ⟨by rfl, ?_⟩) (by assumption) ?_
            rotate_left
            · (intro w hSw; (try dsimp only at hSw); go_simp; (try (with_reducible rfl)))
            try simp only [Act.put, List.setIfInBounds_toArray, List.set_cons_zero, List.set_cons_succ]
            refine wpAnyH_take (i := 23) (oi := ⟨some 38, _, _, _, _, _⟩) (v := ?_) rfl (by kernel_rfl) (by kernel_rfl) (by kernel_rfl) (fun _ _ _ h => h) (Or.inl ⟨by rfl, ?_⟩) (by assumption) ?_
            rotate_left
            · (intro w hSw; (try dsimp only at hSw); go_simp; (try (with_reducible rfl)))
            try simp only [Act.put, List.setIfInBounds_toArray, List.set_cons_zero, List.set_cons_succ]
            refine wpAnyH_done (by kernel_rfl) ?_ _
            have HB5 := Lib.hid (btrans HB.out d5)
            have HG5 := Lib.hid (HG.out.below d5 HG.out.lt)
            have HR5 := Lib.hid (own_below HR.out d5)
            have HU5 := Lib.hid (HU.out.below d5)
            have HD5 := Lib.hid d5
            have HC5 := Lib.hid c5
            clear d4 d5 b4 b5 k0 k1 k2 i0_ i1_ i2_ hHeld p0 p1 HS1 HA1 HG HR
            go_wp2_with fail
            obtain ⟨wo, hwo⟩ : ∃ wo, wo = wr := ⟨_, rfl⟩
            subst hwo
            go_loopg [5, 7] xs.length (fun g sv jv wr => ∃ (j : Nat) (sw : Value) (T : List Int), sw = sv ∧ j + g = xs.length ∧ jv = .int .i64 (j : Int) ∧ Hid (SeenK n (cvN q k) S xs j T) ∧ wr.ownsRow w.heap.size 3 1 sw T.length (cellsI T) ∧ Blk wr w.heap.size 30 #[.int .i64 (n : Int), .slice A l.length c] ∧ Below w.heap.size w wr)
            case atStart => exact ⟨0, _, S, rfl, by omega, rfl, ⟨by simp, fun x hx => by simp at hx⟩, HR5.out, HG5.out, HB5.out⟩
            case round =>
              clear HR5 HG5 HU5 HD5 HC5 HB5
              obtain ⟨j, sw, T, rfl, hjg, rfl, hsk, hrow, hgb, hB⟩ := hrel
              obtain ⟨A4, c4, rfl⟩ := own_form hrow
              have c5 := nearv.cell_keep HC5W.out hB
              have hu := HUW.out.below hB
              have HB := Lib.hid hB
              have HG := Lib.hid hgb
              have HR := Lib.hid hrow
              have hTl : T.length ≤ 16 := by
                rw [hsk.out.1, List.length_append, List.length_take]
                have := HSL.out; have := HXL.out; omega
              cases gk with
              | zero =>
                obtain rfl : j = xs.length := by omega
                have hz : codeL xs &&& cvN q k = 0 := HAZ.out.2 (fun x hx => hsk.out.2 x (by rw [List.take_length]; exact hx))
                have HN := Lib.hid (HADD.out hz)
                have hTS : T = S ++ xs := by rw [hsk.out.1, List.take_length]
                have HT2 := Lib.hid hTS
                clear hz hTS hrow hgb hB hu
                go_wp2_with fail
                go_roundg g2
                case measure => omega
                case rel => exact ⟨k + 1, _, T, rfl, by omega, by go_num, by rw [HT2.out]; exact HN, HR.out, HG.out, HB.out⟩
              | succ g3 =>
                have hjl : j < xs.length := by omega
                have hjl' : (j : Int) < (xs.length : Int) := by omega
                obtain ⟨x, hx⟩ : ∃ x, xs[j]? = some x := ⟨_, List.getElem?_eq_getElem hjl⟩
                obtain ⟨_, _, hfx, hcx⟩ := (show Ints wr (.slice Ax xs.length cx) xs from hu).form
                cases hfx
                obtain ⟨gx, ox, rfl, cx0⟩ := hcx j x hx
                have HH := Lib.hid (HHS.out T x _ wr (show Ints wr _ _ from Reads.of_own hrow) (by omega))
                rw [HSH.out j x T hsk.out hx] at HH
                cases hb : (cvN q k).testBit x.toNat with
                | true =>
                  have HF := Lib.hid (HCN.out fun h1 => by have := HAZ.out.1 h1 x (List.mem_of_getElem? hx); rw [hb] at this; cases this)
                  rw [hb] at HH
                  clear hb hx hcx hrow hgb hB hu
                  go_wp2_with fail
                  refine HH.out.mono ?_
                  rintro e w' ⟨rfl, rfl⟩
                  go_wp2_with fail
                  first | go_ret | (rw [Exit.noGoto_ret]; go_ret)
                  rw [HF.out]
                  exact ⟨rfl, HB.out⟩
                | false =>
                  have HN := Lib.hid (hsk.out.next hx hb)
                  rw [hb] at HH
                  clear hb hx hcx hrow hgb hB hu
                  go_wp2_with fail
                  refine HH.out.mono ?_
                  rintro e w' ⟨rfl, rfl⟩
                  have hsz := HB.out.size
                  go_wp2_with (at_builtin; refine wpList_append_own _ rfl _ _ 37 rfl (w.heap.size) 3 i0 (.int .i64 0) 1 8 Try.underlying37 hi hz0 hz1 hz2 rfl (by decide) _ _ _ rfl (HR.out.alloc _) ⟨wr.heap.size, 0, none⟩ 1 1 [.int .i64 (x)] rfl rfl (cell_one_new _ _ _) (fun x hx => by simp at hx; subst hx; rfl) (by unfold maxLen; omega) (by omega) (by simp; omega) ?_; intro v2 w2 hown2 hgrow2 _)
                  have hown3 : w2.ownsRow w.heap.size 3 1 v2 (T ++ [x]).length (cellsI (T ++ [x])) := by
                    rw [List.length_append, show cellsI (T ++ [x]) = cellsI T ++ [.int .i64 x] from by simp [cellsI]]
                    exact hown2
                  have HR2 := Lib.hid hown3
                  clear hown3
                  have HB2 := Lib.hid ((HB.out.alloc hsz (.cells #[.int .i64 x] 3)).grown hgrow2 (by simp; omega) (fun b e => (HR.out.lt b e).1))
                  have HG2 := Lib.hid (mids.grown_blk (w := wr) HR.out HG.out (by decide) hgrow2)
                  clear hown2 hgrow2
                  go_roundg g3
                  case measure => omega
                  case rel => exact ⟨j + 1, v2, T ++ [x], rfl, by omega, by go_num, HN, HR2.out, HG2.out, HB2.out⟩
      · rw [okG_no fun h1 => hso ((HRS.out xs).1 h1)] at HS1
        have HF := Lib.hid (HNO.out fun h1 => hso h1.1.1)
        clear hso hcl hu hu5 hxs hrow hB hck hgb hsl
        go_wp2_with fail
        refine wp_region_held_drew (S := (fun w' : World => w'.cell? ⟨w.heap.size, 0, none⟩ = some (.int .i64 (n : Int)) ∧ w'.cell? ⟨w.heap.size, 1, none⟩ = some (.slice A l.length c) ∧ w'.cell? ⟨g5, o5 + k, none⟩ = some (.slice Ax xs.length cx))) (by kernel_rfl) (by (try dsimp only); simp [*]) (fun hHeld => ?_)
        change wpAnyH _ _ _ _ _ _ #[false, false, false, false, false, false, false, false, false, false, false, false, false, false, false, false, false, false, false, false, false, false, false, false] _ _
        refine wpAnyH_take (i := 0) (oi := ⟨some 15, _, _, _, _, _⟩) (v := ?_) rfl (by kernel_rfl) (by kernel_rfl) (by kernel_rfl) (fun _ _ _ h => h) (Or.inl ⟨by rfl, ?_⟩) (by assumption) ?_
        rotate_left
        · (intro w hSw; (try dsimp only at hSw); go_simp; (try (with_reducible rfl)))
        try simp only [Act.put, List.setIfInBounds_toArray, List.set_cons_zero, List.set_cons_succ]
        refine wpAnyH_take (i := 1) (oi := ⟨some 16, _, _, _, _, _⟩) (v := ?_) rfl (by kernel_rfl) (by kernel_rfl) (by kernel_rfl) (fun _ _ _ h => h) (Or.inl ⟨by rfl, ?_⟩) (by assumption) ?_
        rotate_left
        · (intro w hSw; (try dsimp only at hSw); go_simp; (try (with_reducible rfl)))
        try simp only [Act.put, List.setIfInBounds_toArray, List.set_cons_zero, List.set_cons_succ]
        refine wpAnyH_take (i := 2) (oi := ⟨some 17, _, _, _, _, _⟩) (v := ?_) rfl (by kernel_rfl) (by kernel_rfl) (by kernel_rfl) (fun _ _ _ h => h) (Or.inl ⟨by rfl, ?_⟩) (by assumption) ?_
        rotate_left
        · (intro w hSw; (try dsimp only at hSw); go_simp; (try (with_reducible rfl)))
        try simp only [Act.put, List.setIfInBounds_toArray, List.set_cons_zero, List.set_cons_succ]
        refine wpAnyH_take (i := 3) (oi := ⟨some 18, _, _, _, _, _⟩) (v := ?_) rfl (by kernel_rfl) (by kernel_rfl) (by kernel_rfl) (fun _ _ _ h => h) (Or.inl ⟨by rfl, ?_⟩) (by assumption) ?_
        rotate_left
        · (intro w hSw; (try dsimp only at hSw); go_simp; (try (with_reducible rfl)))
        try simp only [Act.put, List.setIfInBounds_toArray, List.set_cons_zero, List.set_cons_succ]
        refine wpAnyH_take (i := 4) (oi := ⟨some 19, _, _, _, _, _⟩) (v := ?_) rfl (by kernel_rfl) (by kernel_rfl) (by kernel_rfl) (fun _ _ _ h => h) (Or.inl ⟨by rfl, ?_⟩) (by assumption) ?_
        rotate_left
        · (intro w hSw; (try dsimp only at hSw); go_simp; (try (with_reducible rfl)))
        try simp only [Act.put, List.setIfInBounds_toArray, List.set_cons_zero, List.set_cons_succ]
        refine wpAnyH_ready (rs := [5]) (by kernel_rfl) (by simp) ?_
        refine AllReadyH.cons (o := ⟨some 20, _, _, _, _, _⟩) rfl (fun K hK => ?_) AllReadyH.nil
        go_simp
        (with_reducible refine HS1.out.mono ?_); rintro e w4 ⟨rfl, b4⟩; have d4 : Below wr.heap.size wr w4 := btrans (Below.refl _ _).drew b4; obtain ⟨k0, k1, -, -⟩ := (HG.out.below d4 HG.out.lt).two; have k2 := nearv.cell_keep c5 d4
        go_wp2_with fail
        refine hK.out _ _ (by (try dsimp only); simp [*]) (fun hHeld => ?_)
        clear hK K
        try simp only [List.setIfInBounds_toArray, List.set_cons_zero, List.set_cons_succ]
        refine wpAnyH_take (i := 6) (oi := ⟨some 21, _, _, _, _, _⟩) (v := ?_) rfl (by kernel_rfl) (by kernel_rfl) (by kernel_rfl) (fun _ _ _ h => h) (Or.inl ⟨by rfl, ?_⟩) (by assumption) ?_
        rotate_left
        · (intro w hSw; (try dsimp only at hSw); go_simp; (try (with_reducible rfl)))
        try simp only [Act.put, List.setIfInBounds_toArray, List.set_cons_zero, List.set_cons_succ]
        refine wpAnyH_take (i := 7) (oi := ⟨some 22, _, _, _, _, _⟩) (v := ?_) rfl (by kernel_rfl) (by kernel_rfl) (by kernel_rfl) (fun _ _ _ h => h) (Or.inl ⟨by rfl, ?_⟩) (by assumption) ?_
        rotate_left
        · (intro w hSw; (try dsimp only at hSw); go_simp; (try (with_reducible rfl)))
        try simp only [Act.put, List.setIfInBounds_toArray, List.set_cons_zero, List.set_cons_succ]
        refine wpAnyH_take (i := 8) (oi := ⟨some 23, _, _, _, _, _⟩) (v := undef) rfl (by kernel_rfl) (by kernel_rfl) (by kernel_rfl) (fun _ _ _ h => h) (Or.inr ⟨by rfl, rfl⟩) (by assumption) ?_
        try simp only [Act.put, List.setIfInBounds_toArray, List.set_cons_zero, List.set_cons_succ]
        refine wpAnyH_take (i := 9) (oi := ⟨some 24, _, _, _, _, _⟩) (v := undef) rfl (by kernel_rfl) (by kernel_rfl) (by kernel_rfl) (fun _ _ _ h => h) (Or.inr ⟨by rfl, rfl⟩) (by assumption) ?_
        try simp only [Act.put, List.setIfInBounds_toArray, List.set_cons_zero, List.set_cons_succ]
        refine wpAnyH_take (i := 10) (oi := ⟨some 25, _, _, _, _, _⟩) (v := undef) rfl (by kernel_rfl) (by kernel_rfl) (by kernel_rfl) (fun _ _ _ h => h) (Or.inr ⟨by rfl, rfl⟩) (by assumption) ?_
        try simp only [Act.put, List.setIfInBounds_toArray, List.set_cons_zero, List.set_cons_succ]
        refine wpAnyH_take (i := 11) (oi := ⟨some 26, _, _, _, _, _⟩) (v := undef) rfl (by kernel_rfl) (by kernel_rfl) (by kernel_rfl) (fun _ _ _ h => h) (Or.inr ⟨by rfl, rfl⟩) (by assumption) ?_
        try simp only [Act.put, List.setIfInBounds_toArray, List.set_cons_zero, List.set_cons_succ]
        refine wpAnyH_take (i := 12) (oi := ⟨some 27, _, _, _, _, _⟩) (v := undef) rfl (by kernel_rfl) (by kernel_rfl) (by kernel_rfl) (fun _ _ _ h => h) (Or.inr ⟨by rfl, rfl⟩) (by assumption) ?_
        try simp only [Act.put, List.setIfInBounds_toArray, List.set_cons_zero, List.set_cons_succ]
        refine wpAnyH_take (i := 13) (oi := ⟨some 28, _, _, _, _, _⟩) (v := undef) rfl (by kernel_rfl) (by kernel_rfl) (by kernel_rfl) (fun _ _ _ h => h) (Or.inr ⟨by rfl, rfl⟩) (by assumption) ?_
        try simp only [Act.put, List.setIfInBounds_toArray, List.set_cons_zero, List.set_cons_succ]
        refine wpAnyH_take (i := 14) (oi := ⟨some 29, _, _, _, _, _⟩) (v := ?_) rfl (by kernel_rfl) (by kernel_rfl) (by kernel_rfl) (fun _ _ _ h => h) (Or.inl ⟨by rfl, ?_⟩) (by assumption) ?_
        rotate_left
        · (intro w hSw; (try dsimp only at hSw); go_simp; (try (with_reducible rfl)))
        try simp only [Act.put, List.setIfInBounds_toArray, List.set_cons_zero, List.set_cons_succ]
        refine wpAnyH_take (i := 15) (oi := ⟨some 30, _, _, _, _, _⟩) (v := ?_) rfl (by kernel_rfl) (by kernel_rfl) (by kernel_rfl) (fun _ _ _ h => h) (Or.inl ⟨by rfl, ?_⟩) (by assumption) ?_
        rotate_left
        · (intro w hSw; (try dsimp only at hSw); go_simp; (try (with_reducible rfl)))
        try simp only [Act.put, List.setIfInBounds_toArray, List.set_cons_zero, List.set_cons_succ]
        refine wpAnyH_take (i := 16) (oi := ⟨some 31, _, _, _, _, _⟩) (v := undef) rfl (by kernel_rfl) (by kernel_rfl) (by kernel_rfl) (fun _ _ _ h => h) (Or.inr ⟨by rfl, rfl⟩) (by assumption) ?_
        try simp only [Act.put, List.setIfInBounds_toArray, List.set_cons_zero, List.set_cons_succ]
        refine wpAnyH_take (i := 17) (oi := ⟨some 32, _, _, _, _, _⟩) (v := undef) rfl (by kernel_rfl) (by kernel_rfl) (by kernel_rfl) (fun _ _ _ h => h) (Or.inr ⟨by rfl, rfl⟩) (by assumption) ?_
        try simp only [Act.put, List.setIfInBounds_toArray, List.set_cons_zero, List.set_cons_succ]
        refine wpAnyH_take (i := 18) (oi := ⟨some 33, _, _, _, _, _⟩) (v := undef) rfl (by kernel_rfl) (by kernel_rfl) (by kernel_rfl) (fun _ _ _ h => h) (Or.inr ⟨by rfl, rfl⟩) (by assumption) ?_
        try simp only [Act.put, List.setIfInBounds_toArray, List.set_cons_zero, List.set_cons_succ]
        refine wpAnyH_take (i := 19) (oi := ⟨some 34, _, _, _, _, _⟩) (v := undef) rfl (by kernel_rfl) (by kernel_rfl) (by kernel_rfl) (fun _ _ _ h => h) (Or.inr ⟨by rfl, rfl⟩) (by assumption) ?_
        try simp only [Act.put, List.setIfInBounds_toArray, List.set_cons_zero, List.set_cons_succ]
        refine wpAnyH_take (i := 20) (oi := ⟨some 35, _, _, _, _, _⟩) (v := undef) rfl (by kernel_rfl) (by kernel_rfl) (by kernel_rfl) (fun _ _ _ h => h) (Or.inr ⟨by rfl, rfl⟩) (by assumption) ?_
        try simp only [Act.put, List.setIfInBounds_toArray, List.set_cons_zero, List.set_cons_succ]
        refine wpAnyH_take (i := 21) (oi := ⟨some 36, _, _, _, _, _⟩) (v := undef) rfl (by kernel_rfl) (by kernel_rfl) (by kernel_rfl) (fun _ _ _ h => h) (Or.inr ⟨by rfl, rfl⟩) (by assumption) ?_
        try simp only [Act.put, List.setIfInBounds_toArray, List.set_cons_zero, List.set_cons_succ]
        refine wpAnyH_take (i := 22) (oi := ⟨some 37, _, _, _, _, _⟩) (v := undef) rfl (by kernel_rfl) (by kernel_rfl) (by kernel_rfl) (fun _ _ _ h => h) (Or.inr ⟨by rfl, rfl⟩) (by assumption) ?_
        try simp only [Act.put, List.setIfInBounds_toArray, List.set_cons_zero, List.set_cons_succ]
        refine wpAnyH_take (i := 23) (oi := ⟨some 38, _, _, _, _, _⟩) (v := ?_) rfl (by kernel_rfl) (by kernel_rfl) (by kernel_rfl) (fun _ _ _ h => h) (Or.inl ⟨by rfl, ?_⟩) (by assumption) ?_
        rotate_left
        · (intro w hSw; (try dsimp only at hSw); go_simp; (try (with_reducible rfl)))
        try simp only [Act.put, List.setIfInBounds_toArray, List.set_cons_zero, List.set_cons_succ]
        refine wpAnyH_done (by kernel_rfl) ?_ _
        go_wp2_with fail
        go_ret
        rw [HF.out]
        exact ⟨rfl, btrans HB.out d4⟩
end Go.Proofs.Ytdhbaegkogklgaa.ups

/- The lists of cops, by their first nodes and by their last ones. It imports nothing of the program. -/
namespace Go.Proofs.Ytdhbaegkogklgaa.lists
set_option linter.unusedVariables false

def castL (L : List Nat) : List Int := L.map fun x : Nat => (x : Int)
theorem castL_len (L : List Nat) : (castL L).length = L.length := by simp [castL]
theorem castL_cons (x : Nat) (L : List Nat) : castL (x :: L) = (x : Int) :: castL L := rfl
theorem castL_snoc (L : List Nat) (x : Nat) : castL (L ++ [x]) = castL L ++ [(x : Int)] := by simp [castL]
theorem castL_at {L : List Nat} {k x : Nat} (h : L[k]? = some x) : (castL L)[k]? = some (x : Int) := by simp [castL, h]
/-- f, f + 1, .., x - 1 -/
def upL (f x : Nat) : List Nat := List.range' f (x - f)
theorem upL_nil (f : Nat) : upL f f = [] := by simp [upL]
theorem upL_succ {f x : Nat} (h : f ≤ x) : upL f (x + 1) = upL f x ++ [x] := by
  unfold upL
  rw [show x + 1 - f = (x - f) + 1 from by omega, List.range'_1_concat, show f + (x - f) = x from by omega]
theorem upL_mem {f x y : Nat} : y ∈ upL f x ↔ f ≤ y ∧ y < x := by
  unfold upL
  rw [List.mem_range'_1]
  omega
theorem upL_len (f x : Nat) : (upL f x).length = x - f := by simp [upL]
/-- all lists of k nodes of f, .., n - 1, in order -/
def listsN (n : Nat) : Nat → Nat → List (List Nat)
  | 0, _ => [[]]
  | k + 1, f => (upL f n).flatMap fun x => (listsN n k x).map (x :: ·)
def outK (n k f x : Nat) : List (List Nat) := (upL f x).flatMap fun y => (listsN n k y).map (y :: ·)
theorem outK_nil (n k f : Nat) : outK n k f f = [] := by unfold outK; rw [upL_nil]; rfl
theorem outK_all (n k f : Nat) : outK n k f n = listsN n (k + 1) f := rfl
theorem outK_succ {n k f x : Nat} (h : f ≤ x) : outK n k f (x + 1) = outK n k f x ++ (listsN n k x).map (x :: ·) := by
  unfold outK; rw [upL_succ h, List.flatMap_append]; simp
theorem flatMap_le {α β : Type} {M : Nat} {F : α → List β} : ∀ (L : List α), (∀ a ∈ L, (F a).length ≤ M) → (L.flatMap F).length ≤ L.length * M
  | [], _ => by simp
  | a :: L, h => by
    rw [List.flatMap_cons, List.length_append, List.length_cons, Nat.succ_mul]
    have h1 := h a List.mem_cons_self
    have h2 := flatMap_le L fun b hb => h b (List.mem_cons_of_mem _ hb)
    omega
theorem lists_len {n : Nat} (hn : n ≤ 8) : ∀ k f, (listsN n k f).length ≤ 8 ^ k
  | 0, f => by simp [listsN]
  | k + 1, f => by
    have h := flatMap_le (M := 8 ^ k) (F := fun x => (listsN n k x).map (x :: ·)) (upL f n) fun a _ => by rw [List.length_map]; exact lists_len hn k a
    rw [upL_len] at h
    have h2 : (n - f) * 8 ^ k ≤ 8 * 8 ^ k := Nat.mul_le_mul_right _ (by omega)
    rw [Nat.pow_succ, Nat.mul_comm (8 ^ k) 8]
    exact Nat.le_trans h h2
theorem out_len {n : Nat} (hn : n ≤ 8) {k f x : Nat} (hx : x ≤ n) : (outK n k f x).length ≤ 8 * 8 ^ k := by
  have h := flatMap_le (M := 8 ^ k) (F := fun x => (listsN n k x).map (x :: ·)) (upL f x) fun a _ => by rw [List.length_map]; exact lists_len hn k a
  rw [upL_len] at h
  exact Nat.le_trans h (Nat.mul_le_mul_right _ (by omega))
/-- each has k nodes -/
theorem lists_mem {n : Nat} : ∀ (k f : Nat) (L : List Nat), L ∈ listsN n k f → L.length = k ∧ ∀ x ∈ L, f ≤ x ∧ x < n
  | 0, f, L, h => by
    have : L = [] := by simpa [listsN] using h
    subst this
    exact ⟨rfl, fun x hx => by simp at hx⟩
  | k + 1, f, L, h => by
    obtain ⟨x, hx, h2⟩ := List.mem_flatMap.1 (show L ∈ (upL f n).flatMap _ from h)
    obtain ⟨M, hM, rfl⟩ := List.mem_map.1 h2
    obtain ⟨h3, h4⟩ := lists_mem k x M hM
    have hx2 := upL_mem.1 hx
    refine ⟨by simp [h3], fun y hy => ?_⟩
    rcases List.mem_cons.1 hy with rfl | hy
    · exact hx2
    · have := h4 y hy; omega
/-- the last node, f if there is none -/
def lastD (f : Nat) (L : List Nat) : Nat := L.getLast?.getD f
theorem last_cons (f x : Nat) (L : List Nat) : lastD f (x :: L) = lastD x L := by
  unfold lastD
  cases L with
  | nil => rfl
  | cons y L => simp [List.getLast?_eq_some_getLast]
/-- a list's longer ones -/
def extL (n f : Nat) (L : List Nat) : List (List Nat) := (upL (lastD f L) n).map fun x => L ++ [x]
theorem flatMap_one {α β : Type} {g : α → β} : ∀ L : List α, L.flatMap (fun x => [g x]) = L.map g
  | [] => rfl
  | a :: L => by rw [List.flatMap_cons, List.map_cons, flatMap_one L]; rfl
theorem lists_snoc (n : Nat) : ∀ k f, listsN n (k + 1) f = (listsN n k f).flatMap (extL n f)
  | 0, f => by
    show (upL f n).flatMap (fun x => (listsN n 0 x).map (x :: ·)) = [[]].flatMap (extL n f)
    show (upL f n).flatMap (fun x => [[x]]) = ((upL f n).map fun x => [] ++ [x]) ++ []
    rw [List.append_nil, flatMap_one]
    rfl
  | k + 1, f => by
    show (upL f n).flatMap (fun x => (listsN n (k + 1) x).map (x :: ·)) = ((upL f n).flatMap fun x => (listsN n k x).map (x :: ·)).flatMap (extL n f)
    rw [List.flatMap_assoc]
    congr 1
    funext x
    rw [lists_snoc n k x, List.map_flatMap, List.flatMap_map]
    congr 1
    funext L
    unfold extL
    rw [last_cons, List.map_map]
    rfl
end Go.Proofs.Ytdhbaegkogklgaa.lists

/- The contract of the program's listsFrom. -/
namespace Go.Proofs.Ytdhbaegkogklgaa.lists
open Go.RowKit P2 words edges ints good adjs fns sets rets apps gridr grid
set_option linter.unusedVariables false

/-- the rows of a table of lists -/
def rowsN (Ls : List (List Nat)) : List (List Int) := Ls.map castL
theorem rowsN_len (Ls : List (List Nat)) : (rowsN Ls).length = Ls.length := by simp [rowsN]
theorem rowsN_app (Ls Ms : List (List Nat)) : rowsN (Ls ++ Ms) = rowsN Ls ++ rowsN Ms := by simp [rowsN]
theorem rowsN_at {Ls : List (List Nat)} {k : Nat} {L : List Nat} (h : Ls[k]? = some L) : (rowsN Ls)[k]? = some (castL L) := by simp [rowsN, h]
/-- a table of lists of the call's own -/
def RetL (w : World) (Ls : List (List Nat)) (e : Ending) (w' : World) : Prop :=
  ∃ A c us, e = .returned (.slice A (rowsN Ls).length c) ∧ OwnG w' w.heap.size (.slice A (rowsN Ls).length c) us (rowsN Ls) ∧ Below w.heap.size w w'
theorem take_succ_map {Ls : List (List Nat)} {j : Nat} {L : List Nat} (x : Nat) (h : Ls[j]? = some L) : (Ls.take (j + 1)).map (x :: ·) = (Ls.take j).map (x :: ·) ++ [x :: L] := by
  rw [List.take_add_one, h, List.map_append]; rfl
theorem grid_one (w : World) (L : List Nat) (hL : L = []) : OwnG (w.alloc (.cells #[.slice none 0 0] 37)) w.heap.size (.slice (some ⟨w.heap.size, 0, none⟩) 1 1) [.slice none 0 0] (rowsN [L]) := by
  subst hL
  refine ⟨World.ownsRow_lit (size := 1) w #[.slice none 0 0] 1 (Nat.le_refl _) (by unfold maxLen; omega) rfl, ?_, ?_⟩
  · intro i u r hu hr
    cases i with
    | zero => cases hu; cases hr; exact World.ownsRow_nil _ _ _ _
    | succ i => simp at hu
  · intro i j u u' k hij hu hu'
    cases j with
    | zero => omega
    | succ j => simp at hu'

/-- a table is kept where another one grows -/
theorem keepG {w w' : World} {B B9 n9 : Nat} {v lw : Value} {us xs9 : List Value} {rows : List (List Int)} (h : OwnG w B v us rows) (hl : w.ownsRow B9 37 1 lw n9 xs9) (hs : ∀ b, v.ownBlock = some b → lw.ownBlock ≠ some b) (hg : w.grownBy w' lw.ownBlock) : OwnG w' B v us rows := by
  refine ⟨h.1.kept hg ?_, fun i u r hu hr => (h.2.1 i u r hu hr).kept hg ?_, h.2.2⟩
  · cases hv : v.ownBlock with
    | none => exact .inl rfl
    | some b => exact .inr fun e => hs b hv e.symm
  · cases hv : u.ownBlock with
    | none => exact .inl rfl
    | some b => exact .inr fun e => own_apart (h.2.1 i u r hu hr) hl tneI b hv e.symm

end Go.Proofs.Ytdhbaegkogklgaa.lists

/- An element put into a row by three appends: what the walk wants. -/
namespace Go.Proofs.Ytdhbaegkogklgaa.trip
open Go.RowKit P2 words edges ints good adjs fns sets apps covs neigh
set_option linter.unusedVariables false

theorem one_readsV {w : World} {g : Nat} {t : TypeId} {a : Value} (h : Blk w g t #[a]) : Reads w 1 (.slice (some ⟨g, 0, none⟩) 1 1) 1 [a] := by
  refine ⟨_, _, rfl, fun _ => ⟨g, 0, rfl, by omega, fun j u hu => ?_⟩⟩
  rw [Nat.zero_add]
  refine (h.cell j).trans ?_
  rw [← hu]
  match j with
  | 0 => rfl
  | j + 1 => simp
theorem rd1_someV {W : World} {g o c k n : Nat} {xs : List Value} (h : Reads W 1 (.slice (if c = k then some ⟨g, o, none⟩ else (some (⟨g, o, none⟩ : Addr)).map (·.add k)) (n - k) (c - k)) (n - k) xs) :
    Reads W 1 (.slice (if c = k then some ⟨g, o, none⟩ else some ⟨g, o + k, none⟩) (n - k) (c - k)) (n - k) xs := by
  simpa [apps.addr_add] using h
theorem rd1_zeroV {W : World} {g c k n : Nat} {xs : List Value} (h : Reads W 1 (.slice (if c = k then some ⟨g, 0, none⟩ else (some (⟨g, 0, none⟩ : Addr)).map (·.add k)) (n - k) (c - k)) (n - k) xs) :
    Reads W 1 (.slice (if c = k then some ⟨g, 0, none⟩ else some ⟨g, k, none⟩) (n - k) (c - k)) (n - k) xs := by
  simpa [apps.addr_add] using h
theorem reads_cap {W : World} {A : Option Addr} {n c k : Nat} {xs : List Value} (h : Reads W 1 (.slice A n c) n xs) (hk : k ≤ n) : k ≤ c := by
  rcases Nat.eq_zero_or_pos n with h0 | h0
  · omega
  · obtain ⟨A', c', e, hx⟩ := h
    cases e
    have := (hx h0).choose_spec.choose_spec.2.1
    omega
theorem own_at {w : World} {B i n c : Nat} {A : Option Addr} {t : TypeId} {us : List Value} {u : Value} (h : w.ownsRow B t 1 (.slice A n c) n us) (hu : us[i]? = some u) :
    ∃ g, A = some ⟨g, 0, none⟩ ∧ w.cell? ⟨g, i, none⟩ = some u ∧ B ≤ g ∧ g < w.heap.size := by
  have hi := (List.getElem?_eq_some_iff.1 hu).1
  have hl := h.1
  rcases h.2 with ⟨hf, _⟩ | ⟨g, cap, cur, hf, _⟩
  · have := congrArg (fun v => match v with | .slice _ n _ => n | _ => 0) hf
    simp at this
    omega
  · obtain ⟨rfl, rfl⟩ : A = some ⟨g, 0, none⟩ ∧ c = cap := by simpa using hf
    have := h.cellAt i (by omega)
    rw [hu] at this
    exact ⟨g, rfl, this, (h.lt g rfl).1, (h.lt g rfl).2⟩
theorem own_cell {w : World} {B i n c g : Nat} {t : TypeId} {us : List Value} {u : Value} (h : w.ownsRow B t 1 (.slice (some ⟨g, 0, none⟩) n c) n us) (hu : us[i]? = some u) : w.cell? ⟨g, i, none⟩ = some u := by
  obtain ⟨g', e, hc, -⟩ := own_at h hu
  have : g = g' := by injection e with e; injection e
  subst this
  exact hc
end Go.Proofs.Ytdhbaegkogklgaa.trip

/- The contract of the model's l8Choices. -/
namespace Go.Proofs.Ytdhbaegkogklgaa.ups
open Go.RowKit P2 words edges ints owns good adjs fns sets rets covs bitsI func apps grid gridr gridl trip lists
set_option linter.unusedVariables false

/-- a table of the call's own -/
def RetX (w : World) (rows : List (List Int)) (e : Ending) (w' : World) : Prop :=
  ∃ A c us, e = .returned (.slice A rows.length c) ∧ OwnG w' w.heap.size (.slice A rows.length c) us rows ∧ Below w.heap.size w w'
set_option maxHeartbeats 8000000 in
set_option maxRecDepth 100000 in
theorem l8Choices_any : ∀ (d : Nat), d ≤ 9 → ∀ (u : Value) (xs : List Int) (w : World), Ints w u xs → xs.length ≤ 8 →
    Calls Try.prog 70 #[u, .int .i64 (d : Int)] w (RetX w (chL xs d)) := by
  intro d
  induction d with
  | zero =>
    intro _ u xs w hu hxl
    have HO0 : Hid (OwnG ((w.alloc (.cells #[] 3)).alloc (.cells #[.slice (some ⟨w.heap.size, 0, none⟩) 0 0] 37)) w.heap.size (.slice (some ⟨w.heap.size + 1, 0, none⟩) 1 1) [.slice (some ⟨w.heap.size, 0, none⟩) 0 0] [[]]) := by
      have h_ := World.ownsRow_lit (size := 1) (base := w.heap.size) (e := 37) (w.alloc (.cells #[] 3)) #[.slice (some ⟨w.heap.size, 0, none⟩) 0 0] 1 (by simp) (by unfold maxLen; omega) rfl
      rw [World.size_alloc] at h_
      refine ⟨h_, ?_, ?_⟩
      · intro i u r hu hr
        cases i with
        | zero => cases hu; cases hr; exact (own_new0 w 3 1).alloc _
        | succ i => simp at hu
      · intro i j u u' k hij hu hu'
        cases j with
        | zero => omega
        | succ j => simp at hu'
    have HB0 : Hid (Below w.heap.size w ((w.alloc (.cells #[] 3)).alloc (.cells #[.slice (some ⟨w.heap.size, 0, none⟩) 0 0] 37))) := ((Below.refl _ _).alloc (Nat.le_refl _) _).alloc (by simp) _
    have HV : Hid (chL xs 0 = [[]]) := by show _ = _; unfold chL; rfl
    go_enter Try.func70, Try.ntmps70
    go_wp2_with fail
    go_ret
    rw [HV.out]
    exact ⟨_, _, _, rfl, HO0.out, HB0.out⟩
  | succ d ih =>
    intro hd u xs w hu hxl
    obtain ⟨i0, hi, hz0, hz1, hz2⟩ := info_parts infoInt
    obtain ⟨i1, hi1, hy0, hy1, hy2⟩ := info_parts infoRow
    have HIH := Lib.hid (ih (by omega))
    obtain ⟨A, c, rfl, hcx⟩ := hu.form
    have HU := Lib.hid hu
    have HCX := Lib.hid hcx
    have hwr : IntKind.i64.wrap (((d + 1 : Nat) : Int) - 1) = (d : Int) := by
      rw [show ((d + 1 : Nat) : Int) - 1 = (d : Int) from by omega]; exact IntWalk.i64_in _ (by omega)
    have d0 : (((d + 1 : Nat) : Int) == 0) = false := by simp; omega
    have hkk9 : ((d + 1 : Nat) : Int) ≤ 9 := by omega
    have hkk0 : 0 ≤ ((d + 1 : Nat) : Int) := by omega
    have HSH : Hid (∀ i : Nat, ¬ ((i : Int) + ((d + 1 : Nat) : Int) ≤ (xs.length : Int)) → chL (xs.drop i) (d + 1) = []) := fun i hh => chL_short _ _ (by rw [List.length_drop]; omega)
    have HLT : Hid (∀ i : Nat, ((i : Int) + ((d + 1 : Nat) : Int) ≤ (xs.length : Int)) → i < xs.length) := fun i hh => by omega
    generalize hkk : ((d + 1 : Nat) : Int) = kk at *
    have HTL : Hid ((chL xs (d + 1)).length ≤ 256) := by
      have := chL_len xs (d + 1)
      have h2 := Nat.pow_le_pow_right (show 0 < 2 by decide) hxl
      show _ ≤ _
      omega
    have HO0 : Hid (OwnG (w.alloc (.cells #[] 37)) w.heap.size (.slice (some ⟨w.heap.size, 0, none⟩) 0 0) [] []) := ⟨own_new0 w 37 1, fun i u r hu => by simp at hu, fun i j u u' k _ hu => by simp at hu⟩
    have HB0 : Hid (Below w.heap.size w (w.alloc (.cells #[] 37))) := (Below.refl _ _).alloc (Nat.le_refl _) _
    have HE0 : Hid (([] : List (List Int)) ++ chL (xs.drop 0) (d + 1) = chL xs (d + 1)) := rfl
    clear ih hkk hu hcx
    go_enter Try.func70, Try.ntmps70
    go_wp2_with fail
    go_loopg [5, 6] xs.length (fun g ov iv wr => ∃ (i : Nat) (ow : Value) (us : List Value) (O : List (List Int)), ow = ov ∧ i + g = xs.length ∧ iv = .int .i64 (i : Int) ∧ OwnG wr w.heap.size ow us O ∧ Hid (O ++ chL (xs.drop i) (d + 1) = chL xs (d + 1)) ∧ Below w.heap.size w wr)
    case atStart => exact ⟨0, _, [], [], rfl, by omega, rfl, HO0.out, HE0, HB0.out⟩
    case round =>
      clear HO0 HB0 HE0
      obtain ⟨i, ow, us, O, rfl, hig, rfl, hG, he, hB⟩ := hrel
      obtain ⟨A4, c4, rfl⟩ := own_form hG.1
      have hil : i ≤ xs.length := by omega
      have hwi : IntKind.i64.wrap ((i : Int) + kk) = (i : Int) + kk := IntWalk.i64_in _ (by omega)
      by_cases hle : (i : Int) + kk ≤ (xs.length : Int)
      · have hlt : i < xs.length := HLT.out i (by omega)
        obtain ⟨g2, rfl⟩ : ∃ g2, gk = g2 + 1 := ⟨gk - 1, by omega⟩
        obtain ⟨x, hx⟩ : ∃ x, xs[i]? = some x := ⟨_, List.getElem?_eq_getElem hlt⟩
        obtain ⟨gx, ox, rfl, cx0⟩ := HCX.out i x hx
        have HCX0 := Lib.hid cx0
        have HDR := Lib.hid (chL_drop hx d)
        have hdl : (xs.drop (i + 1)).length = xs.length - (i + 1) := List.length_drop
        have HRD : Hid (∀ W, Below w.heap.size w W → Reads W 1 (.slice (if c = i + 1 then some ⟨gx, ox, none⟩ else some ⟨gx, ox + (i + 1), none⟩) (xs.length - (i + 1)) (c - (i + 1))) (xs.length - (i + 1)) (cellsI (xs.drop (i + 1)))) := fun W hW => by
          have h2 := apps.Reads.drop (k := i + 1) (HU.out.below hW) (by omega)
          rw [apps.cellsI_drop, Nat.mul_one] at h2
          simpa [apps.addr_add] using h2
        have hcc := reads_cap HU.out (show i + 1 ≤ xs.length by omega)
        have HDL := Lib.hid hdl
        clear hdl
        obtain ⟨SA, sc, hsl, hif⟩ : ∃ SA sc, Hid (∀ W, Below w.heap.size w W → Reads W 1 (.slice SA (xs.length - (i + 1)) sc) (xs.length - (i + 1)) (cellsI (xs.drop (i + 1)))) ∧ ((c = i + 1 ∧ SA = some ⟨gx, ox, none⟩ ∧ sc = 0) ∨ (¬ c = i + 1 ∧ SA = some ⟨gx, ox + (i + 1), none⟩ ∧ sc = c - (i + 1))) := by
          refine ⟨_, _, HRD, ?_⟩
          by_cases h : c = i + 1
          · exact .inl ⟨h, by rw [if_pos h], by omega⟩
          · exact .inr ⟨h, by rw [if_neg h], rfl⟩
        clear HRD
        have hii : IntKind.i64.wrap ((i : Int) + 1) = (i : Int) + 1 := IntWalk.i64_in _ (by omega)
        obtain ⟨wo, hwo⟩ : ∃ wo, wo = wr := ⟨_, rfl⟩
        subst hwo
        have HCA : Hid (Calls Try.prog 70 #[.slice SA (xs.length - (i + 1)) sc, .int .i64 (d : Int)] wo (RetX wo (chL (xs.drop (i + 1)) d))) := by
          have h_ := hsl.out wo hB
          rw [← HDL.out] at h_ ⊢
          exact HIH.out _ _ wo h_ (by rw [HDL.out]; omega)
        have HG := Lib.hid hG
        have HBO := Lib.hid hB
        have HEO : Hid (O ++ (chL (xs.drop (i + 1)) d).map (x :: ·) ++ chL (xs.drop (i + 1)) (d + 1) = chL xs (d + 1)) := by
          show _ = _
          rw [← he.out, HDR.out, List.append_assoc]
        have hol : O.length + (chL (xs.drop (i + 1)) d).length ≤ 256 := by
          have h_ := congrArg List.length HEO.out
          rw [List.length_append, List.length_append, List.length_map] at h_
          have := HTL.out
          omega
        have HROW : Hid (∀ r ∈ chL (xs.drop (i + 1)) d, r.length = d) := fun r hr => chL_row _ _ r hr
        generalize chL (xs.drop (i + 1)) d = R at *
        clear hsl hG hB he cx0 hx
        rcases hif with ⟨hci, rfl, rfl⟩ | ⟨hne, rfl, rfl⟩
        all_goals
          (try subst hci)
          go_wp2_with fail
          refine HCA.out.mono ?_
          rintro e w5 ⟨A5, c5, us5, rfl, o5, b5⟩
          have HR := Lib.hid o5
          have HG5 := Lib.hid (HG.out.below b5)
          have HBW5 := Lib.hid (btrans HBO.out b5)
          have hg9 : Hid (OwnG w5 w.heap.size (.slice A4 O.length c4) us (O ++ (R.take 0).map (x :: ·))) := by
            show OwnG _ _ _ _ _
            rw [List.take_zero, List.map_nil, List.append_nil]; exact HG5.out
          have HSEP : Hid (∀ b, (Value.slice A4 O.length c4).ownBlock = some b → b < wo.heap.size ∨ w5.heap.size ≤ b) := fun b hb => .inl (HG.out.1.lt b hb).2
          have HIN : Hid (∀ b, (Value.slice A5 R.length c5).ownBlock = some b → wo.heap.size ≤ b ∧ b < w5.heap.size) := fun b hb => o5.1.lt b hb
          have hbo := HBO.out.size
          clear b5 o5
          go_wp2_with fail
          go_loopg [5, 8] R.length (fun g lv iv wr => ∃ (j : Nat) (lw : Value) (us : List Value), lw = lv ∧ j + g = R.length ∧ iv = .int .i64 (j : Int) ∧ OwnG wr w.heap.size lw us (O ++ (R.take j).map (x :: ·)) ∧
            OwnG wr wo.heap.size (.slice A5 R.length c5) us5 R ∧ Hid (∀ b, lw.ownBlock = some b → b < wo.heap.size ∨ w5.heap.size ≤ b) ∧ Below w.heap.size w wr ∧ w5.heap.size ≤ wr.heap.size)
          case atStart => exact ⟨0, _, us, rfl, by omega, rfl, hg9.out, HR.out, HSEP, HBW5.out, Nat.le_refl _⟩
          case round =>
            clear hg9 HSEP HR HG5
            obtain ⟨j, lw, us, rfl, hjg, rfl, hG, hR, hsep, hB, hsz⟩ := hrel
            cases gk with
            | zero =>
              obtain rfl : j = R.length := by omega
              rw [List.take_length] at hG
              have HG9 := Lib.hid hG
              clear hG hR
              go_wp2_with fail
              go_roundg g2
              case measure => omega
              case rel => exact ⟨i + 1, _, us, _, rfl, by omega, by go_num, HG9.out, HEO, hB⟩
            | succ g3 =>
              have hjl : j < R.length := by omega
              have hjl' : (j : Int) < (R.length : Int) := by omega
              obtain ⟨L, hL⟩ : ∃ L, R[j]? = some L := ⟨_, List.getElem?_eq_getElem hjl⟩
              obtain ⟨u, g, o, hu, hAx, c0, hru⟩ := (gridl.readsG_of_own hR).row hL
              subst hAx
              obtain ⟨Ar, cr, rfl, -⟩ := hru.form
              have hLk : L.length ≤ 9 := by have := HROW.out L (List.mem_of_getElem? hL); omega
              have HRW : Hid (O ++ (R.take (j + 1)).map (x :: ·) = (O ++ (R.take j).map (x :: ·)) ++ [x :: L]) := by
                show _ = _
                rw [take_cons x hL, ← List.append_assoc]
              have hrows : (O ++ (R.take j).map (x :: ·)).length ≤ 600 := by
                rw [List.length_append, List.length_map, List.length_take]; omega
              have hHR : Hid (∀ W, Below wr.heap.size wr W → Ints W (.slice Ar L.length cr) L) := fun W hW => hru.below hW
              have HO1 : Hid (((wr.alloc (.cells #[.int .i64 x] 3)).drew).ownsRow wr.heap.size 3 1 (.slice (some ⟨wr.heap.size, 0, none⟩) 1 1) 1 (cellsI [x])) := (own_new1 wr 3 x).drew
              have hcl : Hid ((cellsI L).length = L.length * 1) := by show _ = _; simp [cellsI]
              have HB1 : Hid (Below wr.heap.size wr ((wr.alloc (.cells #[.int .i64 x] 3)).drew)) := ((Below.refl _ _).alloc (Nat.le_refl _) _).drew
              obtain ⟨A4, c4, rfl⟩ := own_form hG.1
              have q1 := nearv.cell_keep HCX0.out hB
              have HG := Lib.hid hG
              have HR := Lib.hid hR
              have HB := Lib.hid hB
              have hwb := hB.size
              clear hL hG hR hru hB hjl
              generalize O ++ (R.take j).map (x :: ·) = rows at *
              go_wp2_with fail
              refine wp_region_held_drew (S := (fun w' : World => w'.cell? ⟨gx, ox + i, none⟩ = some (.int .i64 x) ∧ w'.cell? ⟨g, o + j, none⟩ = some (.slice Ar L.length cr))) (by kernel_rfl) (by (try dsimp only); simp [*]) (fun hHeld => ?_)
              change wpAnyH _ _ _ _ _ _ #[false, false, false, false, false, false, false, false, false, false, false, false, false, false] _ _
              refine wpAnyH_take (i := 0) (oi := ⟨some 35, _, _, _, _, _⟩) (v := ?_) rfl (by kernel_rfl) (by kernel_rfl) (by kernel_rfl) (fun _ _ _ h => h) (Or.inl ⟨by rfl, ?_⟩) (by assumption) ?_
              rotate_left
              · (intro w hSw; (try dsimp only at hSw); go_simp; (try (with_reducible rfl)))
              try simp only [Act.put, List.setIfInBounds_toArray, List.set_cons_zero, List.set_cons_succ]
              refine wpAnyH_take (i := 1) (oi := ⟨some 36, _, _, _, _, _⟩) (v := ?_) rfl (by kernel_rfl) (by kernel_rfl) (by kernel_rfl) (fun _ _ _ h => h) (Or.inl ⟨by rfl, ?_⟩) (by assumption) ?_
              rotate_left
              · (intro w hSw; (try dsimp only at hSw); go_simp; (try (with_reducible rfl)))
              try simp only [Act.put, List.setIfInBounds_toArray, List.set_cons_zero, List.set_cons_succ]
              refine wpAnyH_take (i := 2) (oi := ⟨some 37, _, _, _, _, _⟩) (v := ?_) rfl (by kernel_rfl) (by kernel_rfl) (by kernel_rfl) (fun _ _ _ h => h) (Or.inl ⟨by rfl, ?_⟩) (by assumption) ?_
              rotate_left
              · (intro w hSw; (try dsimp only at hSw); go_simp; (try (with_reducible rfl)))
              try simp only [Act.put, List.setIfInBounds_toArray, List.set_cons_zero, List.set_cons_succ]
              refine wpAnyH_take (i := 3) (oi := ⟨some 38, _, _, _, _, _⟩) (v := ?_) rfl (by kernel_rfl) (by kernel_rfl) (by kernel_rfl) (fun _ _ _ h => h) (Or.inl ⟨by rfl, ?_⟩) (by assumption) ?_
              rotate_left
              · (intro w hSw; (try dsimp only at hSw); go_simp; (try (with_reducible rfl)))
              try simp only [Act.put, List.setIfInBounds_toArray, List.set_cons_zero, List.set_cons_succ]
              refine wpAnyH_take (i := 4) (oi := ⟨some 39, _, _, _, _, _⟩) (v := ?_) rfl (by kernel_rfl) (by kernel_rfl) (by kernel_rfl) (fun _ _ _ h => h) (Or.inl ⟨by rfl, ?_⟩) (by assumption) ?_
              rotate_left
              · (intro w hSw; (try dsimp only at hSw); go_simp; (try (with_reducible rfl)))
              try simp only [Act.put, List.setIfInBounds_toArray, List.set_cons_zero, List.set_cons_succ]
              refine wpAnyH_take (i := 6) (oi := ⟨some 41, _, _, _, _, _⟩) (v := ?_) rfl (by kernel_rfl) (by kernel_rfl) (by kernel_rfl) (fun _ _ _ h => h) (Or.inl ⟨by rfl, ?_⟩) (by assumption) ?_
              rotate_left
              · (intro w hSw; (try dsimp only at hSw); go_simp; (try (with_reducible rfl)))
              try simp only [Act.put, List.setIfInBounds_toArray, List.set_cons_zero, List.set_cons_succ]
              refine wpAnyH_take (i := 7) (oi := ⟨some 42, _, _, _, _, _⟩) (v := ?_) rfl (by kernel_rfl) (by kernel_rfl) (by kernel_rfl) (fun _ _ _ h => h) (Or.inl ⟨by rfl, ?_⟩) (by assumption) ?_
              rotate_left
              · (intro w hSw; (try dsimp only at hSw); go_simp; (try (with_reducible rfl)))
              try simp only [Act.put, List.setIfInBounds_toArray, List.set_cons_zero, List.set_cons_succ]
              refine wpAnyH_take (i := 8) (oi := ⟨some 43, _, _, _, _, _⟩) (v := ?_) rfl (by kernel_rfl) (by kernel_rfl) (by kernel_rfl) (fun _ _ _ h => h) (Or.inl ⟨by rfl, ?_⟩) (by assumption) ?_
              rotate_left
              · (intro w hSw; (try dsimp only at hSw); go_simp; (try (with_reducible rfl)))
              try simp only [Act.put, List.setIfInBounds_toArray, List.set_cons_zero, List.set_cons_succ]
              refine wpAnyH_take (i := 9) (oi := ⟨some 44, _, _, _, _, _⟩) (v := ?_) rfl (by kernel_rfl) (by kernel_rfl) (by kernel_rfl) (fun _ _ _ h => h) (Or.inl ⟨by rfl, ?_⟩) (by assumption) ?_
              rotate_left
              · (intro w hSw; (try dsimp only at hSw); go_simp; (try (with_reducible rfl)))
              try simp only [Act.put, List.setIfInBounds_toArray, List.set_cons_zero, List.set_cons_succ]
              refine wpAnyH_ready (rs := [5]) (by kernel_rfl) (by simp) ?_
              refine AllReadyH.cons rfl (fun K hK => ?_) AllReadyH.nil
              go_simp
              refine hK.out _ _ (⟨nearv.cell_keep q1 HB1.out, nearv.cell_keep c0 HB1.out⟩) (fun hHeld => ?_)
              clear hK K
              try simp only [List.setIfInBounds_toArray, List.set_cons_zero, List.set_cons_succ]
              refine wpAnyH_ready (rs := [10]) (by kernel_rfl) (by simp) ?_
              refine AllReadyH.cons rfl (fun K hK => ?_) AllReadyH.nil
              (refine step_append_any _ rfl (.tmp 40) (.tmp 44) 37 rfl wr.heap.size 3 i0 (.int .i64 0) 1 8 Try.underlying37 hi hz0 hz1 hz2 rfl (by decide) (.slice (some ⟨wr.heap.size, 0, none⟩) 1 1) 1 (cellsI [x]) rfl HO1.out (.slice Ar L.length cr) L.length (cellsI L) rfl (hHR.out _ HB1.out) hcl.out (oneI _) (by unfold maxLen; omega) (by omega) HB1.out.size ?_; intro v2 w6 o6 gr6; have hB6 : Below wr.heap.size wr w6 := HB1.out.grown gr6 (by simp) (fun j e => (HO1.out.lt j e).1); have o7 : w6.ownsRow wr.heap.size 3 1 v2 (x :: L).length (cellsI (x :: L)) := by { have h_ := o6; rw [show 1 + L.length = (x :: L).length from by simp; omega] at h_; exact h_ }; clear o6 gr6; obtain ⟨A6, c6, rfl⟩ := own_form o7; have hs6 := hB6.size; have hB7 : Below wr.heap.size wr (w6.alloc (.cells #[.slice A6 (x :: L).length c6] 37)) := hB6.alloc hs6 _; have hown5 := (HG.out.below hB6).1; have hul : us.length ≤ 600 := (HG.out.len ▸ hrows))
              refine hK.out _ _ (⟨nearv.cell_keep q1 hB6, nearv.cell_keep c0 hB6⟩) (fun hHeld => ?_)
              clear hK K
              try simp only [Act.put, List.setIfInBounds_toArray, List.set_cons_zero, List.set_cons_succ]
              refine wpAnyH_ready (rs := [11]) (by kernel_rfl) (by simp) ?_
              refine AllReadyH.cons rfl (fun K hK => ?_) AllReadyH.nil
              go_simp
              refine hK.out _ _ (⟨nearv.cell_keep q1 hB7, nearv.cell_keep c0 hB7⟩) (fun hHeld => ?_)
              clear hK K
              try simp only [List.setIfInBounds_toArray, List.set_cons_zero, List.set_cons_succ]
              refine wpAnyH_ready (rs := [12]) (by kernel_rfl) (by simp) ?_
              refine AllReadyH.cons rfl (fun K hK => ?_) AllReadyH.nil
              (refine step_append_lies _ rfl (.tmp 35) (.tmp 46) 25 rfl w.heap.size 37 i1 (.slice none 0 0) 1 24 Try.underlying25 hi1 hy0 hy1 hy2 rfl (by decide) (.slice A4 rows.length c4) rows.length us rfl (hown5.alloc _) ⟨w6.heap.size, 0, none⟩ 1 1 [.slice A6 (x :: L).length c6] rfl rfl (cell_one_new _ _ _) (fun x hx => by simp at hx; subst hx; rfl) (by decide) (by unfold maxLen; omega) (by omega) (by simp; omega) (w6.heap.size + 1) (by simp) ?_; intro g8 cap8 w7 hown7 hgrow7 lies7 lt7; have hR6 := HR.out.below hB6; have hR7 := keepG (hR6.below ((Below.refl w6.heap.size w6).alloc (Nat.le_refl _) (.cells #[.slice A6 (x :: L).length c6] 37))) (hown5.alloc _) (fun b hb e => by { have h1 := HIN.out b hb; have h2 := hsep.out b e; omega }) hgrow7; have e7 : Below w.heap.size w w7 := ((btrans HB.out hB7).grown hgrow7 (by simp; omega) (fun j e => (hown5.lt j e).1)); have q3 := nearv.cell_keep HCX0.out e7; have hc7 : w7.cell? ⟨g, o + j, none⟩ = some (.slice Ar L.length cr) := by { obtain ⟨g_, hga, hc_, -, -⟩ := own_at hR7.1 hu; simp only [Option.some.injEq, Addr.mk.injEq, and_true] at hga; rw [hga.1, hga.2, Nat.zero_add]; exact hc_ })
              refine hK.out _ _ (⟨q3, hc7⟩) (fun hHeld => ?_)
              clear hK K
              try simp only [Act.put, List.setIfInBounds_toArray, List.set_cons_zero, List.set_cons_succ]
              refine wpAnyH_take (i := 13) (oi := ⟨some 5, _, _, _, _, _⟩) (v := ?_) rfl (by kernel_rfl) (by kernel_rfl) (by kernel_rfl) (fun _ _ _ h => h) (Or.inl ⟨by rfl, ?_⟩) (by assumption) ?_
              rotate_left
              · (intro w hSw; (try dsimp only at hSw); go_simp; (try (with_reducible rfl)))
              try simp only [Act.put, List.setIfInBounds_toArray, List.set_cons_zero, List.set_cons_succ]
              refine wpAnyH_done (by kernel_rfl) ?_ _
              have HG7 := Lib.hid (OwnG.push HG.out hB6 hwb o7 hown7 rfl hgrow7)
              have HR7 := Lib.hid hR7
              have HB7 := Lib.hid e7
              have hge7 : w6.heap.size ≤ w7.heap.size := by
                have := hgrow7.size
                simp at this; omega
              have HSP : Hid (∀ b, (Value.slice (some ⟨g8, 0, none⟩) (rows.length + 1) cap8).ownBlock = some b → b < wo.heap.size ∨ w5.heap.size ≤ b) := fun b hb => by
                have hb8 : g8 = b := by simpa [Value.ownBlock] using hb
                rcases lies7 with h1 | h1
                · exact hsep.out b (by rw [← hb8]; exact h1)
                · right; omega
              clear hown7 hgrow7 hown5 hR6 hR7 e7 hB6 hB7 o7 q1 q3 hc7 c0 hHeld lies7
              go_wp2_with fail
              go_roundg g3
              case measure => omega
              case rel => exact ⟨j + 1, _, _, rfl, by omega, by go_num, by rw [HRW.out]; exact HG7.out, HR7.out, HSP, HB7.out, by omega⟩
      · have HV : Hid (chL xs (d + 1) = O) := by
          show _ = _
          rw [← he.out, HSH.out i (by omega), List.append_nil]
        have HG := Lib.hid hG
        clear hG
        go_wp2_with fail
        go_ret
        rw [HV.out]
        exact ⟨A4, c4, us, rfl, HG.out, hB⟩
end Go.Proofs.Ytdhbaegkogklgaa.ups
