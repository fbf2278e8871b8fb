/- Cuts and cutwidths of layouts: the contracts of the model's l7Order, l7Cut, l7Cuts, CutsOf and CutwidthOf. -/
import Derived.Handy
import Derived.Test.YtphlpipbhaiijaaLaysI
import Derived.Test.YtphlpipbhaiijaaBall
import Derived.Deep.AppendLies
import Derived.Deep.RegionHeld3
import Derived.Deep.DeepCutAuto
import Derived.Deep.QuietTactic
namespace Go.Proofs.Ytphlpipbhaiijaa.lays
open Go.RowKit P2 words edges ints good adjs fns sets rets covs reach bags balls each degs bitsI func mids
set_option linter.unusedVariables false

set_option maxHeartbeats 1000000 in
theorem l7Order_any (s : Int) (v u : Value) (l : List Ed) (tl : List Int) (w : World) (h : Edges w v l) (hl : l.length ≤ 1048576) (hu : Ints w u tl) (htl : tl.length ≤ 1048576) (hs1 : -9223372036854775808 ≤ s) (hs2 : s ≤ 9223372036854775807) :
    Calls Try.prog 51 #[.agg #[.int .i64 s, v], u] w fun e w' => e = .returned (.bool (okG (ElimOk s l tl))) ∧ Below w.heap.size w w' := by
  obtain ⟨A, c, rfl, -⟩ := h.form
  have b0 : Below w.heap.size w (w.alloc (.cells #[.int .i64 s, .slice A l.length c] 29)) := (Below.refl _ _).alloc (Nat.le_refl _) _
  have g0 := Blk.new w 29 #[.int .i64 s, .slice A l.length c]
  have H := Lib.hid h
  have HU := Lib.hid hu
  have HG := Lib.hid (l2Good_any s _ l _ (h.below b0) hl hs1 hs2)
  clear h hu
  by_cases hgd : P2.Good s l
  · rw [goodB_yes hgd] at HG
    have h0 := hgd.1
    have h8 := hgd.2.1
    obtain ⟨n, rfl⟩ : ∃ n : Nat, s = (n : Int) := ⟨s.toNat, by omega⟩
    have hn : n ≤ 8 := by omega
    have HV : Hid (okG (EachS n tl) = okG (ElimOk (n : Int) l tl)) := by
      show _ = _
      rw [Bool.eq_iff_iff, okG_iff, okG_iff]
      unfold ElimOk
      rw [Int.toNat_natCast]
      exact ⟨fun h => ⟨hgd, h⟩, fun h => h.2⟩
    clear hgd
    go_enter Try.func51, Try.ntmps51
    go_wp2_with fail
    refine HG.out.mono ?_
    rintro e w1 ⟨rfl, b1⟩
    have e1 := btrans b0 b1
    have g1 := g0.below b1 g0.lt
    obtain ⟨p0, p1, -, -⟩ := g1.two
    clear HG b0 b1 g0
    go_wp2_with fail
    refine (l2Each_any n (.slice A l.length c) u l tl w1 (H.out.below e1) (HU.out.below e1) htl hn).mono ?_
    rintro e w2 ⟨rfl, b2⟩
    go_wp2_with fail
    go_ret
    exact ⟨ret_bool HV.out, btrans e1 b2⟩
  · rw [goodB_no hgd] at HG
    have HN : Hid (okG (ElimOk s l tl) = false) := okG_no fun hh => hgd hh.1
    clear hgd
    go_enter Try.func51, Try.ntmps51
    go_wp2_with fail
    refine HG.out.mono ?_
    rintro e w1 ⟨rfl, b1⟩
    go_wp2_with fail
    go_ret
    exact ⟨ret_bool HN.out.symm, btrans b0 b1⟩
theorem cross_succ {l : List Ed} {xs : List Int} {k : Nat} {e : Ed} (h : l[k]? = some e) : crossN (l.take (k + 1)) xs = crossN (l.take k) xs + if (decide (e.1 ∈ xs) != decide (e.2 ∈ xs)) = true then 1 else 0 := by
  unfold crossN
  rw [List.take_add_one, h, List.countP_append]
  simp [List.countP_cons]
theorem cross_le (l : List Ed) (xs : List Int) : crossN l xs ≤ l.length := List.countP_le_length
set_option maxHeartbeats 2000000 in
set_option maxRecDepth 100000 in
theorem l7Cut_any (s : Int) (v u : Value) (l : List Ed) (xs : List Int) (w : World) (h : Edges w v l) (hl : l.length ≤ 1048576) (hu : Ints w u xs) (hxl : xs.length ≤ 1048576) :
    Calls Try.prog 111 #[.agg #[.int .i64 s, v], u] w fun e w' => e = .returned (.int .i64 (crossN l xs : Int)) ∧ Below w.heap.size w w' := by
  obtain ⟨A, c, rfl, hc⟩ := h.form
  have b0 : Below w.heap.size w (w.alloc (.cells #[.int .i64 s, .slice A l.length c] 29)) := (Below.refl _ _).alloc (Nat.le_refl _) _
  have g0 := Blk.new w 29 #[.int .i64 s, .slice A l.length c]
  have HC := Lib.hid hc
  have HU := Lib.hid hu
  have HB0 := Lib.hid b0
  have HG0 := Lib.hid g0
  clear h hu hc b0 g0
  go_enter Try.func111, Try.ntmps111
  go_wp2_with fail
  go_loopg [5, 6] l.length (fun g mv iv wr => ∃ k : Nat, k + g = l.length ∧ iv = .int .i64 (k : Int) ∧ mv = .int .i64 (crossN (l.take k) xs : Int) ∧ Blk wr w.heap.size 29 #[.int .i64 s, .slice A l.length c] ∧ Below w.heap.size w wr)
  case atStart => exact ⟨0, by omega, rfl, rfl, HG0.out, HB0.out⟩
  case round =>
    clear HG0 HB0
    obtain ⟨k, hkg, rfl, rfl, hgb, hB⟩ := hrel
    obtain ⟨p0, p1, -, -⟩ := hgb.two
    have hcr := cross_le (l.take k) xs
    rw [List.length_take] at hcr
    have hcr2 : crossN (l.take k) xs ≤ 1048576 := by omega
    clear hcr
    cases gk with
    | zero =>
      obtain rfl : k = l.length := by omega
      have HT : Hid (l.take l.length = l) := List.take_length
      have HB := Lib.hid hB
      clear hgb hB
      go_wp2_with fail
      go_ret
      exact ⟨ret_int (by first | rfl | rw [HT.out]), HB.out⟩
    | succ g2 =>
      have hlt : k < l.length := by omega
      have hlt' : (k : Int) < (l.length : Int) := by omega
      obtain ⟨⟨a, b⟩, hx⟩ : ∃ x, l[k]? = some x := ⟨_, List.getElem?_eq_getElem hlt⟩
      obtain ⟨ga, oa, rfl, c0, c1⟩ := HC.out k _ hx
      have q0 := nearv.cell_keep c0 hB
      have q1 := nearv.cell_keep c1 hB
      have HK := Lib.hid (cross_succ (xs := xs) hx)
      have HUW := HU.out.below hB
      have HA := Lib.hid (fun (z : Int) (m : Nat) => l1Has_any u xs z (wr.drewN m) (show Ints _ _ _ from HUW) hxl)
      have HG := Lib.hid hgb
      have HB := Lib.hid hB
      simp only at q0 q1
      clear hx c0 c1 hgb hB HUW
      generalize crossN (l.take k) xs = m0 at *
      go_wp2_with fail
      go_quiet (first | (go_at_call 79; exact quiet_left (HA.out _ _)))
      have HB9 := Lib.hid (below_drewN HB.out nq)
      have HG9 : Hid (Blk (wr.drewN nq) w.heap.size 29 #[.int .i64 s, .slice (some ⟨ga, oa, none⟩) l.length c]) := HG.out
      clear HB HG HA
      generalize decide (a ∈ xs) = x1 at *
      generalize decide (b ∈ xs) = x2 at *
      rcases x1 with _ | _ <;> rcases x2 with _ | _
      all_goals
        go_wp2_with fail
        go_roundg g2
        case measure => omega
        case rel => exact ⟨k + 1, by omega, by go_num, by rw [HK.out]; first | rfl | go_num, HG9.out, HB9.out⟩
theorem cutsL_succ (l : List Ed) (tl : List Int) (k : Nat) : cutsL l tl (k + 1) = cutsL l tl k ++ [cutF l tl k] := by simp [cutsL, List.range_succ]
theorem keep_al {w : World} {p : Addr} {v : Value} {o : Obj} (h : w.cell? p = some v) : (w.alloc o).cell? p = some v :=
  ((Below.refl w.heap.size w).alloc (Nat.le_refl _) o |>.cell (p := p) (World.block_lt_of_cell? w p h)).trans h
set_option maxHeartbeats 2000000 in
set_option maxRecDepth 100000 in
theorem l7Cuts_any (s : Int) (n : Nat) (v u : Value) (l : List Ed) (tl : List Int) (w : World) (h : Edges w v l) (hl : l.length ≤ 1048576) (hu : Ints w u tl) (hnl : tl.length = n) (hn : n ≤ 8) :
    Calls Try.prog 59 #[.agg #[.int .i64 s, v], u] w (RowI w (cutsL l tl n)) := by
  obtain ⟨i0, hi, hz0, hz1, hz2⟩ := info_parts infoInt
  obtain ⟨A, c, rfl, -⟩ := h.form
  obtain ⟨A2, c2, rfl, -⟩ := hu.form
  have H := Lib.hid h
  have HU := Lib.hid hu
  have hcap := ints_cap hu
  have HNL := Lib.hid hnl
  have b0 : Below w.heap.size w ((w.alloc (.cells #[.int .i64 s, .slice A l.length c] 29)).alloc (.cells #[] 3)) := ((Below.refl _ _).alloc (Nat.le_refl _) _).alloc (by simp) _
  have HB0 := Lib.hid b0
  have HG0 := Lib.hid ((Blk.new w 29 #[.int .i64 s, .slice A l.length c]).alloc (.cells #[] 3))
  have o0 := own_new0 (w.alloc (.cells #[.int .i64 s, .slice A l.length c] 29)) 3 1
  rw [World.size_alloc] at o0
  have HO0 := Lib.hid o0
  rw [hnl] at hcap ⊢
  clear h hu b0 o0 hnl
  go_enter Try.func59, Try.ntmps59
  go_wp2_with fail
  go_loopg [5, 6] n (fun g ov iv wr => ∃ (k : Nat) (ow : Value), ow = ov ∧ k + g = n ∧ iv = .int .i64 (k : Int) ∧ wr.ownsRow (w.heap.size + 1) 3 1 ow (cutsL l tl k).length (cellsI (cutsL l tl k)) ∧ Blk wr w.heap.size 29 #[.int .i64 s, .slice A l.length c] ∧ Below w.heap.size w wr)
  case atStart => exact ⟨0, _, rfl, by omega, rfl, HO0.out, HG0.out, HB0.out⟩
  case round =>
    clear HO0 HG0 HB0
    obtain ⟨k, ow, rfl, hkg, rfl, hrow, hgb, hB⟩ := hrel
    obtain ⟨A4, c4, rfl⟩ := own_form hrow
    have hfl := cutsL_len l tl k
    cases gk with
    | zero =>
      obtain rfl : k = n := by omega
      have HR := Lib.hid hrow
      have HB := Lib.hid hB
      clear hrow hgb hB hfl
      go_wp2_with fail
      go_ret
      exact ⟨A4, c4, rfl, own_base HR.out (by omega), HB.out⟩
    | succ g2 =>
      have hlt : k < n := by omega
      have hlt' : (k : Int) < (n : Int) := by omega
      obtain ⟨p0, p1, -, -⟩ := hgb.two
      obtain ⟨k1, hk1⟩ : ∃ k1, k1 = k + 1 := ⟨_, rfl⟩
      have hw1 : IntKind.i64.wrap ((k : Int) + 1) = (k1 : Int) := by rw [hk1]; exact IntWalk.i64_in _ (by omega)
      have hkc' : (k1 : Int) ≤ (c2 : Int) := by omega
      have hk0 : (0 : Int) ≤ (k1 : Int) := by omega
      have HIT : Hid (∀ W, Below w.heap.size w W → Ints W (.slice A2 k1 c2) (tl.take k1)) := fun W hW => by
        have hnl := HNL.out
        exact ints_take ((show Ints w (.slice A2 tl.length c2) tl from HU.out).below hW) (by omega) (by omega)
      have HFR := Lib.hid (l7Cut_any s (.slice A l.length c) (.slice A2 k1 c2) l (tl.take k1) wr.drew (H.out.below hB.drew) hl (HIT.out _ hB.drew) (by rw [List.length_take]; omega))
      have HFL : Hid ((crossN l (tl.take k1) : Int) = cutF l tl k) := by show _ = _; rw [hk1]; rfl
      rw [HFL.out] at HFR
      have HSU := Lib.hid (cutsL_succ l tl k)
      have HK1 := Lib.hid hk1
      have HR := Lib.hid hrow
      have HG := Lib.hid hgb
      have HB := Lib.hid hB
      have hsz := hB.size
      have hgl := hgb.lt
      have hf8 : (cutsL l tl k).length ≤ 8 := by omega
      clear hrow hgb hB hfl hk1 HFL
      generalize (cutF l tl k) = fl at *
      generalize (cutsL l tl k) = m at *
      go_wp2_with fail
      refine wp_region_held_drew (S := (fun w' : World => w'.cell? ⟨w.heap.size, 0, none⟩ = some (.int .i64 s) ∧ w'.cell? ⟨w.heap.size, 1, none⟩ = some (.slice A l.length c))) (by kernel_rfl) (by (try dsimp only); simp [*]) (fun hHeld => ?_)
      change wpAnyH _ _ _ _ _ _ #[false, false, false, false, false, false, false, false, false, false] _ _
      refine wpAnyH_take (i := 0) (oi := ⟨some 14, _, _, _, _, _⟩) (v := ?_) rfl (by kernel_rfl) (by kernel_rfl) (by kernel_rfl) (fun _ _ _ h => h) (Or.inl ⟨by rfl, ?_⟩) (by assumption) ?_
      rotate_left
      · (intro w hSw; (try dsimp only at hSw); go_simp; (try (with_reducible rfl)))
      try simp only [Act.put, List.setIfInBounds_toArray, List.set_cons_zero, List.set_cons_succ]
      refine wpAnyH_take (i := 1) (oi := ⟨some 15, _, _, _, _, _⟩) (v := ?_) rfl (by kernel_rfl) (by kernel_rfl) (by kernel_rfl) (fun _ _ _ h => h) (Or.inl ⟨by rfl, ?_⟩) (by assumption) ?_
      rotate_left
      · (intro w hSw; (try dsimp only at hSw); go_simp; (try (with_reducible rfl)))
      try simp only [Act.put, List.setIfInBounds_toArray, List.set_cons_zero, List.set_cons_succ]
      refine wpAnyH_take (i := 2) (oi := ⟨some 16, _, _, _, _, _⟩) (v := ?_) rfl (by kernel_rfl) (by kernel_rfl) (by kernel_rfl) (fun _ _ _ h => h) (Or.inl ⟨by rfl, ?_⟩) (by assumption) ?_
      rotate_left
      · (intro w hSw; (try dsimp only at hSw); go_simp; (try (with_reducible rfl)))
      try simp only [Act.put, List.setIfInBounds_toArray, List.set_cons_zero, List.set_cons_succ]
      refine wpAnyH_take (i := 3) (oi := ⟨some 17, _, _, _, _, _⟩) (v := ?_) rfl (by kernel_rfl) (by kernel_rfl) (by kernel_rfl) (fun _ _ _ h => h) (Or.inl ⟨by rfl, ?_⟩) (by assumption) ?_
      rotate_left
      · (intro w hSw; (try dsimp only at hSw); go_simp; (try (with_reducible rfl)))
      try simp only [Act.put, List.setIfInBounds_toArray, List.set_cons_zero, List.set_cons_succ]
      refine wpAnyH_take (i := 4) (oi := ⟨some 18, _, _, _, _, _⟩) (v := ?_) rfl (by kernel_rfl) (by kernel_rfl) (by kernel_rfl) (fun _ _ _ h => h) (Or.inl ⟨by rfl, ?_⟩) (by assumption) ?_
      rotate_left
      · (intro w hSw; (try dsimp only at hSw); go_simp; (try (with_reducible rfl)))
      try simp only [Act.put, List.setIfInBounds_toArray, List.set_cons_zero, List.set_cons_succ]
      refine wpAnyH_take (i := 5) (oi := ⟨some 19, _, _, _, _, _⟩) (v := ?_) rfl (by kernel_rfl) (by kernel_rfl) (by kernel_rfl) (fun _ _ _ h => h) (Or.inl ⟨by rfl, ?_⟩) (by assumption) ?_
      rotate_left
      · (intro w hSw; (try dsimp only at hSw); go_simp; (try (with_reducible rfl)))
      try simp only [Act.put, List.setIfInBounds_toArray, List.set_cons_zero, List.set_cons_succ]
      refine wpAnyH_ready (rs := [6]) (by kernel_rfl) (by simp) ?_
      refine AllReadyH.cons (o := ⟨some 20, _, _, _, _, _⟩) rfl (fun K hK => ?_) AllReadyH.nil
      go_simp
      refine HFR.out.mono ?_; rintro e w3 ⟨rfl, b5⟩; have d3 : Below wr.heap.size wr w3 := (Below.refl _ _).drew.trans b5; have HG3 := Lib.hid (HG.out.below d3 HG.out.lt); have HR3 := Lib.hid (own_below HR.out d3); obtain ⟨k0, k1, -, -⟩ := HG3.out.two; have hs3 := d3.size
      go_wp2_with fail
      refine hK.out _ _ (by (try dsimp only); simp [*]) (fun hHeld => ?_)
      clear hK K
      try simp only [List.setIfInBounds_toArray, List.set_cons_zero, List.set_cons_succ]
      refine wpAnyH_ready (rs := [7]) (by kernel_rfl) (by simp) ?_
      refine AllReadyH.cons rfl (fun K hK => ?_) AllReadyH.nil
      go_simp
      refine hK.out _ _ (⟨keep_al k0, keep_al k1⟩) (fun hHeld => ?_)
      clear hK K
      try simp only [List.setIfInBounds_toArray, List.set_cons_zero, List.set_cons_succ]
      refine wpAnyH_ready (rs := [8]) (by kernel_rfl) (by simp) ?_
      refine AllReadyH.cons rfl (fun K hK => ?_) AllReadyH.nil
      (refine step_append_lies _ rfl (.tmp 14) (.tmp 21) 25 rfl (w.heap.size + 1) 3 i0 (.int .i64 0) 1 8 Try.underlying25 hi hz0 hz1 hz2 rfl (by decide) (.slice A4 m.length c4) m.length (cellsI m) rfl (HR3.out.alloc _) ⟨w3.heap.size, 0, none⟩ 1 1 [.int .i64 fl] rfl rfl (cell_one_new _ _ _) (fun x hx => by simp at hx; subst hx; rfl) (by decide) (by unfold maxLen; omega) (by omega) (by simp; omega) (w3.heap.size + 1) (by simp) ?_; intro g8 cap8 w8 hown8 hgrow8 lies8 lt8; have hG8 := (HG3.out.alloc (.cells #[.int .i64 fl] 3)).grown hgrow8 (fun e => own_ne HR3.out HG3.out (by decide) e.symm); obtain ⟨k2, k3, -, -⟩ := hG8.two)
      refine hK.out _ _ (⟨k2, k3⟩) (fun hHeld => ?_)
      clear hK K
      try simp only [Act.put, List.setIfInBounds_toArray, List.set_cons_zero, List.set_cons_succ]
      refine wpAnyH_take (i := 9) (oi := ⟨some 5, _, _, _, _, _⟩) (v := ?_) rfl (by kernel_rfl) (by kernel_rfl) (by kernel_rfl) (fun _ _ _ h => h) (Or.inl ⟨by rfl, ?_⟩) (by assumption) ?_
      rotate_left
      · (intro w hSw; (try dsimp only at hSw); go_simp; (try (with_reducible rfl)))
      try simp only [Act.put, List.setIfInBounds_toArray, List.set_cons_zero, List.set_cons_succ]
      refine wpAnyH_done (by kernel_rfl) ?_ _
      have HO8 := Lib.hid (push1 HR3.out hown8 hgrow8 (by omega))
      have HB8 := Lib.hid ((btrans HB.out d3).trans (HO8.out.2.mono (by omega)))
      have HG8 := Lib.hid hG8
      clear hG8 hown8 hgrow8 lies8 lt8 k0 k1 k2 k3 p0 p1 b5 d3 hHeld
      go_wp2_with fail
      go_roundg g2
      case measure => omega
      case rel =>
        have h_ := HO8.out.1
        rw [← HSU.out] at h_
        exact ⟨k + 1, _, rfl, by omega, by first | go_num | rw [HK1.out], h_, HG8.out, HB8.out⟩
set_option maxHeartbeats 1000000 in
set_option maxRecDepth 100000 in
theorem specCuts_any (s : Int) (v u : Value) (l : List Ed) (tl : List Int) (w : World) (h : Edges w v l) (hl : l.length ≤ 1048576) (hu : Ints w u tl) (htl : tl.length ≤ 1048576) (hs1 : -9223372036854775808 ≤ s) (hs2 : s ≤ 9223372036854775807) :
    Calls Try.prog 22 #[.agg #[.int .i64 s, v], u] w (RetI w (ElimOk s l tl) (cutsL l tl s.toNat)) := by
  obtain ⟨A, c, rfl, -⟩ := h.form
  have H := Lib.hid h
  have HU := Lib.hid hu
  have b0 : Below w.heap.size w (w.alloc (.cells #[.int .i64 s, .slice A l.length c] 29)) := (Below.refl _ _).alloc (Nat.le_refl _) _
  have g0 := Blk.new w 29 #[.int .i64 s, .slice A l.length c]
  have HO := Lib.hid (l7Order_any s _ u l tl _ (h.below b0) hl (hu.below b0) htl hs1 hs2)
  clear h hu
  by_cases hok : ElimOk s l tl
  · rw [okG_yes hok] at HO
    have h0 := hok.1.1
    have h8 := hok.1.2.1
    obtain ⟨n, rfl⟩ : ∃ n : Nat, s = (n : Int) := ⟨s.toNat, by omega⟩
    rw [Int.toNat_natCast]
    have HOK := Lib.hid hok
    have hn : n ≤ 8 := by omega
    clear hok
    go_enter Try.func22, Try.ntmps22
    go_wp2_with fail
    refine HO.out.mono ?_
    rintro e w1 ⟨rfl, b1⟩
    have e1 := btrans b0 b1
    have g1 := g0.below b1 g0.lt
    obtain ⟨p0, p1, -, -⟩ := g1.two
    clear HO b0 b1 g0
    go_wp2_with fail
    refine (l7Cuts_any (n : Int) n (.slice A l.length c) u l tl w1 (H.out.below e1) hl (HU.out.below e1) (by have := HOK.out.2.1; rwa [Int.toNat_natCast] at this) hn).mono ?_
    rintro e w2 ⟨A2, c2, rfl, o2, b2⟩
    go_wp2_with fail
    go_ret2
    exact RetI.yes HOK.out (own_base o2 e1.size) (btrans e1 b2)
  · rw [okG_no hok] at HO
    have HN := Lib.hid hok
    clear hok
    go_enter Try.func22, Try.ntmps22
    go_wp2_with fail
    refine HO.out.mono ?_
    rintro e w1 ⟨rfl, b1⟩
    have HE1 := Lib.hid (btrans b0 b1)
    have HOW := Lib.hid (own_new0 w1 3 1)
    go_wp2_with fail
    go_ret2
    exact RetI.no HN.out (own_base HOW.out HE1.out.size) (HE1.out.alloc HE1.out.size _)
set_option maxHeartbeats 1000000 in
set_option maxRecDepth 100000 in
theorem specCutwidth_any (s : Int) (v u : Value) (l : List Ed) (tl : List Int) (w : World) (h : Edges w v l) (hl : l.length ≤ 1048576) (hu : Ints w u tl) (htl : tl.length ≤ 1048576) (hs1 : -9223372036854775808 ≤ s) (hs2 : s ≤ 9223372036854775807) :
    Calls Try.prog 27 #[.agg #[.int .i64 s, v], u] w (RetN w (ElimOk s l tl) (grL (cutsL l tl s.toNat))) := by
  obtain ⟨A, c, rfl, -⟩ := h.form
  have H := Lib.hid h
  have HU := Lib.hid hu
  have b0 : Below w.heap.size w (w.alloc (.cells #[.int .i64 s, .slice A l.length c] 29)) := (Below.refl _ _).alloc (Nat.le_refl _) _
  have g0 := Blk.new w 29 #[.int .i64 s, .slice A l.length c]
  have HO := Lib.hid (l7Order_any s _ u l tl _ (h.below b0) hl (hu.below b0) htl hs1 hs2)
  clear h hu
  by_cases hok : ElimOk s l tl
  · rw [okG_yes hok] at HO
    have h0 := hok.1.1
    have h8 := hok.1.2.1
    obtain ⟨n, rfl⟩ : ∃ n : Nat, s = (n : Int) := ⟨s.toNat, by omega⟩
    rw [Int.toNat_natCast]
    have HOK := Lib.hid hok
    have hn : n ≤ 8 := by omega
    have hcl := cutsL_len l tl n
    have hcl8 : (cutsL l tl n).length ≤ 1048576 := by omega
    have HGR := Lib.hid (fun (W : World) (A : Option Addr) (c : Nat) (hr : Ints W (.slice A (cutsL l tl n).length c) (cutsL l tl n)) => l7Greatest_any _ (cutsL l tl n) W hr hcl8)
    clear hok hcl
    go_enter Try.func27, Try.ntmps27
    go_wp2_with fail
    refine HO.out.mono ?_
    rintro e w1 ⟨rfl, b1⟩
    have e1 := btrans b0 b1
    have g1 := g0.below b1 g0.lt
    obtain ⟨p0, p1, -, -⟩ := g1.two
    clear HO b0 b1 g0
    go_wp2_with fail
    refine (l7Cuts_any (n : Int) n (.slice A l.length c) u l tl w1 (H.out.below e1) hl (HU.out.below e1) (by have := HOK.out.2.1; rwa [Int.toNat_natCast] at this) hn).mono ?_
    rintro e w2 ⟨A2, c2, rfl, o2, b2⟩
    have HG2 := Lib.hid (HGR.out w2 A2 c2 (Reads.of_own o2))
    have HB2 := Lib.hid (btrans e1 b2)
    clear o2 b2
    go_wp2_with fail
    refine HG2.out.mono ?_
    rintro e w' ⟨rfl, rfl⟩
    go_wp2_with fail
    go_ret2
    exact RetN.yes HOK.out HB2.out
  · rw [okG_no hok] at HO
    have HN := Lib.hid hok
    clear hok
    go_enter Try.func27, Try.ntmps27
    go_wp2_with fail
    refine HO.out.mono ?_
    rintro e w1 ⟨rfl, b1⟩
    go_wp2_with fail
    go_ret2
    exact RetN.no HN.out (btrans b0 b1)
end Go.Proofs.Ytphlpipbhaiijaa.lays
