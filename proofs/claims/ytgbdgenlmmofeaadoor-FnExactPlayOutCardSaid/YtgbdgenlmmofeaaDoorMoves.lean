/- The contracts of RobberMove and CopMove: of the program and of the model. -/
import Derived.Test.YtgbdgenlmmofeaaDoorHunt
import Derived.Test.YtgbdgenlmmofeaaDoorTimeU
namespace Go.Proofs.YtgbdgenlmmofeaaDoor.times
open Go.RowKit P2 words edges ints good adjs fns sets rets covs balls minmax bitsI bags gridr mids grid reps strip least func
set_option linter.unusedVariables false

theorem pair_nodes {s : Int} {l : List Ed} {x y : Int} (h : nodesB s l [x, y] = true) : P2.Good s l ∧ (0 ≤ x ∧ x < s) ∧ 0 ≤ y ∧ y < s :=
  ⟨(nodesB_iff.1 h).1, (nodesB_iff.1 h).2 x (by simp), (nodesB_iff.1 h).2 y (by simp)⟩
theorem pair_no {s : Int} {l : List Ed} {x y : Int} (h : ¬ (P2.Good s l ∧ (0 ≤ x ∧ x < s) ∧ 0 ≤ y ∧ y < s)) : nodesB s l [x, y] = false := by
  cases hb : nodesB s l [x, y] with
  | false => rfl
  | true => exact absurd (pair_nodes hb) h
theorem pair_yes {s : Int} {l : List Ed} {x y : Int} (h : P2.Good s l) (hx : 0 ≤ x ∧ x < s) (hy : 0 ≤ y ∧ y < s) : nodesB s l [x, y] = true :=
  nodesB_yes h (fun z hz => by simp at hz; rcases hz with rfl | rfl; exact hx; exact hy)
theorem own_pair (w : World) (t : TypeId) (x y : Int) : (w.alloc (.cells #[.int .i64 x, .int .i64 y] t)).ownsRow w.heap.size t 1 (.slice (some ⟨w.heap.size, 0, none⟩) 2 2) [x, y].length (cellsI [x, y]) :=
  World.ownsRow_lit (size := 1) w #[.int .i64 x, .int .i64 y] 2 (Nat.le_refl _) (by unfold maxLen; omega) rfl
noncomputable def robOk (s : Int) (l : List Ed) (c r : Int) : Bool := nodesB s l [c, r] && c != r
noncomputable def robV (s : Int) (l : List Ed) (c r : Int) : Int := if robOk s l c r = true then fleeL (tms (one l s.toNat) c.toNat) (hd (ballL l s.toNat r.toNat)) (ballL l s.toNat r.toNat) else 0
noncomputable def copOk (s : Int) (l : List Ed) (c r : Int) : Bool := nodesB s l [c, r] && decide (1 ≤ tms (one l s.toNat) c.toNat r.toNat)
noncomputable def copV (s : Int) (l : List Ed) (c r : Int) : Int := if copOk s l c r = true then huntL (one l s.toNat) (tms (one l s.toNat)) l (ballL l s.toNat c.toNat) c.toNat r.toNat else 0

set_option maxHeartbeats 2000000 in
set_option maxRecDepth 100000 in
theorem l3Two_any (s x y : Int) (v : Value) (l : List Ed) (w : World) (h : Edges w v l) (hl : l.length ≤ 1048576) (hs1 : -9223372036854775808 ≤ s) (hs2 : s ≤ 9223372036854775807) :
    Calls Tryd.prog 34 #[.agg #[.int .i64 s, v], .int .i64 x, .int .i64 y] w fun e w' => e = .returned (.bool (nodesB s l [x, y])) ∧ Below w.heap.size w w' := by
  obtain ⟨A, c, rfl, -⟩ := h.form
  have H := Lib.hid h
  have b0 : Below w.heap.size w (w.alloc (.cells #[.int .i64 s, .slice A l.length c] 29)) := (Below.refl _ _).alloc (Nat.le_refl _) _
  have g0 := Blk.new w 29 #[.int .i64 s, .slice A l.length c]
  have HG := Lib.hid (l2Good_any s _ l _ (h.below b0) hl hs1 hs2)
  clear h
  by_cases hgd : P2.Good s l
  · rw [goodB_yes hgd] at HG
    have h0 := hgd.1
    have h8 := hgd.2.1
    have HNX := Lib.hid (fun (W : World) (hW : Below w.heap.size w W) => l2Node_any s x _ l W (H.out.below hW) h0 h8)
    have HNY := Lib.hid (fun (W : World) (hW : Below w.heap.size w W) => l2Node_any s y _ l W (H.out.below hW) h0 h8)
    by_cases hx : 0 ≤ x ∧ x < s
    · have ix : inB x 0 (s - 1) = true := by simp [inB]; omega
      simp only [ix] at HNX
      by_cases hy : 0 ≤ y ∧ y < s
      · have iy : inB y 0 (s - 1) = true := by simp [inB]; omega
        simp only [iy] at HNY
        have HV := Lib.hid (pair_yes hgd hx hy)
        clear hgd hx hy ix iy
        go_enter Tryd.func34, Tryd.ntmps34
        go_wp2_with fail
        refine HG.out.mono ?_
        rintro e w1 ⟨rfl, b1⟩
        have e1 := btrans b0 b1
        have g1 := g0.below b1 g0.lt
        clear HG b0 b1 g0
        obtain ⟨p0, p1, -, -⟩ := g1.two
        go_wp2_with fail
        refine (HNX.out _ e1).mono ?_
        rintro e w2 ⟨rfl, b2⟩
        have e2 := btrans e1 b2
        have g2 := g1.below b2 g1.lt
        clear e1 b2 g1 p0 p1
        obtain ⟨p0, p1, -, -⟩ := g2.two
        go_wp2_with fail
        refine (HNY.out _ e2).mono ?_
        rintro e w3 ⟨rfl, b3⟩
        go_wp2_with fail
        go_ret
        exact ⟨ret_bool HV.out.symm, btrans e2 b3⟩
      · have iy : inB y 0 (s - 1) = false := by simp [inB]; omega
        simp only [iy] at HNY
        have HV := Lib.hid (pair_no (s := s) (l := l) (x := x) (y := y) (fun h => hy h.2.2))
        clear hgd hx hy ix iy
        go_enter Tryd.func34, Tryd.ntmps34
        go_wp2_with fail
        refine HG.out.mono ?_
        rintro e w1 ⟨rfl, b1⟩
        have e1 := btrans b0 b1
        have g1 := g0.below b1 g0.lt
        clear HG b0 b1 g0
        obtain ⟨p0, p1, -, -⟩ := g1.two
        go_wp2_with fail
        refine (HNX.out _ e1).mono ?_
        rintro e w2 ⟨rfl, b2⟩
        have e2 := btrans e1 b2
        have g2 := g1.below b2 g1.lt
        clear e1 b2 g1 p0 p1
        obtain ⟨p0, p1, -, -⟩ := g2.two
        go_wp2_with fail
        refine (HNY.out _ e2).mono ?_
        rintro e w3 ⟨rfl, b3⟩
        go_wp2_with fail
        go_ret
        exact ⟨ret_bool HV.out.symm, btrans e2 b3⟩
    · have ix : inB x 0 (s - 1) = false := by simp [inB]; omega
      simp only [ix] at HNX
      have HV := Lib.hid (pair_no (s := s) (l := l) (x := x) (y := y) (fun h => hx h.2.1))
      clear hgd hx ix
      go_enter Tryd.func34, Tryd.ntmps34
      go_wp2_with fail
      refine HG.out.mono ?_
      rintro e w1 ⟨rfl, b1⟩
      have e1 := btrans b0 b1
      have g1 := g0.below b1 g0.lt
      clear HG b0 b1 g0
      obtain ⟨p0, p1, -, -⟩ := g1.two
      go_wp2_with fail
      refine (HNX.out _ e1).mono ?_
      rintro e w2 ⟨rfl, b2⟩
      go_wp2_with fail
      go_ret
      exact ⟨ret_bool HV.out.symm, btrans e1 b2⟩
  · rw [goodB_no hgd] at HG
    have HV := Lib.hid (pair_no (s := s) (l := l) (x := x) (y := y) (fun h => hgd h.1))
    clear hgd
    go_enter Tryd.func34, Tryd.ntmps34
    go_wp2_with fail
    refine HG.out.mono ?_
    rintro e w1 ⟨rfl, b1⟩
    go_wp2_with fail
    go_ret
    exact ⟨ret_bool HV.out.symm, btrans b0 b1⟩
set_option maxHeartbeats 2000000 in
set_option maxRecDepth 100000 in
theorem implRob_any (s x y : Int) (v : Value) (l : List Ed) (w : World) (hE : Env w) (h : Edges w v l) (hl : l.length ≤ 1048576) :
    Calls Tryd.prog 19 #[.agg #[.int .i64 s, v], .int .i64 x, .int .i64 y] w fun e w' => e = .returned (.tuple #[.int .i64 (robV s l x y), .bool (robOk s l x y)]) ∧ Below w.heap.size w w' := by
  obtain ⟨A, c, rfl, -⟩ := h.form
  have H := Lib.hid h
  have b0 : Below w.heap.size w ((w.alloc (.cells #[.int .i64 s, .slice A l.length c] 29)).alloc (.cells #[.int .i64 x, .int .i64 y] 3)) := ((Below.refl _ _).alloc (Nat.le_refl _) _).alloc (by simp) _
  have g0 := (Blk.new w 29 #[.int .i64 s, .slice A l.length c]).alloc (.cells #[.int .i64 x, .int .i64 y] 3)
  have i1 := Reads.of_own (own_pair (w.alloc (.cells #[.int .i64 s, .slice A l.length c] 29)) 3 x y)
  rw [World.size_alloc] at i1
  have HO := Lib.hid (hasNodes_any s (.slice A l.length c) (.slice (some ⟨w.heap.size + 1, 0, none⟩) 2 2) l [x, y] _ (h.below b0) hl i1 (by simp))
  clear h i1
  cases hnb : nodesB s l [x, y] with
  | false =>
    rw [hnb] at HO
    have HV : Hid (robOk s l x y = false) := by show _ = _; unfold robOk; rw [hnb]; rfl
    have HV2 : Hid (robV s l x y = 0) := if_neg (by rw [HV.out]; simp)
    clear hnb
    go_enter Tryd.func19, Tryd.ntmps19
    go_wp2_with fail
    refine HO.out.mono ?_
    rintro e w1 ⟨rfl, b1⟩
    go_wp2_with fail
    go_ret2
    exact ⟨by rw [HV.out, HV2.out]; rfl, btrans b0 b1⟩
  | true =>
    rw [hnb] at HO
    obtain ⟨n, rfl⟩ : ∃ n : Nat, s = (n : Int) := ⟨s.toNat, by have := (nodesB_iff.1 hnb).1.1; omega⟩
    obtain ⟨hgd, hx, hy⟩ := pair_nodes hnb
    obtain ⟨x, rfl⟩ : ∃ k : Nat, x = (k : Int) := ⟨x.toNat, by omega⟩
    obtain ⟨y, rfl⟩ : ∃ k : Nat, y = (k : Int) := ⟨y.toNat, by omega⟩
    have hn8 : n ≤ 8 := by have := hgd.2.1; omega
    have hxn : x < n := by omega
    have hyn : y < n := by omega
    have HGD := Lib.hid hgd
    clear hgd hx hy
    by_cases hxy : (x : Int) = (y : Int)
    · have d0 : ((x : Int) == (y : Int)) = true := by simpa using hxy
      have HV : Hid (robOk (n : Int) l x y = false) := by show _ = _; unfold robOk; rw [hnb, hxy]; simp
      have HV2 : Hid (robV (n : Int) l x y = 0) := if_neg (by rw [HV.out]; simp)
      clear hnb hxy
      go_enter Tryd.func19, Tryd.ntmps19
      go_wp2_with fail
      refine HO.out.mono ?_
      rintro e w1 ⟨rfl, b1⟩
      go_wp2_with fail
      go_ret2
      exact ⟨by rw [HV.out, HV2.out]; rfl, btrans b0 b1⟩
    · have d0 : ((x : Int) == (y : Int)) = false := by simpa using hxy
      have HV : Hid (robOk (n : Int) l x y = true) := by show _ = _; unfold robOk; rw [hnb]; simpa using hxy
      have HV2 : Hid (robV (n : Int) l x y = fleeL (tms (one l n) x) (hd (ballL l n y)) (ballL l n y)) := if_pos HV.out
      clear hnb hxy
      go_enter Tryd.func19, Tryd.ntmps19
      go_wp2_with fail
      refine HO.out.mono ?_
      rintro e w1 ⟨rfl, b1⟩
      have e1 := btrans b0 b1
      have g1 := g0.below b1 g0.lt
      clear HO b0 b1 g0
      obtain ⟨p0, p1, -, -⟩ := g1.two
      go_wp2_with fail
      refine (chaseIn_any n (.slice A l.length c) l w1 (H.out.below e1) hl HGD.out).mono ?_
      rintro e w2 ⟨cv, tv, mv, xv, us, us', rfl, hCh, -, o2, b2⟩
      have e2 := btrans e1 b2
      go_wp2_with fail
      refine (flight_any n n x y (tms (one l n)) l cv tv mv xv us' w2 hCh.closed (gridl.readsG_of_own o2) HGD.out hn8 (by omega) hxn hyn (hE.next e2)).mono ?_
      rintro e w3 ⟨rfl, b3⟩
      go_wp2_with fail
      go_ret2
      exact ⟨by rw [HV.out, HV2.out]; rfl, btrans e2 b3⟩
set_option maxHeartbeats 2000000 in
set_option maxRecDepth 100000 in
theorem specRob_any (s x y : Int) (v : Value) (l : List Ed) (w : World) (h : Edges w v l) (hl : l.length ≤ 1048576) (hs1 : -9223372036854775808 ≤ s) (hs2 : s ≤ 9223372036854775807) :
    Calls Tryd.prog 18 #[.agg #[.int .i64 s, v], .int .i64 x, .int .i64 y] w fun e w' => e = .returned (.tuple #[.int .i64 (robV s l x y), .bool (robOk s l x y)]) ∧ Below w.heap.size w w' := by
  obtain ⟨A, c, rfl, -⟩ := h.form
  have H := Lib.hid h
  have b0 : Below w.heap.size w (w.alloc (.cells #[.int .i64 s, .slice A l.length c] 29)) := (Below.refl _ _).alloc (Nat.le_refl _) _
  have g0 := Blk.new w 29 #[.int .i64 s, .slice A l.length c]
  have HO := Lib.hid (l3Two_any s x y _ l _ (h.below b0) hl hs1 hs2)
  clear h
  cases hnb : nodesB s l [x, y] with
  | false =>
    rw [hnb] at HO
    have HV : Hid (robOk s l x y = false) := by show _ = _; unfold robOk; rw [hnb]; rfl
    have HV2 : Hid (robV s l x y = 0) := if_neg (by rw [HV.out]; simp)
    clear hnb
    go_enter Tryd.func18, Tryd.ntmps18
    go_wp2_with fail
    refine HO.out.mono ?_
    rintro e w1 ⟨rfl, b1⟩
    go_wp2_with fail
    go_ret2
    exact ⟨by rw [HV.out, HV2.out]; rfl, btrans b0 b1⟩
  | true =>
    rw [hnb] at HO
    obtain ⟨n, rfl⟩ : ∃ n : Nat, s = (n : Int) := ⟨s.toNat, by have := (nodesB_iff.1 hnb).1.1; omega⟩
    obtain ⟨hgd, hx, hy⟩ := pair_nodes hnb
    obtain ⟨x, rfl⟩ : ∃ k : Nat, x = (k : Int) := ⟨x.toNat, by omega⟩
    obtain ⟨y, rfl⟩ : ∃ k : Nat, y = (k : Int) := ⟨y.toNat, by omega⟩
    have hn8 : n ≤ 8 := by have := hgd.2.1; omega
    have hxn : x < n := by omega
    have hyn : y < n := by omega
    have HGD := Lib.hid hgd
    clear hgd hx hy
    by_cases hxy : (x : Int) = (y : Int)
    · have d0 : ((x : Int) == (y : Int)) = true := by simpa using hxy
      have HV : Hid (robOk (n : Int) l x y = false) := by show _ = _; unfold robOk; rw [hnb, hxy]; simp
      have HV2 : Hid (robV (n : Int) l x y = 0) := if_neg (by rw [HV.out]; simp)
      clear hnb hxy
      go_enter Tryd.func18, Tryd.ntmps18
      go_wp2_with fail
      refine HO.out.mono ?_
      rintro e w1 ⟨rfl, b1⟩
      go_wp2_with fail
      go_ret2
      exact ⟨by rw [HV.out, HV2.out]; rfl, btrans b0 b1⟩
    · have d0 : ((x : Int) == (y : Int)) = false := by simpa using hxy
      have HV : Hid (robOk (n : Int) l x y = true) := by show _ = _; unfold robOk; rw [hnb]; simpa using hxy
      have HV2 : Hid (robV (n : Int) l x y = fleeL (tms (one l n) x) (hd (ballL l n y)) (ballL l n y)) := if_pos HV.out
      clear hnb hxy
      go_enter Tryd.func18, Tryd.ntmps18
      go_wp2_with fail
      refine HO.out.mono ?_
      rintro e w1 ⟨rfl, b1⟩
      have e1 := btrans b0 b1
      have g1 := g0.below b1 g0.lt
      clear HO b0 b1 g0
      obtain ⟨p0, p1, -, -⟩ := g1.two
      have HED : Hid (Below w.heap.size w w1.drew) := e1.drew
      have p0' : w1.drew.cell? ⟨w.heap.size, 0, none⟩ = _ := p0
      have p1' : w1.drew.cell? ⟨w.heap.size, 1, none⟩ = _ := p1
      go_wp2_with fail
      refine wp_region_held_drew (S := (fun w' : World => w'.cell? ⟨w.heap.size, 0, none⟩ = some (.int .i64 (n : Int)) ∧ w'.cell? ⟨w.heap.size, 1, none⟩ = some (.slice A l.length c))) (by kernel_rfl) (by (try dsimp only); simp [*]) (fun hHeld => ?_)
      change wpAnyH _ _ _ _ _ _ #[false, false, false, false, false, false, false, false] _ _
      refine wpAnyH_take (i := 0) (oi := ⟨some 18, _, _, _, _, _⟩) (v := ?_) rfl (by kernel_rfl) (by kernel_rfl) (by kernel_rfl) (fun _ _ _ h => h) (Or.inl ⟨by rfl, ?_⟩) (by assumption) ?_
      rotate_left
      · (intro w hSw; (try dsimp only at hSw); go_simp; (try (with_reducible rfl)))
      try simp only [Act.put, List.setIfInBounds_toArray, List.set_cons_zero, List.set_cons_succ]
      refine wpAnyH_take (i := 1) (oi := ⟨some 19, _, _, _, _, _⟩) (v := ?_) rfl (by kernel_rfl) (by kernel_rfl) (by kernel_rfl) (fun _ _ _ h => h) (Or.inl ⟨by rfl, ?_⟩) (by assumption) ?_
      rotate_left
      · (intro w hSw; (try dsimp only at hSw); go_simp; (try (with_reducible rfl)))
      try simp only [Act.put, List.setIfInBounds_toArray, List.set_cons_zero, List.set_cons_succ]
      refine wpAnyH_take (i := 3) (oi := ⟨some 21, _, _, _, _, _⟩) (v := ?_) rfl (by kernel_rfl) (by kernel_rfl) (by kernel_rfl) (fun _ _ _ h => h) (Or.inl ⟨by rfl, ?_⟩) (by assumption) ?_
      rotate_left
      · (intro w hSw; (try dsimp only at hSw); go_simp; (try (with_reducible rfl)))
      try simp only [Act.put, List.setIfInBounds_toArray, List.set_cons_zero, List.set_cons_succ]
      refine wpAnyH_take (i := 4) (oi := ⟨some 22, _, _, _, _, _⟩) (v := ?_) rfl (by kernel_rfl) (by kernel_rfl) (by kernel_rfl) (fun _ _ _ h => h) (Or.inl ⟨by rfl, ?_⟩) (by assumption) ?_
      rotate_left
      · (intro w hSw; (try dsimp only at hSw); go_simp; (try (with_reducible rfl)))
      try simp only [Act.put, List.setIfInBounds_toArray, List.set_cons_zero, List.set_cons_succ]
      refine wpAnyH_ready (rs := [2]) (by kernel_rfl) (by simp) ?_
      refine AllReadyH.cons (o := ⟨some 20, _, _, _, _, _⟩) rfl (fun K hK => ?_) AllReadyH.nil
      go_simp
      go_at_call 35; refine (l3Times_any n (.slice A l.length c) l _ (H.out.below HED.out) hl hn8).mono ?_; rintro e w3 ⟨A3, c3, us, rfl, o3, b3⟩; have k0 := nearv.cell_keep p0' b3; have k1 := nearv.cell_keep p1' b3; have HE3 := Lib.hid (btrans HED.out b3); have HR := Lib.hid (gridl.readsG_of_own o3); clear b3 o3
      go_wp2_with fail
      refine hK.out _ _ (by (try dsimp only); simp [*]) (fun hHeld => ?_)
      clear hK K
      try simp only [List.setIfInBounds_toArray, List.set_cons_zero, List.set_cons_succ]
      refine wpAnyH_ready (rs := [5]) (by kernel_rfl) (by simp) ?_
      refine AllReadyH.cons (o := ⟨some 23, _, _, _, _, _⟩) rfl (fun K hK => ?_) AllReadyH.nil
      go_simp
      go_at_call 40; refine (l3Flee_any n x y (tms (one l n)) (.slice A l.length c) _ us l w3 (H.out.below HE3.out) hl HR.out hn8 hxn hyn).mono ?_; rintro e w4 ⟨rfl, b4⟩; have k4 := nearv.cell_keep k0 b4; have k5 := nearv.cell_keep k1 b4; have HE4 := Lib.hid (btrans HE3.out b4); clear b4
      go_wp2_with fail
      refine hK.out _ _ (by (try dsimp only); simp [*]) (fun hHeld => ?_)
      clear hK K
      try simp only [List.setIfInBounds_toArray, List.set_cons_zero, List.set_cons_succ]
      refine wpAnyH_take (i := 6) (oi := ⟨some 6, _, _, _, _, _⟩) (v := ?_) rfl (by kernel_rfl) (by kernel_rfl) (by kernel_rfl) (fun _ _ _ h => h) (Or.inl ⟨by rfl, ?_⟩) (by assumption) ?_
      rotate_left
      · (intro w hSw; (try dsimp only at hSw); go_simp; (try (with_reducible rfl)))
      try simp only [Act.put, List.setIfInBounds_toArray, List.set_cons_zero, List.set_cons_succ]
      refine wpAnyH_take (i := 7) (oi := ⟨some 7, _, _, _, _, _⟩) (v := ?_) rfl (by kernel_rfl) (by kernel_rfl) (by kernel_rfl) (fun _ _ _ h => h) (Or.inl ⟨by rfl, ?_⟩) (by assumption) ?_
      rotate_left
      · (intro w hSw; (try dsimp only at hSw); go_simp; (try (with_reducible rfl)))
      try simp only [Act.put, List.setIfInBounds_toArray, List.set_cons_zero, List.set_cons_succ]
      refine wpAnyH_done (by kernel_rfl) ?_ _
      go_wp2_with fail
      go_ret2
      exact ⟨by rw [HV.out, HV2.out]; rfl, HE4.out⟩
theorem tms_ge (G : Game) (p r : Nat) : -1 ≤ tms G p r := (tm_small _ p r).1
theorem one_le {l : List Ed} {n x y : Nat} (hn : n ≤ 8) (hx : x < n) (hy : y < n) : tms (one l n) x y ≤ 1000000 := by
  have h2 := tms_le (G := one l n) (p := x) (r := y) hx hy
  have h3 : n * n ≤ 8 * 8 := Nat.mul_le_mul hn hn
  have h4 : ((one l n).P * (one l n).n) = n * n := rfl
  rw [h4] at h2
  omega
set_option maxHeartbeats 2000000 in
set_option maxRecDepth 100000 in
theorem l3Chase_any (n p r : Nat) (v t : Value) (us : List Value) (l : List Ed) (w : World) (h : Edges w v l) (hl : l.length ≤ 1048576) (ht : ReadsG w t us (tabL n (tms (one l n)))) (hn : n ≤ 8) (hp : p < n) (hr : r < n) (h1 : 1 ≤ tms (one l n) p r) :
    Calls Tryd.prog 36 #[.agg #[.int .i64 (n : Int), v], t, .int .i64 (p : Int), .int .i64 (r : Int)] w fun e w' => e = .returned (.int .i64 (huntL (one l n) (tms (one l n)) l (ballL l n p) p r)) ∧ Below w.heap.size w w' := by
  obtain ⟨K, q, hkq, hL, hqP, hqB, hno⟩ := hunt_is (G := one l n) (ml := mvK l n n) rfl (moves_one l n) hp hr (mvK_at hp) h1
  have hT1 := tms_ge (one l n) p r
  have hT2 := one_le (l := l) hn hp hr
  have hwr : IntKind.i64.wrap (tms (one l n) p r - 1) = tms (one l n) p r - 1 := IntWalk.i64_in _ (by omega)
  obtain ⟨A, c, rfl, -⟩ := h.form
  have H := Lib.hid h
  have HA := Lib.hid (fun (q : Nat) (hq : q < n) (W : World) (hW : Below w.heap.size w W) => l3After_any n q r (tms (one l n)) _ _ us l W (h.below hW) hl (ht.below hW) hn hq hr)
  obtain ⟨At, ct, rfl, -⟩ := ht.1
  rw [tabL_len] at *
  obtain ⟨u, gt, ot, hu, rfl, c0, hru⟩ := ht.row (tabL_at (T := tms (one l n)) hp)
  obtain ⟨Ar, cr, rfl, hcr⟩ := hru.form
  obtain ⟨gr, orr, rfl, f0⟩ := hcr r _ (rowL_at hr)
  rw [rowL_len] at c0
  have b0 : Below w.heap.size w (w.alloc (.cells #[.int .i64 (n : Int), .slice A l.length c] 29)) := (Below.refl _ _).alloc (Nat.le_refl _) _
  have g0 := Blk.new w 29 #[.int .i64 (n : Int), .slice A l.length c]
  have HB := Lib.hid (l2Ball_any n (p : Int) _ l _ (h.below b0) hl hn (by omega))
  have hlen : (ballL l n p).length ≤ n := nw_len (ballB l p) n
  have HBL := Lib.hid (fun k b hb => ballL_mem (l := l) (n := n) (x := p) (k := k) (b := b) hb)
  rw [Int.toNat_natCast] at HB
  have HV : Hid (nw (ballB l p) n = ballL l n p) := rfl
  rw [HV.out] at HB
  have HAO := Lib.hid (fun q => after_one l n (tms (one l n)) q r)
  simp only [← HAO.out] at HA
  have HYES : Hid (afterG (one l n) (tms (one l n)) l q r = tms (one l n) p r - 1) := by
    show _ = _
    have := hqB
    unfold huntB at this
    simpa using this
  have HNO : Hid (∀ (j y : Nat), j < K → (ballL l n p)[j]? = some (y : Int) → afterG (one l n) (tms (one l n)) l y r ≠ tms (one l n) p r - 1) := fun j y hj hy => by
    have := hno j _ hj hy
    unfold huntB at this
    simpa using this
  have HKQ := Lib.hid hkq
  have HL := Lib.hid hL
  have hK : K < (ballL l n p).length := (List.getElem?_eq_some_iff.1 hkq).1
  have hp' : (p : Int) < (n : Int) := by omega
  have hp0 : (0 : Int) ≤ (p : Int) := by omega
  have hr' : (r : Int) < (n : Int) := by omega
  have hr0 : (0 : Int) ≤ (r : Int) := by omega
  have HC0 : Hid (w.cell? ⟨gt, ot + p, none⟩ = some (.slice (some ⟨gr, orr, none⟩) n cr)) := c0
  have HF0 : Hid (w.cell? ⟨gr, orr + r, none⟩ = some (.int .i64 (tms (one l n) p r))) := f0
  generalize tms (one l n) p r = tv at *
  generalize ballL l n p = bl at *
  clear h ht hu hru hcr HV c0 f0 hno hkq hqB hL hT1 hT2 HAO
  go_enter Tryd.func36, Tryd.ntmps36
  go_wp2_with fail
  refine HB.out.mono ?_
  rintro e w1 ⟨A1, c1, rfl, r1, b1⟩
  have e1 := btrans b0 b1
  have g1 := g0.below b1 g0.lt
  obtain ⟨_, _, hf, hc1⟩ := Ints.form r1
  cases hf
  have HC := Lib.hid hc1
  have he1 := e1.size
  clear HB b0 g0 b1 r1 hc1
  go_wp2_with fail
  go_loopg [10] K (fun g i wr => ∃ k : Nat, k + g = K ∧ i = .int .i64 (k : Int) ∧ Blk wr w.heap.size 29 #[.int .i64 (n : Int), .slice A l.length c] ∧ Below w1.heap.size w1 wr)
  case atStart => exact ⟨0, by omega, rfl, g1, Below.refl _ _⟩
  case round =>
    obtain ⟨k, hkg, rfl, hgb, hB⟩ := hrel
    obtain ⟨p0, p1, -, -⟩ := hgb.two
    have hB0 := btrans e1 hB
    have hlt : k < bl.length := by omega
    have hlt' : (k : Int) < (bl.length : Int) := by omega
    obtain ⟨b, hb⟩ : ∃ b, bl[k]? = some b := ⟨_, List.getElem?_eq_getElem hlt⟩
    obtain ⟨ga, oa, rfl, d0⟩ := HC.out k b hb
    obtain ⟨y, rfl, hy, -⟩ := HBL.out k b hb
    have m0 : wr.cell? ⟨ga, oa + k, none⟩ = some (.int .i64 (y : Int)) := nearv.cell_keep d0 hB
    have c0 := nearv.cell_keep HC0.out hB0
    have f0 := nearv.cell_keep HF0.out hB0
    have HCV := Lib.hid (HA.out y hy wr.drew hB0.drew)
    have HGD := Lib.hid (hgb.drewN 1)
    have HBD : Hid (Below w1.heap.size w1 wr.drew) := hB.drew
    have p0' : wr.drew.cell? ⟨w.heap.size, 0, none⟩ = _ := p0
    have p1' : wr.drew.cell? ⟨w.heap.size, 1, none⟩ = _ := p1
    have m0' : wr.drew.cell? ⟨ga, oa + k, none⟩ = _ := m0
    have c0' : wr.drew.cell? ⟨gt, ot + p, none⟩ = _ := c0
    have f0' : wr.drew.cell? ⟨gr, orr + r, none⟩ = _ := f0
    cases gk with
    | zero =>
      obtain rfl : k = K := by omega
      have hyq : y = q := by
        have := HKQ.out
        rw [hb] at this
        cases this; rfl
      subst hyq
      have d1 : (afterG (one l n) (tms (one l n)) l y r != tv - 1) = false := by rw [HYES.out]; simp
      clear hb d0 hB hB0 hgb
      generalize afterG (one l n) (tms (one l n)) l y r = av at *
      go_wp2_with fail
      refine wp_region_held_drew (S := (fun w' : World => w'.cell? ⟨w.heap.size, 0, none⟩ = some (.int .i64 (n : Int)) ∧ w'.cell? ⟨w.heap.size, 1, none⟩ = some (.slice A l.length c) ∧ w'.cell? ⟨ga, oa + k, none⟩ = some (.int .i64 (y : Int)) ∧ w'.cell? ⟨gt, ot + p, none⟩ = some (.slice (some ⟨gr, orr, none⟩) n cr) ∧ w'.cell? ⟨gr, orr + r, none⟩ = some (.int .i64 tv))) (by kernel_rfl) (by (try dsimp only); simp [*]) (fun hHeld => ?_)
      change wpAnyH _ _ _ _ _ _ #[false, false, false, false, false, false, false, false, false, false, false, false, false, false, false, false, false] _ _
      refine wpAnyH_take (i := 0) (oi := ⟨some 14, _, _, _, _, _⟩) (v := ?_) rfl (by kernel_rfl) (by kernel_rfl) (by kernel_rfl) (fun _ _ _ h => h) (Or.inl ⟨by rfl, ?_⟩) (by assumption) ?_
      rotate_left
      · (intro w hSw; (try dsimp only at hSw); go_simp; (try (with_reducible rfl)))
      try simp only [Act.put, List.setIfInBounds_toArray, List.set_cons_zero, List.set_cons_succ]
      refine wpAnyH_take (i := 1) (oi := ⟨some 15, _, _, _, _, _⟩) (v := ?_) rfl (by kernel_rfl) (by kernel_rfl) (by kernel_rfl) (fun _ _ _ h => h) (Or.inl ⟨by rfl, ?_⟩) (by assumption) ?_
      rotate_left
      · (intro w hSw; (try dsimp only at hSw); go_simp; (try (with_reducible rfl)))
      try simp only [Act.put, List.setIfInBounds_toArray, List.set_cons_zero, List.set_cons_succ]
      refine wpAnyH_take (i := 2) (oi := ⟨some 16, _, _, _, _, _⟩) (v := ?_) rfl (by kernel_rfl) (by kernel_rfl) (by kernel_rfl) (fun _ _ _ h => h) (Or.inl ⟨by rfl, ?_⟩) (by assumption) ?_
      rotate_left
      · (intro w hSw; (try dsimp only at hSw); go_simp; (try (with_reducible rfl)))
      try simp only [Act.put, List.setIfInBounds_toArray, List.set_cons_zero, List.set_cons_succ]
      refine wpAnyH_take (i := 3) (oi := ⟨some 17, _, _, _, _, _⟩) (v := ?_) rfl (by kernel_rfl) (by kernel_rfl) (by kernel_rfl) (fun _ _ _ h => h) (Or.inl ⟨by rfl, ?_⟩) (by assumption) ?_
      rotate_left
      · (intro w hSw; (try dsimp only at hSw); go_simp; (try (with_reducible rfl)))
      try simp only [Act.put, List.setIfInBounds_toArray, List.set_cons_zero, List.set_cons_succ]
      refine wpAnyH_take (i := 4) (oi := ⟨some 18, _, _, _, _, _⟩) (v := ?_) rfl (by kernel_rfl) (by kernel_rfl) (by kernel_rfl) (fun _ _ _ h => h) (Or.inl ⟨by rfl, ?_⟩) (by assumption) ?_
      rotate_left
      · (intro w hSw; (try dsimp only at hSw); go_simp; (try (with_reducible rfl)))
      try simp only [Act.put, List.setIfInBounds_toArray, List.set_cons_zero, List.set_cons_succ]
      refine wpAnyH_take (i := 5) (oi := ⟨some 19, _, _, _, _, _⟩) (v := ?_) rfl (by kernel_rfl) (by kernel_rfl) (by kernel_rfl) (fun _ _ _ h => h) (Or.inl ⟨by rfl, ?_⟩) (by assumption) ?_
      rotate_left
      · (intro w hSw; (try dsimp only at hSw); go_simp; (try (with_reducible rfl)))
      try simp only [Act.put, List.setIfInBounds_toArray, List.set_cons_zero, List.set_cons_succ]
      refine wpAnyH_take (i := 6) (oi := ⟨some 20, _, _, _, _, _⟩) (v := ?_) rfl (by kernel_rfl) (by kernel_rfl) (by kernel_rfl) (fun _ _ _ h => h) (Or.inl ⟨by rfl, ?_⟩) (by assumption) ?_
      rotate_left
      · (intro w hSw; (try dsimp only at hSw); go_simp; (try (with_reducible rfl)))
      try simp only [Act.put, List.setIfInBounds_toArray, List.set_cons_zero, List.set_cons_succ]
      refine wpAnyH_take (i := 8) (oi := ⟨some 22, _, _, _, _, _⟩) (v := ?_) rfl (by kernel_rfl) (by kernel_rfl) (by kernel_rfl) (fun _ _ _ h => h) (Or.inl ⟨by rfl, ?_⟩) (by assumption) ?_
      rotate_left
      · (intro w hSw; (try dsimp only at hSw); go_simp; (try (with_reducible rfl)))
      try simp only [Act.put, List.setIfInBounds_toArray, List.set_cons_zero, List.set_cons_succ]
      refine wpAnyH_take (i := 9) (oi := ⟨some 23, _, _, _, _, _⟩) (v := ?_) rfl (by kernel_rfl) (by kernel_rfl) (by kernel_rfl) (fun _ _ _ h => h) (Or.inl ⟨by rfl, ?_⟩) (by assumption) ?_
      rotate_left
      · (intro w hSw; (try dsimp only at hSw); go_simp; (try (with_reducible rfl)))
      try simp only [Act.put, List.setIfInBounds_toArray, List.set_cons_zero, List.set_cons_succ]
      refine wpAnyH_take (i := 10) (oi := ⟨some 24, _, _, _, _, _⟩) (v := ?_) rfl (by kernel_rfl) (by kernel_rfl) (by kernel_rfl) (fun _ _ _ h => h) (Or.inl ⟨by rfl, ?_⟩) (by assumption) ?_
      rotate_left
      · (intro w hSw; (try dsimp only at hSw); go_simp; (try (with_reducible rfl)))
      try simp only [Act.put, List.setIfInBounds_toArray, List.set_cons_zero, List.set_cons_succ]
      refine wpAnyH_take (i := 11) (oi := ⟨some 25, _, _, _, _, _⟩) (v := ?_) rfl (by kernel_rfl) (by kernel_rfl) (by kernel_rfl) (fun _ _ _ h => h) (Or.inl ⟨by rfl, ?_⟩) (by assumption) ?_
      rotate_left
      · (intro w hSw; (try dsimp only at hSw); go_simp; (try (with_reducible rfl)))
      try simp only [Act.put, List.setIfInBounds_toArray, List.set_cons_zero, List.set_cons_succ]
      refine wpAnyH_take (i := 12) (oi := ⟨some 26, _, _, _, _, _⟩) (v := ?_) rfl (by kernel_rfl) (by kernel_rfl) (by kernel_rfl) (fun _ _ _ h => h) (Or.inl ⟨by rfl, ?_⟩) (by assumption) ?_
      rotate_left
      · (intro w hSw; (try dsimp only at hSw); go_simp; (try (with_reducible rfl)))
      try simp only [Act.put, List.setIfInBounds_toArray, List.set_cons_zero, List.set_cons_succ]
      refine wpAnyH_take (i := 13) (oi := ⟨some 27, _, _, _, _, _⟩) (v := ?_) rfl (by kernel_rfl) (by kernel_rfl) (by kernel_rfl) (fun _ _ _ h => h) (Or.inl ⟨by rfl, ?_⟩) (by assumption) ?_
      rotate_left
      · (intro w hSw; (try dsimp only at hSw); go_simp; (try (with_reducible rfl)))
      try simp only [Act.put, List.setIfInBounds_toArray, List.set_cons_zero, List.set_cons_succ]
      refine wpAnyH_take (i := 14) (oi := ⟨some 28, _, _, _, _, _⟩) (v := ?_) rfl (by kernel_rfl) (by kernel_rfl) (by kernel_rfl) (fun _ _ _ h => h) (Or.inl ⟨by rfl, ?_⟩) (by assumption) ?_
      rotate_left
      · (intro w hSw; (try dsimp only at hSw); go_simp; (try (with_reducible rfl)))
      try simp only [Act.put, List.setIfInBounds_toArray, List.set_cons_zero, List.set_cons_succ]
      refine wpAnyH_take (i := 15) (oi := ⟨some 29, _, _, _, _, _⟩) (v := ?_) rfl (by kernel_rfl) (by kernel_rfl) (by kernel_rfl) (fun _ _ _ h => h) (Or.inl ⟨by rfl, ?_⟩) (by assumption) ?_
      rotate_left
      · (intro w hSw; (try dsimp only at hSw); go_simp; (try (with_reducible rfl)))
      try simp only [Act.put, List.setIfInBounds_toArray, List.set_cons_zero, List.set_cons_succ]
      refine wpAnyH_ready (rs := [7]) (by kernel_rfl) (by simp) ?_
      refine AllReadyH.cons (o := ⟨some 21, _, _, _, _, _⟩) rfl (fun K hK => ?_) AllReadyH.nil
      go_simp
      go_at_call 58; refine HCV.out.mono ?_; rintro e w3 ⟨rfl, b3⟩; have k0 := nearv.cell_keep p0' b3; have k1 := nearv.cell_keep p1' b3; have k2 := nearv.cell_keep m0' b3; have k3 := nearv.cell_keep c0' b3; have k4 := nearv.cell_keep f0' b3; have HB3 := Lib.hid (HBD.out.trans (b3.mono HBD.out.size)); clear b3
      go_wp2_with fail
      refine hK.out _ _ (by (try dsimp only); simp [*]) (fun hHeld => ?_)
      clear hK K
      try simp only [List.setIfInBounds_toArray, List.set_cons_zero, List.set_cons_succ]
      refine wpAnyH_take (i := 16) (oi := ⟨some 30, _, _, _, _, _⟩) (v := ?_) rfl (by kernel_rfl) (by kernel_rfl) (by kernel_rfl) (fun _ _ _ h => h) (Or.inl ⟨by rfl, ?_⟩) (by assumption) ?_
      rotate_left
      · (intro w hSw; (try dsimp only at hSw); go_simp; (try (with_reducible rfl)))
      try simp only [Act.put, List.setIfInBounds_toArray, List.set_cons_zero, List.set_cons_succ]
      refine wpAnyH_done (by kernel_rfl) ?_ _
      go_wp2_with fail
      go_ret
      exact ⟨ret_int HL.out.symm, btrans e1 HB3.out⟩
    | succ g2 =>
      have d1 : (afterG (one l n) (tms (one l n)) l y r != tv - 1) = true := by have := HNO.out k y (by omega) hb; simpa using this
      clear hb d0 hB hB0 hgb
      generalize afterG (one l n) (tms (one l n)) l y r = av at *
      go_wp2_with fail
      refine wp_region_held_drew (S := (fun w' : World => w'.cell? ⟨w.heap.size, 0, none⟩ = some (.int .i64 (n : Int)) ∧ w'.cell? ⟨w.heap.size, 1, none⟩ = some (.slice A l.length c) ∧ w'.cell? ⟨ga, oa + k, none⟩ = some (.int .i64 (y : Int)) ∧ w'.cell? ⟨gt, ot + p, none⟩ = some (.slice (some ⟨gr, orr, none⟩) n cr) ∧ w'.cell? ⟨gr, orr + r, none⟩ = some (.int .i64 tv))) (by kernel_rfl) (by (try dsimp only); simp [*]) (fun hHeld => ?_)
      change wpAnyH _ _ _ _ _ _ #[false, false, false, false, false, false, false, false, false, false, false, false, false, false, false, false, false] _ _
      refine wpAnyH_take (i := 0) (oi := ⟨some 14, _, _, _, _, _⟩) (v := ?_) rfl (by kernel_rfl) (by kernel_rfl) (by kernel_rfl) (fun _ _ _ h => h) (Or.inl ⟨by rfl, ?_⟩) (by assumption) ?_
      rotate_left
      · (intro w hSw; (try dsimp only at hSw); go_simp; (try (with_reducible rfl)))
      try simp only [Act.put, List.setIfInBounds_toArray, List.set_cons_zero, List.set_cons_succ]
      refine wpAnyH_take (i := 1) (oi := ⟨some 15, _, _, _, _, _⟩) (v := ?_) rfl (by kernel_rfl) (by kernel_rfl) (by kernel_rfl) (fun _ _ _ h => h) (Or.inl ⟨by rfl, ?_⟩) (by assumption) ?_
      rotate_left
      · (intro w hSw; (try dsimp only at hSw); go_simp; (try (with_reducible rfl)))
      try simp only [Act.put, List.setIfInBounds_toArray, List.set_cons_zero, List.set_cons_succ]
      refine wpAnyH_take (i := 2) (oi := ⟨some 16, _, _, _, _, _⟩) (v := ?_) rfl (by kernel_rfl) (by kernel_rfl) (by kernel_rfl) (fun _ _ _ h => h) (Or.inl ⟨by rfl, ?_⟩) (by assumption) ?_
      rotate_left
      · (intro w hSw; (try dsimp only at hSw); go_simp; (try (with_reducible rfl)))
      try simp only [Act.put, List.setIfInBounds_toArray, List.set_cons_zero, List.set_cons_succ]
      refine wpAnyH_take (i := 3) (oi := ⟨some 17, _, _, _, _, _⟩) (v := ?_) rfl (by kernel_rfl) (by kernel_rfl) (by kernel_rfl) (fun _ _ _ h => h) (Or.inl ⟨by rfl, ?_⟩) (by assumption) ?_
      rotate_left
      · (intro w hSw; (try dsimp only at hSw); go_simp; (try (with_reducible rfl)))
      try simp only [Act.put, List.setIfInBounds_toArray, List.set_cons_zero, List.set_cons_succ]
      refine wpAnyH_take (i := 4) (oi := ⟨some 18, _, _, _, _, _⟩) (v := ?_) rfl (by kernel_rfl) (by kernel_rfl) (by kernel_rfl) (fun _ _ _ h => h) (Or.inl ⟨by rfl, ?_⟩) (by assumption) ?_
      rotate_left
      · (intro w hSw; (try dsimp only at hSw); go_simp; (try (with_reducible rfl)))
      try simp only [Act.put, List.setIfInBounds_toArray, List.set_cons_zero, List.set_cons_succ]
      refine wpAnyH_take (i := 5) (oi := ⟨some 19, _, _, _, _, _⟩) (v := ?_) rfl (by kernel_rfl) (by kernel_rfl) (by kernel_rfl) (fun _ _ _ h => h) (Or.inl ⟨by rfl, ?_⟩) (by assumption) ?_
      rotate_left
      · (intro w hSw; (try dsimp only at hSw); go_simp; (try (with_reducible rfl)))
      try simp only [Act.put, List.setIfInBounds_toArray, List.set_cons_zero, List.set_cons_succ]
      refine wpAnyH_take (i := 6) (oi := ⟨some 20, _, _, _, _, _⟩) (v := ?_) rfl (by kernel_rfl) (by kernel_rfl) (by kernel_rfl) (fun _ _ _ h => h) (Or.inl ⟨by rfl, ?_⟩) (by assumption) ?_
      rotate_left
      · (intro w hSw; (try dsimp only at hSw); go_simp; (try (with_reducible rfl)))
      try simp only [Act.put, List.setIfInBounds_toArray, List.set_cons_zero, List.set_cons_succ]
      refine wpAnyH_take (i := 8) (oi := ⟨some 22, _, _, _, _, _⟩) (v := ?_) rfl (by kernel_rfl) (by kernel_rfl) (by kernel_rfl) (fun _ _ _ h => h) (Or.inl ⟨by rfl, ?_⟩) (by assumption) ?_
      rotate_left
      · (intro w hSw; (try dsimp only at hSw); go_simp; (try (with_reducible rfl)))
      try simp only [Act.put, List.setIfInBounds_toArray, List.set_cons_zero, List.set_cons_succ]
      refine wpAnyH_take (i := 9) (oi := ⟨some 23, _, _, _, _, _⟩) (v := ?_) rfl (by kernel_rfl) (by kernel_rfl) (by kernel_rfl) (fun _ _ _ h => h) (Or.inl ⟨by rfl, ?_⟩) (by assumption) ?_
      rotate_left
      · (intro w hSw; (try dsimp only at hSw); go_simp; (try (with_reducible rfl)))
      try simp only [Act.put, List.setIfInBounds_toArray, List.set_cons_zero, List.set_cons_succ]
      refine wpAnyH_take (i := 10) (oi := ⟨some 24, _, _, _, _, _⟩) (v := ?_) rfl (by kernel_rfl) (by kernel_rfl) (by kernel_rfl) (fun _ _ _ h => h) (Or.inl ⟨by rfl, ?_⟩) (by assumption) ?_
      rotate_left
      · (intro w hSw; (try dsimp only at hSw); go_simp; (try (with_reducible rfl)))
      try simp only [Act.put, List.setIfInBounds_toArray, List.set_cons_zero, List.set_cons_succ]
      refine wpAnyH_take (i := 11) (oi := ⟨some 25, _, _, _, _, _⟩) (v := ?_) rfl (by kernel_rfl) (by kernel_rfl) (by kernel_rfl) (fun _ _ _ h => h) (Or.inl ⟨by rfl, ?_⟩) (by assumption) ?_
      rotate_left
      · (intro w hSw; (try dsimp only at hSw); go_simp; (try (with_reducible rfl)))
      try simp only [Act.put, List.setIfInBounds_toArray, List.set_cons_zero, List.set_cons_succ]
      refine wpAnyH_take (i := 12) (oi := ⟨some 26, _, _, _, _, _⟩) (v := ?_) rfl (by kernel_rfl) (by kernel_rfl) (by kernel_rfl) (fun _ _ _ h => h) (Or.inl ⟨by rfl, ?_⟩) (by assumption) ?_
      rotate_left
      · (intro w hSw; (try dsimp only at hSw); go_simp; (try (with_reducible rfl)))
      try simp only [Act.put, List.setIfInBounds_toArray, List.set_cons_zero, List.set_cons_succ]
      refine wpAnyH_take (i := 13) (oi := ⟨some 27, _, _, _, _, _⟩) (v := ?_) rfl (by kernel_rfl) (by kernel_rfl) (by kernel_rfl) (fun _ _ _ h => h) (Or.inl ⟨by rfl, ?_⟩) (by assumption) ?_
      rotate_left
      · (intro w hSw; (try dsimp only at hSw); go_simp; (try (with_reducible rfl)))
      try simp only [Act.put, List.setIfInBounds_toArray, List.set_cons_zero, List.set_cons_succ]
      refine wpAnyH_take (i := 14) (oi := ⟨some 28, _, _, _, _, _⟩) (v := ?_) rfl (by kernel_rfl) (by kernel_rfl) (by kernel_rfl) (fun _ _ _ h => h) (Or.inl ⟨by rfl, ?_⟩) (by assumption) ?_
      rotate_left
      · (intro w hSw; (try dsimp only at hSw); go_simp; (try (with_reducible rfl)))
      try simp only [Act.put, List.setIfInBounds_toArray, List.set_cons_zero, List.set_cons_succ]
      refine wpAnyH_take (i := 15) (oi := ⟨some 29, _, _, _, _, _⟩) (v := ?_) rfl (by kernel_rfl) (by kernel_rfl) (by kernel_rfl) (fun _ _ _ h => h) (Or.inl ⟨by rfl, ?_⟩) (by assumption) ?_
      rotate_left
      · (intro w hSw; (try dsimp only at hSw); go_simp; (try (with_reducible rfl)))
      try simp only [Act.put, List.setIfInBounds_toArray, List.set_cons_zero, List.set_cons_succ]
      refine wpAnyH_ready (rs := [7]) (by kernel_rfl) (by simp) ?_
      refine AllReadyH.cons (o := ⟨some 21, _, _, _, _, _⟩) rfl (fun K hK => ?_) AllReadyH.nil
      go_simp
      go_at_call 58; refine HCV.out.mono ?_; rintro e w3 ⟨rfl, b3⟩; have k0 := nearv.cell_keep p0' b3; have k1 := nearv.cell_keep p1' b3; have k2 := nearv.cell_keep m0' b3; have k3 := nearv.cell_keep c0' b3; have k4 := nearv.cell_keep f0' b3; have HG3 := Lib.hid (HGD.out.below b3 HGD.out.lt); have HB3 := Lib.hid (HBD.out.trans (b3.mono HBD.out.size)); clear b3
      go_wp2_with fail
      refine hK.out _ _ (by (try dsimp only); simp [*]) (fun hHeld => ?_)
      clear hK K
      try simp only [List.setIfInBounds_toArray, List.set_cons_zero, List.set_cons_succ]
      refine wpAnyH_take (i := 16) (oi := ⟨some 30, _, _, _, _, _⟩) (v := ?_) rfl (by kernel_rfl) (by kernel_rfl) (by kernel_rfl) (fun _ _ _ h => h) (Or.inl ⟨by rfl, ?_⟩) (by assumption) ?_
      rotate_left
      · (intro w hSw; (try dsimp only at hSw); go_simp; (try (with_reducible rfl)))
      try simp only [Act.put, List.setIfInBounds_toArray, List.set_cons_zero, List.set_cons_succ]
      refine wpAnyH_done (by kernel_rfl) ?_ _
      go_wp2_with fail
      go_roundg g2
      case measure => omega
      case rel => exact ⟨k + 1, by omega, by go_num, HG3.out, HB3.out⟩
set_option maxHeartbeats 2000000 in
set_option maxRecDepth 100000 in
theorem implCop_any (s x y : Int) (v : Value) (l : List Ed) (w : World) (hE : Env w) (h : Edges w v l) (hl : l.length ≤ 1048576) :
    Calls Tryd.prog 17 #[.agg #[.int .i64 s, v], .int .i64 x, .int .i64 y] w fun e w' => e = .returned (.tuple #[.int .i64 (copV s l x y), .bool (copOk s l x y)]) ∧ Below w.heap.size w w' := by
  obtain ⟨A, c, rfl, -⟩ := h.form
  have H := Lib.hid h
  have b0 : Below w.heap.size w ((w.alloc (.cells #[.int .i64 s, .slice A l.length c] 29)).alloc (.cells #[.int .i64 x, .int .i64 y] 3)) := ((Below.refl _ _).alloc (Nat.le_refl _) _).alloc (by simp) _
  have g0 := (Blk.new w 29 #[.int .i64 s, .slice A l.length c]).alloc (.cells #[.int .i64 x, .int .i64 y] 3)
  have i1 := Reads.of_own (own_pair (w.alloc (.cells #[.int .i64 s, .slice A l.length c] 29)) 3 x y)
  rw [World.size_alloc] at i1
  have HO := Lib.hid (hasNodes_any s (.slice A l.length c) (.slice (some ⟨w.heap.size + 1, 0, none⟩) 2 2) l [x, y] _ (h.below b0) hl i1 (by simp))
  clear h i1
  cases hnb : nodesB s l [x, y] with
  | false =>
    rw [hnb] at HO
    have HV : Hid (copOk s l x y = false) := by show _ = _; unfold copOk; rw [hnb]; rfl
    have HV2 : Hid (copV s l x y = 0) := if_neg (by rw [HV.out]; simp)
    clear hnb
    go_enter Tryd.func17, Tryd.ntmps17
    go_wp2_with fail
    refine HO.out.mono ?_
    rintro e w1 ⟨rfl, b1⟩
    go_wp2_with fail
    go_ret2
    exact ⟨by rw [HV.out, HV2.out]; rfl, btrans b0 b1⟩
  | true =>
    rw [hnb] at HO
    obtain ⟨n, rfl⟩ : ∃ n : Nat, s = (n : Int) := ⟨s.toNat, by have := (nodesB_iff.1 hnb).1.1; omega⟩
    obtain ⟨hgd, hx, hy⟩ := pair_nodes hnb
    obtain ⟨x, rfl⟩ : ∃ k : Nat, x = (k : Int) := ⟨x.toNat, by omega⟩
    obtain ⟨y, rfl⟩ : ∃ k : Nat, y = (k : Int) := ⟨y.toNat, by omega⟩
    have hn8 : n ≤ 8 := by have := hgd.2.1; omega
    have hxn : x < n := by omega
    have hyn : y < n := by omega
    have HGD := Lib.hid hgd
    have hxi : (x : Int) < (n : Int) := by omega
    have hx0 : (0 : Int) ≤ (x : Int) := by omega
    have hyi : (y : Int) < (n : Int) := by omega
    have hy0 : (0 : Int) ≤ (y : Int) := by omega
    clear hgd hx hy
    by_cases h1 : tms (one l n) x y < 1
    · have d0 : decide (tms (one l n) x y < 1) = true := decide_eq_true h1
      have HV : Hid (copOk (n : Int) l x y = false) := by
        show _ = _; unfold copOk; rw [hnb, Bool.true_and]
        exact decide_eq_false (by show ¬ (1 ≤ tms (one l n) x y); omega)
      have HV2 : Hid (copV (n : Int) l x y = 0) := if_neg (by rw [HV.out]; simp)
      clear hnb h1
      go_enter Tryd.func17, Tryd.ntmps17
      go_wp2_with fail
      refine HO.out.mono ?_
      rintro e w1 ⟨rfl, b1⟩
      have e1 := btrans b0 b1
      have g1 := g0.below b1 g0.lt
      clear HO b0 b1 g0
      obtain ⟨p0, p1, -, -⟩ := g1.two
      go_wp2_with fail
      refine (chaseIn_any n (.slice A l.length c) l w1 (H.out.below e1) hl HGD.out).mono ?_
      rintro e w2 ⟨cv, tv, mv, xv, us, us', rfl, hCh, ⟨Ax, cx, rfl⟩, o2, b2⟩
      have e2 := btrans e1 b2
      obtain ⟨Ac, cc, rfl, -⟩ := hCh.closed.form
      obtain ⟨At, ct, rfl, -⟩ := hCh.taken.form
      obtain ⟨Am, cm, rfl, -⟩ := hCh.lists.1
      obtain ⟨u, gx, ox, hu, hAx, c0, hru⟩ := (gridl.readsG_of_own o2).row (gridG_at (n := n) (T := tms (one l n)) hxn)
      subst hAx
      obtain ⟨Ar, cr, rfl, hcr⟩ := hru.form
      obtain ⟨gr, orr, rfl, f0⟩ := hcr y _ (rowG_at hyn)
      rw [rowG_len] at c0
      rw [gridG_len] at *
      have b3 : Below w2.heap.size w2 (w2.alloc (.cells #[.slice Ac (clos l (one l n).n).length cc, .slice At (codesL (one l n).P (one l n).n (one l n).tk).length ct, .slice Am (mvK l n n).length cm, .slice (some ⟨gx, ox, none⟩) n cx] 63)) := (Below.refl _ _).alloc (Nat.le_refl _) _
      have hb3 := Blk.new w2 63 #[.slice Ac (clos l (one l n).n).length cc, .slice At (codesL (one l n).P (one l n).n (one l n).tk).length ct, .slice Am (mvK l n n).length cm, .slice (some ⟨gx, ox, none⟩) n cx]
      have c0' := nearv.cell_keep c0 b3
      have f0' := nearv.cell_keep f0 b3
      obtain ⟨q0, q1, q2, q3⟩ := blk4 hb3
      have HE3 := Lib.hid (btrans e2 b3)
      clear hu c0 hru hcr f0 b3
      go_wp2_with fail
      go_ret2
      exact ⟨by rw [HV.out, HV2.out]; rfl, HE3.out⟩
    · have d0 : decide (tms (one l n) x y < 1) = false := decide_eq_false h1
      have HV : Hid (copOk (n : Int) l x y = true) := by
        show _ = _; unfold copOk; rw [hnb, Bool.true_and]
        exact decide_eq_true (by show (1 ≤ tms (one l n) x y); omega)
      have HV2 : Hid (copV (n : Int) l x y = huntL (one l n) (tms (one l n)) l (ballL l n x) x y) := if_pos HV.out
      clear hnb
      go_enter Tryd.func17, Tryd.ntmps17
      go_wp2_with fail
      refine HO.out.mono ?_
      rintro e w1 ⟨rfl, b1⟩
      have e1 := btrans b0 b1
      have g1 := g0.below b1 g0.lt
      clear HO b0 b1 g0
      obtain ⟨p0, p1, -, -⟩ := g1.two
      go_wp2_with fail
      refine (chaseIn_any n (.slice A l.length c) l w1 (H.out.below e1) hl HGD.out).mono ?_
      rintro e w2 ⟨cv, tv, mv, xv, us, us', rfl, hCh, ⟨Ax, cx, rfl⟩, o2, b2⟩
      have e2 := btrans e1 b2
      obtain ⟨Ac, cc, rfl, -⟩ := hCh.closed.form
      obtain ⟨At, ct, rfl, -⟩ := hCh.taken.form
      obtain ⟨Am, cm, rfl, -⟩ := hCh.lists.1
      have hx2 := gridl.readsG_of_own o2
      obtain ⟨u, gx, ox, hu, hAx, c0, hru⟩ := (gridl.readsG_of_own o2).row (gridG_at (n := n) (T := tms (one l n)) hxn)
      subst hAx
      obtain ⟨Ar, cr, rfl, hcr⟩ := hru.form
      obtain ⟨gr, orr, rfl, f0⟩ := hcr y _ (rowG_at hyn)
      rw [rowG_len] at c0
      rw [gridG_len] at *
      have b3 : Below w2.heap.size w2 (w2.alloc (.cells #[.slice Ac (clos l (one l n).n).length cc, .slice At (codesL (one l n).P (one l n).n (one l n).tk).length ct, .slice Am (mvK l n n).length cm, .slice (some ⟨gx, ox, none⟩) n cx] 63)) := (Below.refl _ _).alloc (Nat.le_refl _) _
      have hb3 := Blk.new w2 63 #[.slice Ac (clos l (one l n).n).length cc, .slice At (codesL (one l n).P (one l n).n (one l n).tk).length ct, .slice Am (mvK l n n).length cm, .slice (some ⟨gx, ox, none⟩) n cx]
      have c0' := nearv.cell_keep c0 b3
      have f0' := nearv.cell_keep f0 b3
      obtain ⟨q0, q1, q2, q3⟩ := blk4 hb3
      have HE3 := Lib.hid (btrans e2 b3)
      have HPU := Lib.hid (pursuit_any (one l n) x y l (mvK l n n) (ballL l n x) _ _ _ _ us us' _ (hCh.below b3) (hx2.below b3) hxn hyn (mvK_at hxn) (by omega) (hE.next HE3.out))
      clear hu c0 hru hcr f0 b3 h1
      go_wp2_with fail
      refine HPU.out.mono ?_
      rintro e w4 ⟨rfl, b4⟩
      go_wp2_with fail
      go_ret2
      exact ⟨by rw [HV.out, HV2.out]; rfl, btrans HE3.out b4⟩
set_option maxHeartbeats 2000000 in
set_option maxRecDepth 100000 in
theorem specCop_any (s x y : Int) (v : Value) (l : List Ed) (w : World) (h : Edges w v l) (hl : l.length ≤ 1048576) (hs1 : -9223372036854775808 ≤ s) (hs2 : s ≤ 9223372036854775807) :
    Calls Tryd.prog 16 #[.agg #[.int .i64 s, v], .int .i64 x, .int .i64 y] w fun e w' => e = .returned (.tuple #[.int .i64 (copV s l x y), .bool (copOk s l x y)]) ∧ Below w.heap.size w w' := by
  obtain ⟨A, c, rfl, -⟩ := h.form
  have H := Lib.hid h
  have b0 : Below w.heap.size w (w.alloc (.cells #[.int .i64 s, .slice A l.length c] 29)) := (Below.refl _ _).alloc (Nat.le_refl _) _
  have g0 := Blk.new w 29 #[.int .i64 s, .slice A l.length c]
  have HO := Lib.hid (l3Two_any s x y _ l _ (h.below b0) hl hs1 hs2)
  clear h
  cases hnb : nodesB s l [x, y] with
  | false =>
    rw [hnb] at HO
    have HV : Hid (copOk s l x y = false) := by show _ = _; unfold copOk; rw [hnb]; rfl
    have HV2 : Hid (copV s l x y = 0) := if_neg (by rw [HV.out]; simp)
    clear hnb
    go_enter Tryd.func16, Tryd.ntmps16
    go_wp2_with fail
    refine HO.out.mono ?_
    rintro e w1 ⟨rfl, b1⟩
    go_wp2_with fail
    go_ret2
    exact ⟨by rw [HV.out, HV2.out]; rfl, btrans b0 b1⟩
  | true =>
    rw [hnb] at HO
    obtain ⟨n, rfl⟩ : ∃ n : Nat, s = (n : Int) := ⟨s.toNat, by have := (nodesB_iff.1 hnb).1.1; omega⟩
    obtain ⟨hgd, hx, hy⟩ := pair_nodes hnb
    obtain ⟨x, rfl⟩ : ∃ k : Nat, x = (k : Int) := ⟨x.toNat, by omega⟩
    obtain ⟨y, rfl⟩ : ∃ k : Nat, y = (k : Int) := ⟨y.toNat, by omega⟩
    have hn8 : n ≤ 8 := by have := hgd.2.1; omega
    have hxn : x < n := by omega
    have hyn : y < n := by omega
    have hxi : (x : Int) < (n : Int) := by omega
    have hx0 : (0 : Int) ≤ (x : Int) := by omega
    have hyi : (y : Int) < (n : Int) := by omega
    have hy0 : (0 : Int) ≤ (y : Int) := by omega
    clear hgd hx hy
    by_cases h1 : tms (one l n) x y < 1
    · have d0 : decide (tms (one l n) x y < 1) = true := decide_eq_true h1
      have HV : Hid (copOk (n : Int) l x y = false) := by
        show _ = _; unfold copOk; rw [hnb, Bool.true_and]
        exact decide_eq_false (by show ¬ (1 ≤ tms (one l n) x y); omega)
      have HV2 : Hid (copV (n : Int) l x y = 0) := if_neg (by rw [HV.out]; simp)
      clear hnb
      go_enter Tryd.func16, Tryd.ntmps16
      go_wp2_with fail
      refine HO.out.mono ?_
      rintro e w1 ⟨rfl, b1⟩
      have e1 := btrans b0 b1
      have g1 := g0.below b1 g0.lt
      clear HO b0 b1 g0
      obtain ⟨p0, p1, -, -⟩ := g1.two
      go_wp2_with fail
      refine (l3Times_any n (.slice A l.length c) l w1 (H.out.below e1) hl hn8).mono ?_
      rintro e w2 ⟨A2, c2, us, rfl, o2, b2⟩
      have e2 := btrans e1 b2
      obtain ⟨u, gx, ox, hu, hAx, c0, hru⟩ := (gridl.readsG_of_own o2).row (tabL_at (n := n) (T := tms (one l n)) hxn)
      subst hAx
      obtain ⟨Ar, cr, rfl, hcr⟩ := hru.form
      obtain ⟨gr, orr, rfl, f0⟩ := hcr y _ (rowL_at hyn)
      rw [rowL_len] at c0
      rw [tabL_len]
      clear hu hru hcr o2 b2 h1
      go_wp2_with fail
      go_ret2
      exact ⟨by rw [HV.out, HV2.out]; rfl, e2⟩
    · have d0 : decide (tms (one l n) x y < 1) = false := decide_eq_false h1
      have HV : Hid (copOk (n : Int) l x y = true) := by
        show _ = _; unfold copOk; rw [hnb, Bool.true_and]
        exact decide_eq_true (by show (1 ≤ tms (one l n) x y); omega)
      have HV2 : Hid (copV (n : Int) l x y = huntL (one l n) (tms (one l n)) l (ballL l n x) x y) := if_pos HV.out
      clear hnb
      go_enter Tryd.func16, Tryd.ntmps16
      go_wp2_with fail
      refine HO.out.mono ?_
      rintro e w1 ⟨rfl, b1⟩
      have e1 := btrans b0 b1
      have g1 := g0.below b1 g0.lt
      clear HO b0 b1 g0
      obtain ⟨p0, p1, -, -⟩ := g1.two
      go_wp2_with fail
      refine (l3Times_any n (.slice A l.length c) l w1 (H.out.below e1) hl hn8).mono ?_
      rintro e w2 ⟨A2, c2, us, rfl, o2, b2⟩
      have e2 := btrans e1 b2
      obtain ⟨u, gx, ox, hu, hAx, c0, hru⟩ := (gridl.readsG_of_own o2).row (tabL_at (n := n) (T := tms (one l n)) hxn)
      subst hAx
      obtain ⟨Ar, cr, rfl, hcr⟩ := hru.form
      obtain ⟨gr, orr, rfl, f0⟩ := hcr y _ (rowL_at hyn)
      rw [rowL_len] at c0
      rw [tabL_len]
      have HCH := Lib.hid (l3Chase_any n x y (.slice A l.length c) _ us l w2 (H.out.below e2) hl (gridl.readsG_of_own o2) hn8 hxn hyn (by omega))
      rw [tabL_len] at HCH
      have g2 := g1.below b2 g1.lt
      clear hu hru hcr o2 b2 h1 p0 p1 g1
      obtain ⟨p0, p1, -, -⟩ := g2.two
      go_wp2_with fail
      refine HCH.out.mono ?_
      rintro e w3 ⟨rfl, b3⟩
      go_wp2_with fail
      go_ret2
      exact ⟨by rw [HV.out, HV2.out]; rfl, btrans e2 b3⟩
end Go.Proofs.YtgbdgenlmmofeaaDoor.times
