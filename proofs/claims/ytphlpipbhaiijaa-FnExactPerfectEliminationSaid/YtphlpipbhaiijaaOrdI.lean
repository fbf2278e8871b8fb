/- The contract of the closure of the program's cheapestOrder: does a node fit. -/
import Derived.Handy
import Derived.Test.YtphlpipbhaiijaaTreeI
import Derived.Test.YtphlpipbhaiijaaLater
import Derived.Deep.QuietTactic
import Derived.Deep.RegionHeld3
import Derived.Deep.DeepCutAuto
namespace Go.Proofs.Ytphlpipbhaiijaa.costs
open Go.RowKit P2 words edges ints good adjs fns sets rets covs reach bags bitsI fronts
set_option linter.unusedVariables false
set_option linter.unusedSimpArgs false

theorem max_if (a b : Int) : (if a < b then b else a) = max a b := by split <;> omega
set_option maxHeartbeats 1000000 in
set_option maxRecDepth 100000 in
theorem fits_any (n g x b b1 b2 : Nat) (cost : Nat → Nat → Int) (C : Nat → Int) (fid : FuncId) (A : Option Addr) (c : Nat) (w : World) (hn : n ≤ 8) (hg : g < 2 ^ n) (hx : x < n)
    (h1 : w.cell? ⟨b1, 0, none⟩ = some (.func (.func fid) #[] #[.pointer (some ⟨b, 0, none⟩)])) (h2 : w.cell? ⟨b2, 0, none⟩ = some (.slice A (2 ^ n) c)) (hr : Reads w 1 (.slice A (2 ^ n) c) (2 ^ n) (cellsI (rowF (2 ^ n) C)))
    (hent : ∀ (args : Array Value) (W : World), (callFunc fid args).run Try.prog W = .ok (.enter fid args) W)
    (HC : ∀ m, Calls Try.prog fid #[.int .u64 (g : Int), .int .i64 (x : Int), .pointer (some ⟨b, 0, none⟩)] (w.drewN m) fun e w' => e = .returned (.int .i64 (cost g x)) ∧ ∃ k, w' = (w.drewN m).drewN k) :
    Calls Try.prog 128 #[.int .u64 (g : Int), .int .i64 (x : Int), .pointer (some ⟨b1, 0, none⟩), .pointer (some ⟨b2, 0, none⟩)] w fun e w' => e = .returned (.bool (decide (max (cost g x) (C (g ||| 2 ^ x)) ≤ C 0))) ∧ ∃ m, w' = w.drewN m := by
  have hp := pow8 hn
  have hp0 := Nat.two_pow_pos n
  have hq := or_lt hg hx
  have hor := or_walk g x (by omega) (by omega)
  have hI : Ints w (.slice A (rowF (2 ^ n) C).length c) (rowF (2 ^ n) C) := by unfold Ints; rw [rowF_len]; exact hr
  obtain ⟨_, _, hf, hcc⟩ := hI.form
  rw [rowF_len] at hf
  cases hf
  obtain ⟨g9, o9, rfl, q0⟩ := hcc 0 _ (rowF_at hp0)
  rw [Nat.add_zero] at q0
  obtain ⟨_, _, e1, q1⟩ := hcc _ _ (rowF_at hq)
  cases e1
  have HCC := Lib.hid HC
  have hq1 : ((g ||| 2 ^ x : Nat) : Int) < ((2 ^ n : Nat) : Int) := by omega
  have hq2 : (0 : Int) ≤ ((g ||| 2 ^ x : Nat) : Int) := by omega
  have hz : (0 : Int) < ((2 ^ n : Nat) : Int) := by omega
  clear hr hI hcc HC
  generalize C (g ||| 2 ^ x) = u at *
  generalize C 0 = u0 at *
  generalize cost g x = cc at *
  generalize g ||| 2 ^ x = q at *
  generalize 2 ^ n = N at *
  go_enter Try.func128, Try.ntmps128
  go_wp2_with fail
  go_quiet (exact Calls.quiet_of (HCC.out _))
  rw [max_if]
  go_wp2_with fail
  go_ret
  exact ⟨rfl, _, rfl⟩
set_option maxHeartbeats 1000000 in
set_option maxRecDepth 100000 in
theorem fitting_any (n g x bg bf : Nat) (fit : Nat → Nat → Bool) (fid : FuncId) (caps : Array Value) (w : World) (hn : n ≤ 8) (hg : g < 2 ^ n) (hx : x < n)
    (h1 : w.cell? ⟨bg, 0, none⟩ = some (.int .u64 (g : Int))) (h2 : w.cell? ⟨bf, 0, none⟩ = some (.func (.func fid) #[] caps))
    (hent : ∀ (args : Array Value) (W : World), (callFunc fid args).run Try.prog W = .ok (.enter fid args) W)
    (HC : g.testBit x = false → Calls Try.prog fid (#[.int .u64 (g : Int), .int .i64 (x : Int)] ++ caps) w fun e w' => e = .returned (.bool (fit g x)) ∧ Below w.heap.size w w') :
    Calls Try.prog 131 #[.int .i64 (x : Int), .pointer (some ⟨bg, 0, none⟩), .pointer (some ⟨bf, 0, none⟩)] w fun e w' => e = .returned (.bool (!g.testBit x && fit g x)) ∧ Below w.heap.size w w' := by
  have hp := pow8 hn
  have HH := Lib.hid (has_any g x w (by omega) (by omega))
  cases hb : g.testBit x with
  | true =>
    rw [hb] at HH
    clear HC hb
    go_enter Try.func131, Try.ntmps131
    go_wp2_with fail
    refine HH.out.mono ?_
    rintro e w' ⟨rfl, rfl⟩
    go_wp2_with fail
    go_ret
    exact ⟨rfl, Below.refl _ _⟩
  | false =>
    rw [hb] at HH
    have HCC := Lib.hid (HC hb)
    clear HC hb
    go_enter Try.func131, Try.ntmps131
    go_wp2_with fail
    refine HH.out.mono ?_
    rintro e w' ⟨rfl, rfl⟩
    go_wp2_with fail
    refine HCC.out.mono ?_
    rintro e w4 ⟨rfl, b4⟩
    go_wp2_with fail
    go_ret
    exact ⟨by simp, b4⟩
theorem row0 {w : World} {B c : Nat} {g o : Nat} {F : List Int} {z : Int} (h : w.ownsRow B 3 1 (.slice (some ⟨g, o, none⟩) F.length c) F.length (cellsI F)) (hx : F[0]? = some z) : w.cell? ⟨g, o, none⟩ = some (.int .i64 z) := by
  obtain ⟨_, _, hf, hcc⟩ := (show Ints w (.slice (some ⟨g, o, none⟩) F.length c) F from Reads.of_own h).form
  cases hf
  obtain ⟨_, _, e, q⟩ := hcc 0 _ hx
  cases e
  exact q
def Apart' (u v : Value) : Prop := ∀ k, u.ownBlock = some k → v.ownBlock ≠ some k
def fitB (fit : Nat → Nat → Bool) (g : Nat) : Nat → Bool := fun x => !g.testBit x && fit g x
/-- the first order, k nodes long: the set of its nodes, and they -/
def ordN (n : Nat) (fit : Nat → Nat → Bool) : Nat → Option (Nat × List Int)
  | 0 => some (0, [])
  | k + 1 => (ordN n fit k).bind fun s => ((nw (fitB fit s.1) n)[0]?).map fun x => (s.1 ||| 2 ^ x.toNat, s.2 ++ [x])
theorem ordN_none {n : Nat} {fit : Nat → Nat → Bool} {k : Nat} (h : ordN n fit k = none) : ∀ j, ordN n fit (k + j) = none
  | 0 => h
  | j + 1 => by
    have := ordN_none h j
    show ordN n fit (k + j + 1) = none
    rw [ordN, this]; rfl
theorem ordN_ok {n : Nat} {fit : Nat → Nat → Bool} : ∀ {k : Nat} {g : Nat} {L : List Int}, ordN n fit k = some (g, L) → g < 2 ^ n ∧ L.length = k
  | 0, g, L, h => by
    cases h
    exact ⟨Nat.two_pow_pos n, rfl⟩
  | k + 1, g, L, h => by
    rw [ordN] at h
    cases hk : ordN n fit k with
    | none => rw [hk] at h; cases h
    | some s =>
      obtain ⟨g0, L0⟩ := s
      rw [hk] at h
      simp only [Option.bind_some] at h
      cases hx : (nw (fitB fit g0) n)[0]? with
      | none => rw [hx] at h; cases h
      | some x =>
        rw [hx] at h
        cases h
        obtain ⟨z, hz, h2⟩ := mem_nw.1 (List.mem_of_getElem? hx)
        have h3 := ordN_ok hk
        refine ⟨?_, by simp [h3.2]⟩
        obtain ⟨_, rfl⟩ := h2
        exact or_lt h3.1 (by simpa using hz)
noncomputable def ordL (n : Nat) (fit : Nat → Nat → Bool) : List Int := ((ordN n fit n).map (·.2)).getD []
set_option maxHeartbeats 4000000 in
set_option maxRecDepth 100000 in
theorem firstOrder_any (n : Nat) (fit : Nat → Nat → Bool) (fid : FuncId) (caps : Array Value) (w : World) (hn : n ≤ 8)
    (hent : ∀ (args : Array Value) (W : World), (callFunc fid args).run Try.prog W = .ok (.enter fid args) W)
    (HC : ∀ (W : World) (g x : Nat), Below w.heap.size w W → g < 2 ^ n → x < n → g.testBit x = false → Calls Try.prog fid (#[.int .u64 (g : Int), .int .i64 (x : Int)] ++ caps) W fun e w' => e = .returned (.bool (fit g x)) ∧ Below W.heap.size W w') :
    Calls Try.prog 82 #[.int .i64 (n : Int), .func (.func fid) #[] caps] w fun e w' => ∃ A c, e = .returned (.tuple #[.slice A (ordL n fit).length c, .bool (ordN n fit n).isSome]) ∧ w'.ownsRow w.heap.size 3 1 (.slice A (ordL n fit).length c) (ordL n fit).length (cellsI (ordL n fit)) ∧ Below w.heap.size w w' := by
  obtain ⟨i0, hi, hz0, hz1, hz2⟩ := info_parts infoInt
  have hp := pow8 hn
  have HCC := Lib.hid HC
  have HENT := Lib.hid hent
  have HB0 : Hid (Below w.heap.size w ((w.alloc (.cells #[.func (.func fid) #[] caps] 84)).alloc (.cells #[.int .u64 0] 68))) := ((Below.refl _ _).alloc (Nat.le_refl _) _).alloc (by simp) _
  have HF0 := Lib.hid ((Blk.new w 84 #[.func (.func fid) #[] caps]).alloc (.cells #[.int .u64 0] 68))
  have HG0 : Hid (Blk ((w.alloc (.cells #[.func (.func fid) #[] caps] 84)).alloc (.cells #[.int .u64 0] 68)) (w.heap.size + 1) 68 #[.int .u64 0]) := by
    have h_ := Blk.new (w.alloc (.cells #[.func (.func fid) #[] caps] 84)) 68 #[.int .u64 0]
    rw [World.size_alloc] at h_
    exact h_
  have hmf : ∀ (fn : Fn) (first cap : Array Value) (w : World), (Instr.makeFunc fn first cap).run Try.prog w = .ok (.func fn first cap) w := fun _ _ _ _ => rfl
  clear HC
  go_enter Try.func82, Try.ntmps82
  go_wp2_with fail
  go_loopg [7, 10] n (fun g ov iv wr => ∃ (k c : Nat) (L : List Int) (ow : Value), ow = ov ∧ k + g = n ∧ iv = .int .i64 (k : Int) ∧ Hid (ordN n fit k = some (c, L)) ∧ wr.ownsRow (w.heap.size + 2) 3 1 ow L.length (cellsI L) ∧ Blk wr (w.heap.size + 1) 68 #[.int .u64 (c : Int)] ∧ Blk wr w.heap.size 84 #[.func (.func fid) #[] caps] ∧ Below w.heap.size w wr)
  case atStart => exact ⟨0, 0, [], _, rfl, by omega, rfl, rfl, World.ownsRow_nil _ _ _ _, HG0.out, HF0.out, HB0.out⟩
  case round =>
    clear HB0 HF0 HG0
    obtain ⟨k, c, L, ow, rfl, hkg, rfl, hord, hrow, hgo, hfi, hB⟩ := hrel
    obtain ⟨A6, c6, rfl⟩ := own_form hrow
    obtain ⟨hc, hLk⟩ := ordN_ok hord.out
    have hL8 : L.length ≤ 8 := by omega
    have hz1' := hgo.lt
    cases gk with
    | zero =>
      obtain rfl : k = n := by omega
      have HV : Hid (ordL k fit = L) := by show _ = _; unfold ordL; rw [hord.out]; rfl
      have HS : Hid ((ordN k fit k).isSome = true) := by show _ = _; rw [hord.out]; rfl
      have HR := Lib.hid (own_base hrow (by omega : w.heap.size ≤ w.heap.size + 2))
      have HB := Lib.hid hB
      clear hrow hgo hfi hB hLk
      go_wp2_with fail
      go_ret2
      rw [HV.out, HS.out]
      exact ⟨A6, c6, rfl, HR.out, HB.out⟩
    | succ g2 =>
      have hlt : k < n := by omega
      have hlt' : (k : Int) < (n : Int) := by omega
      have HFN : Fn1 wr 131 #[.pointer (some ⟨w.heap.size + 1, 0, none⟩), .pointer (some ⟨w.heap.size, 0, none⟩)] n (fitB fit c) :=
        { enter := fun _ _ => by kernel_rfl
          call := fun W hW x hx => by
            have h_ := fitting_any n c x (w.heap.size + 1) w.heap.size fit fid caps W hn hc hx ((hgo.below hW hgo.lt).cell 0) ((hfi.below hW hfi.lt).cell 0) HENT.out (fun hb => HCC.out W c x (btrans hB hW) hc hx hb)
            exact h_ }
      have HNW := Lib.hid (nodesWhere_any n _ _ (fitB fit c) wr hn HFN)
      have HR := Lib.hid hrow
      have HG := Lib.hid hgo
      have HF := Lib.hid hfi
      have HB := Lib.hid hB
      clear hrow hgo hfi hB HFN hLk
      cases hx0 : (nw (fitB fit c) n)[0]? with
      | none =>
        have he : nw (fitB fit c) n = [] := by
          cases hl : nw (fitB fit c) n with
          | nil => rfl
          | cons y ys => rw [hl] at hx0; cases hx0
        have hno : ordN n fit (k + 1) = none := by rw [ordN, hord.out]; simp [hx0]
        have hnn : ordN n fit n = none := by have := ordN_none hno (n - (k + 1)); rwa [show k + 1 + (n - (k + 1)) = n from by omega] at this
        have HV : Hid (ordL n fit = []) := by show _ = _; unfold ordL; rw [hnn]; rfl
        have HS : Hid ((ordN n fit n).isSome = false) := by show _ = _; rw [hnn]; rfl
        rw [he] at HNW
        clear he hx0 hno hnn
        go_wp2_with fail
        refine HNW.out.mono ?_
        rintro e w3 ⟨A5, c5, rfl, o5, b5⟩
        have HB3 := Lib.hid (btrans HB.out b5)
        clear o5 b5
        go_wp2_with fail
        go_ret2
        rw [HV.out, HS.out]
        exact ⟨none, 0, rfl, World.ownsRow_nil _ _ _ _, HB3.out⟩
      | some x0 =>
        obtain ⟨z, rfl, hzn, -⟩ := nw_at hx0
        have HO1 : Hid (ordN n fit (k + 1) = some (c ||| 2 ^ z, L ++ [(z : Int)])) := by show _ = _; rw [ordN, hord.out]; simp [hx0]
        have HX0 := Lib.hid hx0
        have hFl : 0 < (nw (fitB fit c) n).length := (List.getElem?_eq_some_iff.1 hx0).1
        have hFl' : (0 : Int) < ((nw (fitB fit c) n).length : Int) := by omega
        have hFn : ¬ ((nw (fitB fit c) n).length = 0) := by omega
        have hor := or_walk c z (by have := pow8 hn; omega) (by omega)
        clear hx0
        generalize nw (fitB fit c) n = F at *
        generalize c ||| 2 ^ z = q at *
        go_wp2_with fail
        refine HNW.out.mono ?_
        rintro e w3 ⟨A5, c5, rfl, o5, b5⟩
        have hrow3 := own_below HR.out b5
        have HG3 := Lib.hid (HG.out.below b5 HG.out.lt)
        have HF3 := Lib.hid (HF.out.below b5 HF.out.lt)
        have HB3 := Lib.hid (btrans HB.out b5)
        have HO5 := Lib.hid o5
        have HAP : Hid (Apart' (.slice A6 L.length c6) (.slice A5 F.length c5)) := fun u h1 h2 => by
          have := (HR.out.lt u h1).2
          have := (o5.lt u h2).1
          omega
        obtain ⟨_, _, hf9, hcc9⟩ := (show Ints w3 (.slice A5 F.length c5) F from Reads.of_own o5).form
        cases hf9
        obtain ⟨g9, o9, rfl, q9⟩ := hcc9 0 _ HX0.out
        rw [Nat.add_zero] at q9
        have hz3 := b5.size
        clear hcc9 b5 o5 HR HG HF
        go_wp2_with ((at_builtin; refine wpList_append_own _ rfl _ _ 25 rfl (w.heap.size + 2) 3 i0 (.int .i64 0) 1 8 Try.underlying25 hi hz0 hz1 hz2 rfl (by decide) _ _ _ rfl (hrow3.alloc _) ⟨w3.heap.size, 0, none⟩ 1 1 [.int .i64 ((z : Int))] rfl rfl (cell_one_new _ _ _) (fun x hx => by simp at hx; subst hx; rfl) (by unfold maxLen; omega) (by omega) (by simp; omega) ?_; intro v2 w2 hown2 hgrow2 _); have hG4 := (HG3.out.alloc (.cells #[.int .i64 (z : Int)] 3)).grown hgrow2 (fun e => mids.own_ne hrow3 HG3.out (by decide) e.symm); have p4 : w2.cell? ⟨w.heap.size + 1, 0, none⟩ = some (.int .u64 (c : Int)) := hG4.cell 0; have y4 := hG4.frozen 0; have o6 := (HO5.out.alloc (.cells #[.int .i64 (z : Int)] 3)).kept hgrow2 (bags.apart_or HAP.out); have p6 := row0 o6 HX0.out)
        obtain ⟨hown3, hB2⟩ := push1 hrow3 hown2 hgrow2 (by omega)
        have HO3 := Lib.hid hown3
        have HF4 := Lib.hid ((HF3.out.alloc (.cells #[.int .i64 (z : Int)] 3)).grown hgrow2 (fun e => mids.own_ne hrow3 HF3.out (by decide) e.symm))
        have HG4 := Lib.hid hG4
        have HB4 := Lib.hid (HB3.out.trans (hB2.mono (by omega)))
        clear hgrow2 hown2 hB2 hrow3 hown3 hG4 o6
        have HO7 : Hid ((w2.setCell ⟨w.heap.size + 1, 0, none⟩ (.int .u64 (q : Int))).ownsRow (w.heap.size + 2) 3 1 v2 (L ++ [(z : Int)]).length (cellsI (L ++ [(z : Int)]))) :=
          HO3.out.kept (gset (World.grownBy.refl w2 (some (w.heap.size + 1))) 0 (.int .u64 (q : Int))) (.inr (mids.own_ne HO3.out HG4.out (by decide)))
        have HG7 : Hid (Blk (w2.setCell ⟨w.heap.size + 1, 0, none⟩ (.int .u64 (q : Int))) (w.heap.size + 1) 68 #[.int .u64 (q : Int)]) := by
          have h_ := HG4.out.set_ 0 (.int .u64 (q : Int))
          show Blk _ _ _ _
          simpa using h_
        have HF7 := Lib.hid (HF4.out.far (p := ⟨w.heap.size + 1, 0, none⟩) (by show w.heap.size ≠ w.heap.size + 1; omega) (.int .u64 (q : Int)))
        have HB7 := Lib.hid (HB4.out.setCell (p := ⟨w.heap.size + 1, 0, none⟩) (by show w.heap.size ≤ w.heap.size + 1; omega) (.int .u64 (q : Int)))
        have HNE : Hid (g9 ≠ w.heap.size + 1) := by
          show _ ≠ _
          have := (HO5.out.lt g9 rfl).1
          omega
        have HKF : Hid (∀ (W : World) (y : Value), W.cell? ⟨g9, o9, none⟩ = some (.int .i64 (z : Int)) → (W.setCell ⟨w.heap.size + 1, 0, none⟩ y).cell? ⟨g9, o9, none⟩ = some (.int .i64 (z : Int))) := fun W y hW => by
          rw [World.cell?_setCell_other (h := fun e => HNE.out (congrArg Addr.block e).symm)]; exact hW
        refine wp_region_held_drew (S := (fun w' : World => w'.cell? ⟨g9, o9, none⟩ = some (.int .i64 (z : Int)))) (by kernel_rfl) (by (try dsimp only); simp [*]) (fun hHeld => ?_)
        change wpAnyH _ _ _ _ _ _ #[false, false, false, false, false, false, false] _ _
        refine wpAnyH_take (i := 1) (oi := ⟨some 25, _, _, _, _, _⟩) (v := ?_) rfl (by kernel_rfl) (by kernel_rfl) (by kernel_rfl) (fun _ _ _ h => h) (Or.inl ⟨by rfl, ?_⟩) (by assumption) ?_
        rotate_left
        · (intro w hSw; (try dsimp only at hSw); go_simp; (try (with_reducible rfl)))
        try simp only [Act.put, List.setIfInBounds_toArray, List.set_cons_zero, List.set_cons_succ]
        refine wpAnyH_take (i := 2) (oi := ⟨some 26, _, _, _, _, _⟩) (v := ?_) rfl (by kernel_rfl) (by kernel_rfl) (by kernel_rfl) (fun _ _ _ h => h) (Or.inl ⟨by rfl, ?_⟩) (by assumption) ?_
        rotate_left
        · (intro w hSw; (try dsimp only at hSw); go_simp; (try (with_reducible rfl)))
        try simp only [Act.put, List.setIfInBounds_toArray, List.set_cons_zero, List.set_cons_succ]
        refine wpAnyH_take (i := 3) (oi := ⟨some 27, _, _, _, _, _⟩) (v := ?_) rfl (by kernel_rfl) (by kernel_rfl) (by kernel_rfl) (fun _ _ _ h => h) (Or.inl ⟨by rfl, ?_⟩) (by assumption) ?_
        rotate_left
        · (intro w hSw; (try dsimp only at hSw); go_simp; (try (with_reducible rfl)))
        try simp only [Act.put, List.setIfInBounds_toArray, List.set_cons_zero, List.set_cons_succ]
        refine wpAnyH_take (i := 4) (oi := ⟨some 28, _, _, _, _, _⟩) (v := ?_) rfl (by kernel_rfl) (by kernel_rfl) (by kernel_rfl) (fun _ _ _ h => h) (Or.inl ⟨by rfl, ?_⟩) (by assumption) ?_
        rotate_left
        · (intro w hSw; (try dsimp only at hSw); go_simp; (try (with_reducible rfl)))
        try simp only [Act.put, List.setIfInBounds_toArray, List.set_cons_zero, List.set_cons_succ]
        refine wpAnyH_ready (rs := [0]) (by kernel_rfl) (by simp) ?_
        refine AllReadyH.cons rfl (fun K hK => ?_) AllReadyH.nil
        go_simp
        refine hK.out _ _ (hHeld) (fun hHeld => ?_)
        clear hK K
        try simp only [List.setIfInBounds_toArray, List.set_cons_zero, List.set_cons_succ]
        refine wpAnyH_take (i := 5) (oi := ⟨some 29, _, _, _, _, _⟩) (v := ?_) rfl (by kernel_rfl) (by kernel_rfl) (by kernel_rfl) (fun _ _ _ h => h) (Or.inl ⟨by rfl, ?_⟩) (by assumption) ?_
        rotate_left
        · (intro w hSw; (try dsimp only at hSw); go_simp; (try (with_reducible rfl)))
        try simp only [Act.put, List.setIfInBounds_toArray, List.set_cons_zero, List.set_cons_succ]
        refine wpAnyH_ready (rs := [6]) (by kernel_rfl) (by simp) ?_
        refine AllReadyH.cons rfl (fun K hK => ?_) AllReadyH.nil
        go_simp
        refine hK.out _ _ (HKF.out _ _ p6) (fun hHeld => ?_)
        clear hK K
        refine wpAnyH_done (by kernel_rfl) ?_ _
        go_wp2_with fail
        go_roundg g2
        case measure => omega
        case rel => exact ⟨k + 1, q, _, v2, rfl, by omega, by go_num, HO1, HO7.out, HG7.out, HF7.out, HB7.out.drew⟩
end Go.Proofs.Ytphlpipbhaiijaa.costs
