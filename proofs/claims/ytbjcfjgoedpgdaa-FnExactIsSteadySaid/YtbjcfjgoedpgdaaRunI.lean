/- The contracts of the program's SearchersUsed, IsClearing, IsSteady and RunProgram. -/
import Derived.Handy
import Derived.Test.YtbjcfjgoedpgdaaMomO
import Derived.Test.YtbjcfjgoedpgdaaRunM
import Derived.Test.YtbjcfjgoedpgdaaOnes
import Derived.Test.YtbjcfjgoedpgdaaLayI
import Derived.Deep.DeepCutAuto
import Derived.Deep.QuietTactic
namespace Go.Proofs.Ytbjcfjgoedpgdaa.moms
open Go.RowKit P2 words edges ints good near adjs fns sets rets covs reach bags bitsI fronts grid gridr
set_option linter.unusedVariables false

theorem RetM.out_yes {w w' : World} {p : Prop} {L : List (Nat × Nat)} {e : Ending} (h : RetM w p L e w') (hp : p) : ∃ A c, e = .returned (.tuple #[.slice A L.length c, .bool true]) ∧ Moms w' (.slice A L.length c) L ∧ Below w.heap.size w w' := by
  obtain ⟨A, c, h1, h2, h3⟩ := h
  rw [mcG_yes hp] at h1 h2
  rw [okG_yes hp] at h1
  exact ⟨A, c, h1, h2, h3⟩
theorem RetM.out_no {w w' : World} {p : Prop} {L : List (Nat × Nat)} {e : Ending} (h : RetM w p L e w') (hp : ¬ p) : ∃ A c, e = .returned (.tuple #[.slice A 0 c, .bool false]) ∧ Below w.heap.size w w' := by
  obtain ⟨A, c, h1, h2, h3⟩ := h
  rw [mcG_no hp] at h1
  rw [okG_no hp] at h1
  exact ⟨A, c, h1, h3⟩
set_option maxHeartbeats 1000000 in
set_option maxRecDepth 100000 in
theorem implUsed_any (s : Int) (v u : Value) (l : List Ed) (pl : List Int) (w : World) (h : Edges w v l) (hl : l.length ≤ 1048576) (hu : Ints w u pl) (hpl : pl.length ≤ 1048576) (h64 : ∀ x ∈ pl, In64 x) :
    Calls Try.prog 37 #[.agg #[.int .i64 s, v], u] w (RetN w (PrgOk s l pl) (usK s.toNat pl (pl.length + 1))) := by
  obtain ⟨A, c, rfl, -⟩ := h.form
  have b0 : Below w.heap.size w (w.alloc (.cells #[.int .i64 s, .slice A l.length c] 29)) := (Below.refl _ _).alloc (Nat.le_refl _) _
  have g0 := Blk.new w 29 #[.int .i64 s, .slice A l.length c]
  have HM := Lib.hid (momentsOf_any s _ u l pl _ (h.below b0) hl (hu.below b0) hpl h64)
  clear h hu
  obtain ⟨p0, p1, -, -⟩ := g0.two
  by_cases hok : PrgOk s l pl
  · have HOK := Lib.hid hok
    have h8 := hok.1.2.1
    have hn : s.toNat ≤ 8 := by have := hok.1.1; omega
    have h40 := hok.2.1
    have HM2 := Lib.hid (HM.out.mono (fun _ _ hh => hh.out_yes hok))
    have HLM := Lib.hid (momC_len s.toNat l pl pl.length)
    clear hok HM
    go_enter Try.func37, Try.ntmps37
    go_wp2_with fail
    refine HM2.out.mono ?_
    rintro e w2 ⟨A2, c2, rfl, hm2, b2⟩
    have HE := Lib.hid (btrans b0 b2)
    have HMO := Lib.hid hm2
    rw [HLM.out]
    clear hm2 b2 p0 p1 b0 g0 HM2
    generalize s.toNat = n at *
    go_wp2_with fail
    go_loopg [8, 19] (pl.length + 1) (fun g mv iv wr => ∃ k : Nat, k + g = pl.length + 1 ∧ iv = .int .i64 (k : Int) ∧ mv = .int .i64 (usK n pl k) ∧ Below w2.heap.size w2 wr)
    case atStart => exact ⟨0, by omega, rfl, rfl, Below.refl _ _⟩
    case round =>
      obtain ⟨k, hkg, rfl, rfl, hB⟩ := hrel
      cases gk with
      | zero =>
        obtain rfl : k = pl.length + 1 := by omega
        have HB := Lib.hid (btrans HE.out hB)
        clear hB
        go_wp2_with fail
        go_ret2
        exact RetN.yes HOK.out HB.out
      | succ g2 =>
        have hlt : k < pl.length + 1 := by omega
        have hlt' : (k : Int) < (pl.length : Int) + 1 := by omega
        obtain ⟨_, _, hf, hcc⟩ := Moms.form (HMO.out)
        rw [HLM.out] at hf
        cases hf
        obtain ⟨g, o, rfl, c0, c1⟩ := hcc k _ (momC_at (show k ≤ pl.length by omega))
        have q0 := nearv.cell_keep c0 hB
        have q1 := nearv.cell_keep c1 hB
        have HCT := Lib.hid (fun (W : World) => count_any (numOf (momS pl k) n) W (numOf_lt _ hn))
        rw [ones_num _ hn] at HCT
        have hK : usK n pl (k + 1) = max (usK n pl k) ((nw (momS pl k) n).length : Int) := rfl
        have HK := Lib.hid hK
        have hB2 := hB.alloc hB.size (.cells #[.int .u64 (numOf (momS pl k) n : Int), .int .u64 (numOf (momU n l pl k) n : Int)] 71)
        have HB := Lib.hid hB2
        obtain ⟨r0, r1, -, -⟩ := (Blk.new wr 71 #[.int .u64 (numOf (momS pl k) n : Int), .int .u64 (numOf (momU n l pl k) n : Int)]).two
        simp only at q0 q1
        clear c0 c1 hcc hK hB hB2
        generalize numOf (momU n l pl k) n = u0 at *
        generalize numOf (momS pl k) n = s0 at *
        generalize (nw (momS pl k) n).length = m at *
        generalize hus : usK n pl k = us at *
        go_wp2_with fail
        refine (HCT.out _).mono ?_
        rintro e w' ⟨rfl, rfl⟩
        go_wp2_with fail
        all_goals
          go_roundg g2
          case measure => omega
          case rel => exact ⟨k + 1, by omega, by go_num, by rw [HK.out]; congr 1; omega, HB.out⟩
  · have HN := Lib.hid hok
    have HM2 := Lib.hid (HM.out.mono (fun _ _ hh => hh.out_no hok))
    clear hok HM
    go_enter Try.func37, Try.ntmps37
    go_wp2_with fail
    refine HM2.out.mono ?_
    rintro e w2 ⟨A2, c2, rfl, b2⟩
    have HE := Lib.hid (btrans b0 b2)
    clear p0 p1 b2
    go_wp2_with fail
    go_loopg [8, 19] 0 (fun g mv iv wr => iv = .int .i64 0 ∧ mv = .int .i64 0 ∧ wr = w2)
    case atStart => exact ⟨rfl, rfl, rfl⟩
    case round =>
      obtain ⟨rfl, rfl, rfl⟩ := hrel
      go_wp2_with fail
      go_ret2
      exact RetN.no HN.out HE.out
set_option maxHeartbeats 1000000 in
set_option maxRecDepth 100000 in
theorem implClearing_any (s : Int) (v u : Value) (l : List Ed) (pl : List Int) (w : World) (h : Edges w v l) (hl : l.length ≤ 1048576) (hu : Ints w u pl) (hpl : pl.length ≤ 1048576) (h64 : ∀ x ∈ pl, In64 x) :
    Calls Try.prog 39 #[.agg #[.int .i64 s, v], u] w fun e w' => e = .returned (.tuple #[.bool (okG (PrgOk s l pl ∧ ClearP s.toNat l pl)), .bool (okG (PrgOk s l pl))]) ∧ Below w.heap.size w w' := by
  obtain ⟨A, c, rfl, -⟩ := h.form
  obtain ⟨A5, c5, rfl, -⟩ := hu.form
  have b0 : Below w.heap.size w (w.alloc (.cells #[.int .i64 s, .slice A l.length c] 29)) := (Below.refl _ _).alloc (Nat.le_refl _) _
  have g0 := Blk.new w 29 #[.int .i64 s, .slice A l.length c]
  have HM := Lib.hid (momentsOf_any s _ _ l pl _ (h.below b0) hl (hu.below b0) hpl h64)
  clear h hu
  obtain ⟨p0, p1, -, -⟩ := g0.two
  by_cases hok : PrgOk s l pl
  · have HOK := Lib.hid (okG_yes hok)
    have h8 := hok.1.2.1
    have hn : s.toNat ≤ 8 := by have := hok.1.1; omega
    have h40 := hok.2.1
    have HM2 := Lib.hid (HM.out.mono (fun _ _ hh => hh.out_yes hok))
    have HLM := Lib.hid (momC_len s.toNat l pl pl.length)
    have HV : Hid (okG (PrgOk s l pl ∧ ClearP s.toNat l pl) = ((numOf (momU s.toNat l pl pl.length) s.toNat : Int) == 0)) := by
      show _ = _
      have h1 : okG (PrgOk s l pl ∧ ClearP s.toNat l pl) = okG (ClearP s.toNat l pl) := by
        rw [Bool.eq_iff_iff, okG_iff, okG_iff]; exact ⟨fun h => h.2, fun h => ⟨hok, h⟩⟩
      rw [h1, ← clear_num, Bool.eq_iff_iff, decide_eq_true_iff, beq_iff_eq]; omega
    clear hok HM
    go_enter Try.func39, Try.ntmps39
    go_wp2_with fail
    refine HM2.out.mono ?_
    rintro e w2 ⟨A2, c2, rfl, hm2, b2⟩
    have HE := Lib.hid (btrans b0 b2)
    have HMO := Lib.hid hm2
    rw [HLM.out]
    obtain ⟨_, _, hf, hcc⟩ := Moms.form (HMO.out)
    rw [HLM.out] at hf
    cases hf
    obtain ⟨g, o, rfl, q0, q1⟩ := hcc pl.length _ (momC_at (Nat.le_refl _))
    simp only at q0 q1
    clear hm2 b2 p0 p1 b0 g0 HM2 hcc
    have hll : (pl.length : Int) < (pl.length : Int) + 1 := by omega
    generalize numOf (momU s.toNat l pl pl.length) s.toNat = u0 at *
    generalize numOf (momS pl pl.length) s.toNat = s0 at *
    go_wp2_with fail
    go_ret2
    exact ⟨retBB' HV.out.symm HOK.out.symm, HE.out⟩
  · have HN := Lib.hid (okG_no hok)
    have HN2 : Hid (okG (PrgOk s l pl ∧ ClearP s.toNat l pl) = false) := okG_no fun hh => hok hh.1
    have HM2 := Lib.hid (HM.out.mono (fun _ _ hh => hh.out_no hok))
    clear hok HM
    go_enter Try.func39, Try.ntmps39
    go_wp2_with fail
    refine HM2.out.mono ?_
    rintro e w2 ⟨A2, c2, rfl, b2⟩
    have HE := Lib.hid (btrans b0 b2)
    clear p0 p1 b2
    go_wp2_with fail
    go_ret2
    exact ⟨retBB' HN2.out.symm HN.out.symm, HE.out⟩
theorem steady_ok {s : Int} {l : List Ed} {pl : List Int} (h : PrgOk s l pl) (q : Prop) : okG (PrgOk s l pl ∧ q) = okG q := by
  rw [Bool.eq_iff_iff, okG_iff, okG_iff]; exact ⟨fun h => h.2, fun h2 => ⟨h, h2⟩⟩
set_option maxHeartbeats 2000000 in
set_option maxRecDepth 100000 in
theorem implSteady_any (s : Int) (v u : Value) (l : List Ed) (pl : List Int) (w : World) (h : Edges w v l) (hl : l.length ≤ 1048576) (hu : Ints w u pl) (hpl : pl.length ≤ 1048576) (h64 : ∀ x ∈ pl, In64 x) :
    Calls Try.prog 41 #[.agg #[.int .i64 s, v], u] w fun e w' => e = .returned (.tuple #[.bool (okG (PrgOk s l pl ∧ SteadyTo s.toNat l pl pl.length)), .bool (okG (PrgOk s l pl))]) ∧ Below w.heap.size w w' := by
  obtain ⟨A, c, rfl, -⟩ := h.form
  have b0 : Below w.heap.size w (w.alloc (.cells #[.int .i64 s, .slice A l.length c] 29)) := (Below.refl _ _).alloc (Nat.le_refl _) _
  have g0 := Blk.new w 29 #[.int .i64 s, .slice A l.length c]
  have HM := Lib.hid (momentsOf_any s _ u l pl _ (h.below b0) hl (hu.below b0) hpl h64)
  clear h hu
  obtain ⟨p0, p1, -, -⟩ := g0.two
  by_cases hok : PrgOk s l pl
  · obtain ⟨n, rfl⟩ : ∃ n : Nat, s = (n : Int) := ⟨s.toNat, by have := hok.1.1; omega⟩
    rw [Int.toNat_natCast] at HM ⊢
    have HOK := Lib.hid (okG_yes hok)
    have h8 := hok.1.2.1
    have hn : n ≤ 8 := by omega
    have h40 := hok.2.1
    have HM2 := Lib.hid (HM.out.mono (fun _ _ hh => hh.out_yes hok))
    have HLM := Lib.hid (momC_len n l pl pl.length)
    have HST := Lib.hid (steady_ok hok (SteadyTo n l pl pl.length))
    have HZ := Lib.hid (SteadyTo.zero n l pl)
    clear hok HM
    go_enter Try.func41, Try.ntmps41
    go_wp2_with fail
    refine HM2.out.mono ?_
    rintro e w2 ⟨A2, c2, rfl, hm2, b2⟩
    have HE := Lib.hid (btrans b0 b2)
    have HMO := Lib.hid hm2
    rw [HLM.out]
    clear hm2 b2 p0 p1 b0 g0 HM2
    go_wp2_with fail
    go_loopg [8] pl.length (fun g iv wr => ∃ k j : Nat, k + g = pl.length ∧ Hid (j = k + 1) ∧ iv = .int .i64 (j : Int) ∧ Hid (SteadyTo n l pl k) ∧ Below w2.heap.size w2 wr)
    case atStart => exact ⟨0, 1, by omega, rfl, rfl, HZ, Below.refl _ _⟩
    case round =>
      clear HZ
      obtain ⟨k, j, hkg, hj, rfl, hst, hB⟩ := hrel
      have hj1 := hj.out
      cases gk with
      | zero =>
        obtain rfl : k = pl.length := by omega
        have hjl : ¬ (j : Int) < (pl.length : Int) + 1 := by omega
        have HV := Lib.hid (okG_yes hst.out)
        have HB := Lib.hid (btrans HE.out hB)
        clear hB hst hj1
        go_wp2_with fail
        go_ret2
        exact ⟨retBB' (by rw [HST.out, HV.out]) HOK.out.symm, HB.out⟩
      | succ g2 =>
        have hjl : (j : Int) < (pl.length : Int) + 1 := by omega
        have hkl : (k : Int) < (pl.length : Int) + 1 := by omega
        have hw : IntKind.i64.wrap ((j : Int) - 1) = (k : Int) := by rw [show (j : Int) - 1 = (k : Int) from by omega]; exact IntWalk.i64_in _ (by omega)
        have hk0 : (0 : Int) ≤ (k : Int) := by omega
        have hkl2 : k < pl.length := by omega
        obtain ⟨_, _, hf, hcc⟩ := Moms.form (HMO.out)
        rw [HLM.out] at hf
        cases hf
        obtain ⟨g, o, rfl, c0, c1⟩ := hcc k _ (momC_at (show k ≤ pl.length by omega))
        obtain ⟨_, _, hf2, d0, d1⟩ := hcc j _ (momC_at (show j ≤ pl.length by omega))
        cases hf2
        have q1 := nearv.cell_keep c1 hB
        have r1 := nearv.cell_keep d1 hB
        simp only at q1 r1
        have han := andNot_zero (momU n l pl j) (momU n l pl k) hn
        have HB := Lib.hid hB
        clear c0 c1 d0 d1 hcc hB
        by_cases hs : ∀ z, z < n → momU n l pl j z = true → momU n l pl k z = true
        · rw [okG_yes hs] at han
          have hbn : (bits .andNot .u64 ((numOf (momU n l pl j) n : Nat) : Int) ((numOf (momU n l pl k) n : Nat) : Int) != 0) = false := by rw [bne, han]; rfl
          have HN : Hid (SteadyTo n l pl (k + 1)) := hst.out.succ (by rw [← hj1]; exact hs)
          clear hs han hst hj1
          generalize numOf (momU n l pl j) n = u1 at *
          generalize numOf (momU n l pl k) n = u0 at *
          go_wp2_with fail
          go_quiet (fail)
          go_wp2_with fail
          go_roundg g2
          case measure => omega
          case rel => exact ⟨k + 1, j + 1, by omega, by have := hj.out; exact Lib.hid (by omega), by go_num, HN, below_drewN HB.out _⟩
        · rw [okG_no hs] at han
          have hbn : (bits .andNot .u64 ((numOf (momU n l pl j) n : Nat) : Int) ((numOf (momU n l pl k) n : Nat) : Int) != 0) = true := by rw [bne, han]; rfl
          have HN : Hid (okG (SteadyTo n l pl pl.length) = false) := okG_no fun hh => hs (by have := hh k hkl2; rw [← hj1] at this; exact this)
          clear hs han hst hj1
          generalize numOf (momU n l pl j) n = u1 at *
          generalize numOf (momU n l pl k) n = u0 at *
          go_wp2_with fail
          go_quiet (fail)
          go_wp2_with fail
          go_ret2
          exact ⟨retBB' (by rw [HST.out, HN.out]) HOK.out.symm, btrans HE.out (below_drewN HB.out _)⟩
  · have HN := Lib.hid (okG_no hok)
    have HN2 : Hid (okG (PrgOk s l pl ∧ SteadyTo s.toNat l pl pl.length) = false) := okG_no fun hh => hok hh.1
    have HM2 := Lib.hid (HM.out.mono (fun _ _ hh => hh.out_no hok))
    clear hok HM
    go_enter Try.func41, Try.ntmps41
    go_wp2_with fail
    refine HM2.out.mono ?_
    rintro e w2 ⟨A2, c2, rfl, b2⟩
    have HE := Lib.hid (btrans b0 b2)
    clear p0 p1 b2
    go_wp2_with fail
    go_loopg [8] 0 (fun g iv wr => iv = .int .i64 1 ∧ wr = w2)
    case atStart => exact ⟨rfl, rfl⟩
    case round =>
      obtain ⟨rfl, rfl⟩ := hrel
      go_wp2_with fail
      go_ret2
      exact ⟨retBB' HN2.out.symm HN.out.symm, HE.out⟩
set_option maxHeartbeats 4000000 in
set_option maxRecDepth 100000 in
theorem implRun_any (s : Int) (v u : Value) (l : List Ed) (pl : List Int) (w : World) (h : Edges w v l) (hl : l.length ≤ 1048576) (hu : Ints w u pl) (hpl : pl.length ≤ 1048576) (h64 : ∀ x ∈ pl, In64 x) :
    Calls Try.prog 35 #[.agg #[.int .i64 s, v], u] w (RetGr w (PrgOk s l pl) (runK s.toNat l pl pl.length)) := by
  obtain ⟨A, c, rfl, -⟩ := h.form
  obtain ⟨A5, c5, rfl, -⟩ := hu.form
  have b0 : Below w.heap.size w (w.alloc (.cells #[.int .i64 s, .slice A l.length c] 29)) := (Below.refl _ _).alloc (Nat.le_refl _) _
  have g0 := Blk.new w 29 #[.int .i64 s, .slice A l.length c]
  have HM := Lib.hid (momentsOf_any s _ _ l pl _ (h.below b0) hl (hu.below b0) hpl h64)
  clear h hu
  obtain ⟨p0, p1, -, -⟩ := g0.two
  by_cases hok : PrgOk s l pl
  · have HOK := Lib.hid hok
    have h8 := hok.1.2.1
    have hn : s.toNat ≤ 8 := by have := hok.1.1; omega
    have h40 := hok.2.1
    have HM2 := Lib.hid (HM.out.mono (fun _ _ hh => hh.out_yes hok))
    have HLM := Lib.hid (momC_len s.toNat l pl pl.length)
    obtain ⟨i1, hi1, hy0, hy1, hy2⟩ := info_parts infoRow
    have hmk := fun (W : World) => run_make_rowN (P := Try.prog) 39 25 i1 (.slice none 0 0) Try.underlying39 hi1 hy0 .i64 .i64 pl.length pl.length (Nat.le_refl _) (by rw [hy2]; omega) (by omega) W
    rw [hy1] at hmk
    simp only [Nat.mul_one] at hmk
    clear hok HM
    go_enter Try.func35, Try.ntmps35
    go_wp2_with fail
    refine HM2.out.mono ?_
    rintro e w2 ⟨A2, c2, rfl, hm2, b2⟩
    have e2 := btrans b0 b2
    have HMO := Lib.hid hm2
    rw [HLM.out]
    have HOM := Lib.hid ((OwnG.made w2 pl.length (by unfold maxLen; omega)).base e2.size)
    rw [Nat.mul_one] at HOM
    have HE := Lib.hid e2
    have HB0 : Hid (Below w2.heap.size w2 (w2.alloc (.cells (madeCells #[.slice none 0 0] pl.length) 25))) := (Below.refl _ _).alloc (Nat.le_refl _) _
    clear hm2 b2 p0 p1 b0 g0 HM2 e2
    generalize s.toNat = n at *
    go_wp2_with fail
    clear hmk
    go_loopg [23] pl.length (fun g iv wr => ∃ (k : Nat) (us : List Value), k + g = pl.length ∧ iv = .int .i64 (k : Int) ∧ OwnG wr w.heap.size (.slice (some ⟨w2.heap.size, 0, none⟩) pl.length pl.length) us (runR pl.length n l pl k) ∧ Below w2.heap.size w2 wr)
    case atStart => exact ⟨0, _, by omega, rfl, by rw [runR_zero]; exact HOM.out, HB0.out⟩
    case round =>
      clear HOM HB0
      obtain ⟨k, us, hkg, rfl, hG, hB⟩ := hrel
      have hsz := hB.size
      have hwz := HE.out.size
      cases gk with
      | zero =>
        obtain rfl : k = pl.length := by omega
        rw [runR_all] at hG
        have HLN := Lib.hid (runK_len n l pl pl.length)
        have HG := Lib.hid hG
        have HB := Lib.hid (btrans HE.out hB)
        clear hG hB
        go_wp2_with fail
        go_ret2
        have h9 := RetGr.yes (rows := runK n l pl pl.length) (A := some ⟨w2.heap.size, 0, none⟩) (c := pl.length) (us := us) HOK.out (by rw [HLN.out]; exact HG.out) HB.out
        rw [HLN.out] at h9
        exact h9
      | succ g2 =>
        have hlt : k < pl.length := by omega
        have hlt' : (k : Int) < (pl.length : Int) := by omega
        have hlt2 : (k : Int) + 1 < (pl.length : Int) + 1 := by omega
        obtain ⟨_, _, hf, hcc⟩ := Moms.form (HMO.out)
        rw [HLM.out] at hf
        cases hf
        obtain ⟨g, o, rfl, c0, c1⟩ := hcc (k + 1) _ (momC_at (show k + 1 ≤ pl.length by omega))
        have q1 := nearv.cell_keep c1 hB
        simp only at q1
        have HND := Lib.hid (nodes_any (numOf (momU n l pl (k + 1)) n) wr (by have := numOf_lt (momU n l pl (k + 1)) hn; omega))
        have HNN : Hid (nw (bitB (numOf (momU n l pl (k + 1)) n)) 8 = runT n l pl k) := nodes_num hn
        rw [HNN.out] at HND
        have HG := Lib.hid hG
        have HB := Lib.hid hB
        clear hG hB hcc HNN c0 c1
        generalize numOf (momU n l pl (k + 1)) n = u1 at *
        generalize numOf (momS pl (k + 1)) n = s1 at *
        go_wp2_with fail
        refine HND.out.mono ?_
        rintro e w4 ⟨A6, c6, rfl, o5, b5⟩
        have hG4 := HG.out.below b5
        have hrl := runR_len n l pl (k := k) (m := pl.length) (by omega)
        have h1 := hG4.1
        rw [hrl] at h1
        have hul := hG4.len
        rw [hrl] at hul
        obtain ⟨u0, hu0⟩ : ∃ u, us[k]? = some u := ⟨_, List.getElem?_eq_getElem (by omega)⟩
        have f0 := h1.cellAt k (by omega)
        rw [hu0] at f0
        have z0 := h1.frozenAt k
        have HS : Hid (OwnG (w4.setCell ⟨w2.heap.size, k, none⟩ (.slice A6 (runT n l pl k).length c6)) w.heap.size (.slice (some ⟨w2.heap.size, 0, none⟩) pl.length pl.length) (us.set k (.slice A6 (runT n l pl k).length c6)) (runR pl.length n l pl (k + 1))) := by
          have h9 : OwnG w4 w.heap.size (.slice (some ⟨w2.heap.size, 0, none⟩) (runR pl.length n l pl k).length pl.length) us (runR pl.length n l pl k) := by rw [hrl]; exact hG4
          have hfr := OwnG.fresh HG.out (own_base o5 (Nat.le_refl _))
          have := OwnG.store h9 (by rw [hrl]; exact hlt) (own_base o5 (by omega)) (fun i x b _ hx hb => hfr i x b hx hb)
          rw [runR_succ n l pl hlt, hrl] at this
          exact this
        have HB5 := Lib.hid ((btrans HB.out b5).setCell (p := ⟨w2.heap.size, k, none⟩) (Nat.le_refl _) (.slice A6 (runT n l pl k).length c6))
        clear hG4 h1 hrl hul b5 o5 hu0
        go_wp2_with fail
        go_roundg g2
        case measure => omega
        case rel => exact ⟨k + 1, _, by omega, by go_num, HS.out, HB5.out⟩
  · have HN := Lib.hid hok
    have HM2 := Lib.hid (HM.out.mono (fun _ _ hh => hh.out_no hok))
    clear hok HM
    go_enter Try.func35, Try.ntmps35
    go_wp2_with fail
    refine HM2.out.mono ?_
    rintro e w2 ⟨A2, c2, rfl, b2⟩
    have HE := Lib.hid (btrans b0 b2)
    clear p0 p1 b2
    go_wp2_with fail
    go_ret2
    exact RetGr.nil HN.out HE.out
end Go.Proofs.Ytbjcfjgoedpgdaa.moms
