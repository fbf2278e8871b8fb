/- The contracts of the model's SearchersUsed, IsClearing, IsSteady and RunProgram. -/
import Derived.Handy
import Derived.Test.YtbjcfjgoedpgdaaStatS
import Derived.Test.YtbjcfjgoedpgdaaRunI
import Derived.Test.YtbjcfjgoedpgdaaPrgI
import Derived.Test.YtbjcfjgoedpgdaaMinMax
import Derived.Test.YtbjcfjgoedpgdaaTimeT
import Derived.Deep.DeepCutAuto
import Derived.Deep.QuietTactic
namespace Go.Proofs.Ytbjcfjgoedpgdaa.moms
open Go.RowKit Go.Maps P2 words edges ints good near adjs fns sets rets covs reach bags balls mids grid gridr
set_option linter.unusedVariables false

theorem tneII : (3 : TypeId) ≠ 25 := by decide
theorem tneSI : (69 : TypeId) ≠ 25 := by decide
/-- states stay where a row of rows grows -/
theorem OwnS.apart {w w6 : World} {B C n k m : Nat} {l : List Ed} {pl : List Int} {v x : Value} {us : List (Value × Value)} {xs : List Value} {o : Obj} (h : OwnS w B n l pl k v us) (hx : w.ownsRow C 25 1 x m xs) (hg : (w.alloc o).grownBy w6 x.ownBlock) : OwnS w6 B n l pl k v us := by
  have go : ∀ {t : TypeId} {size q D : Nat} {y : Value} {ys : List Value}, t ≠ 25 → w.ownsRow D t size y q ys → w6.ownsRow D t size y q ys := fun {t size q D y ys} ht ho =>
    (ho.alloc o).kept hg (by
      cases hh : y.ownBlock with
      | none => exact .inl rfl
      | some b => exact .inr (fun e => own_apart ho hx ht b hh e.symm))
  exact ⟨go tneSI h.1, h.2.1, fun j a b hj => ⟨go tneII (h.2.2 j a b hj).1, go tneII (h.2.2 j a b hj).2⟩⟩
set_option maxHeartbeats 4000000 in
set_option maxRecDepth 100000 in
theorem specUsed_any (s : Int) (v u : Value) (l : List Ed) (pl : List Int) (w : World) (h : Edges w v l) (hl : l.length ≤ 1048576) (hu : Ints w u pl) (hpl : pl.length ≤ 1048576) (h64 : ∀ x ∈ pl, In64 x) (hs1 : -9223372036854775808 ≤ s) (hs2 : s ≤ 9223372036854775807) :
    Calls Try.prog 36 #[.agg #[.int .i64 s, v], u] w (RetN w (PrgOk s l pl) (usK s.toNat pl (pl.length + 1))) := by
  obtain ⟨A, c, rfl, -⟩ := h.form
  obtain ⟨A5, c5, rfl, -⟩ := hu.form
  have H := Lib.hid h
  have HU := Lib.hid hu
  have H64 := Lib.hid h64
  have b0 : Below w.heap.size w (w.alloc (.cells #[.int .i64 s, .slice A l.length c] 29)) := (Below.refl _ _).alloc (Nat.le_refl _) _
  have g0 := Blk.new w 29 #[.int .i64 s, .slice A l.length c]
  have HG := Lib.hid (l2Good_any s _ l _ (h.below b0) hl hs1 hs2)
  clear h hu h64
  by_cases hgd : P2.Good s l
  · rw [goodB_yes hgd] at HG
    have h0 := hgd.1
    have h8 := hgd.2.1
    obtain ⟨n, rfl⟩ : ∃ n : Nat, s = (n : Int) := ⟨s.toNat, by omega⟩
    have hn : n ≤ 8 := by omega
    rw [Int.toNat_natCast]
    have HL := Lib.hid (fun (W : World) (hW : Below w.heap.size w W) => l6Program_any n (.slice A l.length c) (.slice A5 pl.length c5) l pl W (H.out.below hW) hl (HU.out.below hW) hpl hn H64.out)
    rw [prg_iff hgd] at HL
    by_cases hok : PrgOk (n : Int) l pl
    · rw [okG_yes hok] at HL
      have HOK := Lib.hid hok
      have h40 := hok.2.1
      have HPP : Hid (ProgP n pl) := by have := hok.2.2; rwa [Int.toNat_natCast] at this
      clear hgd hok
      go_enter Try.func36, Try.ntmps36
      go_wp2_with fail
      refine HG.out.mono ?_
      rintro e w1 ⟨rfl, b1⟩
      have e1 := btrans b0 b1
      have g1 := g0.below b1 g0.lt
      obtain ⟨p0, p1, -, -⟩ := g1.two
      have HL1 := Lib.hid (HL.out w1 e1)
      clear HG b0 b1 g0 HL
      go_wp2_with fail
      refine HL1.out.mono ?_
      rintro e w2 ⟨rfl, b2⟩
      have e2 := btrans e1 b2
      have g2 := g1.below b2 g1.lt
      clear p0 p1
      obtain ⟨p0, p1, -, -⟩ := g2.two
      go_wp2_with fail
      refine (l6States_any n (.slice A l.length c) (.slice A5 pl.length c5) l pl w2 (H.out.below e2) hl (HU.out.below e2) h40 hn HPP.out).mono ?_
      rintro e w3 ⟨x, us, rfl, os3, b3⟩
      have HE3 := Lib.hid (btrans e2 b3)
      have HOS := Lib.hid os3
      obtain ⟨Ax, cx, rfl⟩ := own_form os3.1
      clear os3 b3 p0 p1 g1 g2 e1 e2 b2 HL1
      go_wp2_with fail
      go_loopg [6, 8] (pl.length + 1) (fun g mv iv wr => ∃ k : Nat, k + g = pl.length + 1 ∧ iv = .int .i64 (k : Int) ∧ mv = .int .i64 (usK n pl k) ∧ wr = w3)
      case atStart => exact ⟨0, by omega, rfl, rfl, rfl⟩
      case round =>
        obtain ⟨k, hkg, rfl, rfl, rfl⟩ := hrel
        cases gk with
        | zero =>
          obtain rfl : k = pl.length + 1 := by omega
          go_wp2_with fail
          go_ret2
          exact RetN.yes HOK.out HE3.out
        | succ g2 =>
          have hlt' : (k : Int) < (pl.length : Int) + 1 := by omega
          obtain ⟨a, b, gs, cs, -, hv, m0, m1, hop⟩ := HOS.out.at_ (j := k) (by omega)
          obtain ⟨rfl, rfl⟩ : Ax = some ⟨gs, 0, none⟩ ∧ cx = cs := by simpa using hv
          obtain ⟨Aa, ca, ea⟩ := own_form hop.1
          subst ea
          have hK : usK n pl (k + 1) = max (usK n pl k) ((nw (momS pl k) n).length : Int) := rfl
          have HK := Lib.hid hK
          clear hv hop m1 hK
          generalize (nw (momS pl k) n).length = m at *
          generalize hus : usK n pl k = us0 at *
          go_wp2_with fail
          refine (minmax.l1Most_any us0 (m : Int) wr).mono ?_
          rintro e w' ⟨rfl, rfl⟩
          go_wp2_with fail
          go_roundg g2
          case measure => omega
          case rel => exact ⟨k + 1, by omega, by go_num, by rw [HK.out], rfl⟩
    · rw [okG_no hok] at HL
      have HN := Lib.hid hok
      clear hgd hok
      go_enter Try.func36, Try.ntmps36
      go_wp2_with fail
      refine HG.out.mono ?_
      rintro e w1 ⟨rfl, b1⟩
      have e1 := btrans b0 b1
      have g1 := g0.below b1 g0.lt
      obtain ⟨p0, p1, -, -⟩ := g1.two
      have HL1 := Lib.hid (HL.out w1 e1)
      clear HG b0 b1 g0 HL
      go_wp2_with fail
      refine HL1.out.mono ?_
      rintro e w2 ⟨rfl, b2⟩
      have HE2 := Lib.hid (btrans e1 b2)
      clear p0 p1 g1 e1 b2
      go_wp2_with fail
      go_ret2
      exact RetN.no HN.out HE2.out
  · rw [goodB_no hgd] at HG
    have HN : Hid (¬ PrgOk s l pl) := fun hh => hgd hh.1
    clear hgd
    go_enter Try.func36, Try.ntmps36
    go_wp2_with fail
    refine HG.out.mono ?_
    rintro e w1 ⟨rfl, b1⟩
    have HE1 := Lib.hid (btrans b0 b1)
    clear b0 b1 g0
    go_wp2_with fail
    go_ret2
    exact RetN.no HN.out HE1.out
set_option maxHeartbeats 4000000 in
set_option maxRecDepth 100000 in
theorem specClearing_any (s : Int) (v u : Value) (l : List Ed) (pl : List Int) (w : World) (h : Edges w v l) (hl : l.length ≤ 1048576) (hu : Ints w u pl) (hpl : pl.length ≤ 1048576) (h64 : ∀ x ∈ pl, In64 x) (hs1 : -9223372036854775808 ≤ s) (hs2 : s ≤ 9223372036854775807) :
    Calls Try.prog 38 #[.agg #[.int .i64 s, v], u] w fun e w' => e = .returned (.tuple #[.bool (okG (PrgOk s l pl ∧ ClearP s.toNat l pl)), .bool (okG (PrgOk s l pl))]) ∧ Below w.heap.size w w' := by
  obtain ⟨A, c, rfl, -⟩ := h.form
  obtain ⟨A5, c5, rfl, -⟩ := hu.form
  have H := Lib.hid h
  have HU := Lib.hid hu
  have H64 := Lib.hid h64
  have b0 : Below w.heap.size w (w.alloc (.cells #[.int .i64 s, .slice A l.length c] 29)) := (Below.refl _ _).alloc (Nat.le_refl _) _
  have g0 := Blk.new w 29 #[.int .i64 s, .slice A l.length c]
  have HG := Lib.hid (l2Good_any s _ l _ (h.below b0) hl hs1 hs2)
  clear h hu h64
  by_cases hgd : P2.Good s l
  · rw [goodB_yes hgd] at HG
    have h0 := hgd.1
    have h8 := hgd.2.1
    obtain ⟨n, rfl⟩ : ∃ n : Nat, s = (n : Int) := ⟨s.toNat, by omega⟩
    have hn : n ≤ 8 := by omega
    rw [Int.toNat_natCast]
    have HL := Lib.hid (fun (W : World) (hW : Below w.heap.size w W) => l6Program_any n (.slice A l.length c) (.slice A5 pl.length c5) l pl W (H.out.below hW) hl (HU.out.below hW) hpl hn H64.out)
    rw [prg_iff hgd] at HL
    by_cases hok : PrgOk (n : Int) l pl
    · rw [okG_yes hok] at HL
      have HOK := Lib.hid hok
      have h40 := hok.2.1
      have HPP : Hid (ProgP n pl) := by have := hok.2.2; rwa [Int.toNat_natCast] at this
      clear hgd hok
      go_enter Try.func38, Try.ntmps38
      go_wp2_with fail
      refine HG.out.mono ?_
      rintro e w1 ⟨rfl, b1⟩
      have e1 := btrans b0 b1
      have g1 := g0.below b1 g0.lt
      obtain ⟨p0, p1, -, -⟩ := g1.two
      have HL1 := Lib.hid (HL.out w1 e1)
      clear HG b0 b1 g0 HL
      go_wp2_with fail
      refine HL1.out.mono ?_
      rintro e w2 ⟨rfl, b2⟩
      have e2 := btrans e1 b2
      have g2 := g1.below b2 g1.lt
      clear p0 p1
      obtain ⟨p0, p1, -, -⟩ := g2.two
      go_wp2_with fail
      refine (l6States_any n (.slice A l.length c) (.slice A5 pl.length c5) l pl w2 (H.out.below e2) hl (HU.out.below e2) h40 hn HPP.out).mono ?_
      rintro e w3 ⟨x, us, rfl, os3, b3⟩
      have HE3 := Lib.hid (btrans e2 b3)
      have HOS := Lib.hid os3
      obtain ⟨Ax, cx, rfl⟩ := own_form os3.1
      clear os3 b3 p0 p1 g1 g2 e1 e2 b2 HL1
      obtain ⟨a, b, gs, cs, -, hv, m0, m1, hop⟩ := HOS.out.at_ (j := pl.length) (Nat.le_refl _)
      obtain ⟨rfl, rfl⟩ : Ax = some ⟨gs, 0, none⟩ ∧ cx = cs := by simpa using hv
      obtain ⟨Ab, cb, eb⟩ := own_form hop.2
      subst eb
      have hll : (pl.length : Int) < (pl.length : Int) + 1 := by omega
      have HV : Hid (okG (PrgOk (n : Int) l pl ∧ ClearP n l pl) = (((nw (momU n l pl pl.length) n).length : Int) == 0)) := by
        show _ = _
        have h1 : okG (PrgOk (n : Int) l pl ∧ ClearP n l pl) = okG (ClearP n l pl) := by
          rw [Bool.eq_iff_iff, okG_iff, okG_iff]; exact ⟨fun h => h.2, fun h => ⟨HOK.out, h⟩⟩
        rw [h1, ← clear_len, Bool.eq_iff_iff, decide_eq_true_iff, beq_iff_eq]; omega
      clear hv hop m0
      generalize (nw (momU n l pl pl.length) n).length = m at *
      go_wp2_with fail
      go_ret2
      exact ⟨retBB' HV.out.symm (okG_yes HOK.out).symm, HE3.out⟩
    · rw [okG_no hok] at HL
      have HN := Lib.hid hok
      clear hgd hok
      go_enter Try.func38, Try.ntmps38
      go_wp2_with fail
      refine HG.out.mono ?_
      rintro e w1 ⟨rfl, b1⟩
      have e1 := btrans b0 b1
      have g1 := g0.below b1 g0.lt
      obtain ⟨p0, p1, -, -⟩ := g1.two
      have HL1 := Lib.hid (HL.out w1 e1)
      clear HG b0 b1 g0 HL
      go_wp2_with fail
      refine HL1.out.mono ?_
      rintro e w2 ⟨rfl, b2⟩
      have HE2 := Lib.hid (btrans e1 b2)
      clear p0 p1 g1 e1 b2
      go_wp2_with fail
      go_ret2
      exact ⟨retBB' (okG_no fun hh => HN.out hh.1).symm (okG_no HN.out).symm, HE2.out⟩
  · rw [goodB_no hgd] at HG
    have HN : Hid (¬ PrgOk s l pl) := fun hh => hgd hh.1
    clear hgd
    go_enter Try.func38, Try.ntmps38
    go_wp2_with fail
    refine HG.out.mono ?_
    rintro e w1 ⟨rfl, b1⟩
    have HE1 := Lib.hid (btrans b0 b1)
    clear b0 b1 g0
    go_wp2_with fail
    go_ret2
    exact ⟨retBB' (okG_no fun hh => HN.out hh.1).symm (okG_no HN.out).symm, HE1.out⟩
set_option maxHeartbeats 4000000 in
set_option maxRecDepth 100000 in
theorem specSteady_any (s : Int) (v u : Value) (l : List Ed) (pl : List Int) (w : World) (h : Edges w v l) (hl : l.length ≤ 1048576) (hu : Ints w u pl) (hpl : pl.length ≤ 1048576) (h64 : ∀ x ∈ pl, In64 x) (hs1 : -9223372036854775808 ≤ s) (hs2 : s ≤ 9223372036854775807) :
    Calls Try.prog 40 #[.agg #[.int .i64 s, v], u] w fun e w' => e = .returned (.tuple #[.bool (okG (PrgOk s l pl ∧ SteadyTo s.toNat l pl pl.length)), .bool (okG (PrgOk s l pl))]) ∧ Below w.heap.size w w' := by
  obtain ⟨A, c, rfl, -⟩ := h.form
  obtain ⟨A5, c5, rfl, -⟩ := hu.form
  have H := Lib.hid h
  have HU := Lib.hid hu
  have H64 := Lib.hid h64
  have b0 : Below w.heap.size w (w.alloc (.cells #[.int .i64 s, .slice A l.length c] 29)) := (Below.refl _ _).alloc (Nat.le_refl _) _
  have g0 := Blk.new w 29 #[.int .i64 s, .slice A l.length c]
  have HG := Lib.hid (l2Good_any s _ l _ (h.below b0) hl hs1 hs2)
  clear h hu h64
  by_cases hgd : P2.Good s l
  · rw [goodB_yes hgd] at HG
    have h0 := hgd.1
    have h8 := hgd.2.1
    obtain ⟨n, rfl⟩ : ∃ n : Nat, s = (n : Int) := ⟨s.toNat, by omega⟩
    have hn : n ≤ 8 := by omega
    rw [Int.toNat_natCast]
    have HL := Lib.hid (fun (W : World) (hW : Below w.heap.size w W) => l6Program_any n (.slice A l.length c) (.slice A5 pl.length c5) l pl W (H.out.below hW) hl (HU.out.below hW) hpl hn H64.out)
    rw [prg_iff hgd] at HL
    by_cases hok : PrgOk (n : Int) l pl
    · rw [okG_yes hok] at HL
      have HOK := Lib.hid hok
      have h40 := hok.2.1
      have HPP : Hid (ProgP n pl) := by have := hok.2.2; rwa [Int.toNat_natCast] at this
      clear hgd hok
      go_enter Try.func40, Try.ntmps40
      go_wp2_with fail
      refine HG.out.mono ?_
      rintro e w1 ⟨rfl, b1⟩
      have e1 := btrans b0 b1
      have g1 := g0.below b1 g0.lt
      obtain ⟨p0, p1, -, -⟩ := g1.two
      have HL1 := Lib.hid (HL.out w1 e1)
      clear HG b0 b1 g0 HL
      go_wp2_with fail
      refine HL1.out.mono ?_
      rintro e w2 ⟨rfl, b2⟩
      have e2 := btrans e1 b2
      have g2 := g1.below b2 g1.lt
      clear p0 p1
      obtain ⟨p0, p1, -, -⟩ := g2.two
      go_wp2_with fail
      refine (l6States_any n (.slice A l.length c) (.slice A5 pl.length c5) l pl w2 (H.out.below e2) hl (HU.out.below e2) h40 hn HPP.out).mono ?_
      rintro e w3 ⟨x, us, rfl, os3, b3⟩
      have HE3 := Lib.hid (btrans e2 b3)
      have HOS := Lib.hid os3
      obtain ⟨Ax, cx, rfl⟩ := own_form os3.1
      clear os3 b3 p0 p1 g1 g2 e1 e2 b2 HL1
      have HST := Lib.hid (steady_ok HOK.out (SteadyTo n l pl pl.length))
      have HZ := Lib.hid (SteadyTo.zero n l pl)
      go_wp2_with fail
      go_loopg [7] pl.length (fun g iv wr => ∃ k j : Nat, k + g = pl.length ∧ Hid (j = k + 1) ∧ iv = .int .i64 (j : Int) ∧ Hid (SteadyTo n l pl k) ∧ Below w3.heap.size w3 wr)
      case atStart => exact ⟨0, 1, by omega, rfl, rfl, HZ, Below.refl _ _⟩
      case round =>
        clear HZ
        obtain ⟨k, j, hkg, hj, rfl, hst, hB⟩ := hrel
        have hj1 := hj.out
        cases gk with
        | zero =>
          obtain rfl : k = pl.length := by omega
          have hjl : ¬ (j : Int) < (pl.length : Int) + 1 := by omega
          have HV := Lib.hid (okG_yes hst.out)
          have HB := Lib.hid (btrans HE3.out hB)
          clear hB hst hj1
          go_wp2_with fail
          go_ret2
          exact ⟨retBB' (by rw [HST.out, HV.out]) (okG_yes HOK.out).symm, HB.out⟩
        | succ g2 =>
          have hjl : (j : Int) < (pl.length : Int) + 1 := by omega
          have hkl : (k : Int) < (pl.length : Int) + 1 := by omega
          have hkl2 : k < pl.length := by omega
          have hw : IntKind.i64.wrap ((j : Int) - 1) = (k : Int) := by rw [show (j : Int) - 1 = (k : Int) from by omega]; exact IntWalk.i64_in _ (by omega)
          have hk0 : (0 : Int) ≤ (k : Int) := by omega
          obtain ⟨a, b, gs, cs, -, hv, m0, m1, hop⟩ := (HOS.out.below hB).at_ (j := k) (by omega)
          obtain ⟨rfl, rfl⟩ : Ax = some ⟨gs, 0, none⟩ ∧ cx = cs := by simpa using hv
          obtain ⟨a2, b2, gs2, cs2, -, hv2, n0, n1, hop2⟩ := (HOS.out.below hB).at_ (j := j) (by omega)
          obtain ⟨rfl, rfl⟩ : gs = gs2 ∧ cx = cs2 := by simpa using hv2
          obtain ⟨Ab, cb, eb⟩ := own_form hop.2
          subst eb
          obtain ⟨Ab2, cb2, eb2⟩ := own_form hop2.2
          subst eb2
          obtain ⟨wo, hwo⟩ : ∃ wo, wo = wr := ⟨_, rfl⟩
          subst hwo
          have HI0 := Lib.hid (Reads.of_own hop.2)
          have HI1 := Lib.hid (show Ints wo (.slice Ab2 (nw (momU n l pl j) n).length cb2) (nw (momU n l pl j) n) from Reads.of_own hop2.2)
          have HM := Lib.hid (And.intro m1 n1)
          have HB := Lib.hid hB
          have hul := nw_len (momU n l pl j) n
          have hul0 := nw_len (momU n l pl k) n
          have HJ : Hid (momU n l pl (k + 1) = momU n l pl j) := by show _ = _; rw [hj1]
          clear hv hv2 hop hop2 m0 n0 m1 n1 hB hj1
          go_wp2_with fail
          go_loopg [8] (nw (momU n l pl j) n).length (fun g iv wr => ∃ q : Nat, q + g = (nw (momU n l pl j) n).length ∧ iv = .int .i64 (q : Int) ∧ Hid (∀ (i z : Nat), i < q → (nw (momU n l pl j) n)[i]? = some (z : Int) → momU n l pl k z = true) ∧ Below wo.heap.size wo wr)
          case atStart => exact ⟨0, by omega, rfl, fun i z hi => by omega, Below.refl _ _⟩
          case round =>
            obtain ⟨q, hqg, rfl, hall, hB2⟩ := hrel
            have k1 := nearv.cell_keep HM.out.1 hB2
            have k2 := nearv.cell_keep HM.out.2 hB2
            cases gk with
            | zero =>
              obtain rfl : q = (nw (momU n l pl j) n).length := by omega
              have HN : Hid (SteadyTo n l pl (k + 1)) := hst.out.succ fun z hz hzu => by
                rw [HJ.out] at hzu
                obtain ⟨i, hi, hiz⟩ := at_nw hzu hz
                exact hall.out i z hi hiz
              have HB2 := Lib.hid (btrans HB.out hB2)
              clear hB2 hall hst
              go_wp2_with fail
              go_roundg g2
              case measure => omega
              case rel => exact ⟨k + 1, j + 1, by omega, by have := hj.out; exact Lib.hid (by omega), by go_num, HN, HB2.out⟩
            | succ g3 =>
              have hqt : (q : Int) < ((nw (momU n l pl j) n).length : Int) := by omega
              obtain ⟨zv, hzv⟩ : ∃ zv, (nw (momU n l pl j) n)[q]? = some zv := ⟨_, List.getElem?_eq_getElem (by omega)⟩
              obtain ⟨z, rfl, hzn, hzu⟩ := nw_at hzv
              obtain ⟨_, _, hf6, hcc6⟩ := (show Ints wr (.slice Ab2 (nw (momU n l pl j) n).length cb2) (nw (momU n l pl j) n) from HI1.out.below hB2).form
              cases hf6
              obtain ⟨g6, o6, rfl, q6⟩ := hcc6 q _ hzv
              have HHS := Lib.hid (fun (W : World) (hW : Below wo.heap.size wo W) => l1Has_any (.slice Ab (nw (momU n l pl k) n).length cb) (nw (momU n l pl k) n) (z : Int) W (HI0.out.below hW) (by omega))
              rw [mem_nwB hzn] at HHS
              have HB2 := Lib.hid hB2
              cases hz0 : momU n l pl k z with
              | true =>
                have HK : Hid (∀ (i z : Nat), i < q + 1 → (nw (momU n l pl j) n)[i]? = some (z : Int) → momU n l pl k z = true) := fun i y hi hiy => by
                  by_cases e : i = q
                  · subst e; rw [hzv] at hiy
                    have e2 : (z : Int) = (y : Int) := by simpa using hiy
                    rw [show y = z from by omega]; exact hz0
                  · exact hall.out i y (by omega) hiy
                rw [hz0] at HHS
                clear hall hzv hzu hcc6 hB2 hz0
                go_wp2_with fail
                go_quiet ((go_at_call 68; exact quiet_left (HHS.out _ (below_drewN HB2.out _))))
                go_wp2_with fail
                go_roundg g3
                case measure => omega
                case rel => exact ⟨q + 1, by omega, by go_num, HK, below_drewN HB2.out _⟩
              | false =>
                have HNO : Hid (okG (SteadyTo n l pl pl.length) = false) := okG_no (not_steady hkl2 hzn (by rw [HJ.out]; exact hzu) hz0)
                rw [hz0] at HHS
                clear hall hzv hzu hcc6 hB2 hz0 hst
                go_wp2_with fail
                go_quiet ((go_at_call 68; exact quiet_left (HHS.out _ (below_drewN HB2.out _))))
                go_wp2_with fail
                go_ret2
                exact ⟨retBB' (by rw [HST.out, HNO.out]) (okG_yes HOK.out).symm, btrans HE3.out (btrans HB.out (below_drewN HB2.out _))⟩
    · rw [okG_no hok] at HL
      have HN := Lib.hid hok
      clear hgd hok
      go_enter Try.func40, Try.ntmps40
      go_wp2_with fail
      refine HG.out.mono ?_
      rintro e w1 ⟨rfl, b1⟩
      have e1 := btrans b0 b1
      have g1 := g0.below b1 g0.lt
      obtain ⟨p0, p1, -, -⟩ := g1.two
      have HL1 := Lib.hid (HL.out w1 e1)
      clear HG b0 b1 g0 HL
      go_wp2_with fail
      refine HL1.out.mono ?_
      rintro e w2 ⟨rfl, b2⟩
      have HE2 := Lib.hid (btrans e1 b2)
      clear p0 p1 g1 e1 b2
      go_wp2_with fail
      go_ret2
      exact ⟨retBB' (okG_no fun hh => HN.out hh.1).symm (okG_no HN.out).symm, HE2.out⟩
  · rw [goodB_no hgd] at HG
    have HN : Hid (¬ PrgOk s l pl) := fun hh => hgd hh.1
    clear hgd
    go_enter Try.func40, Try.ntmps40
    go_wp2_with fail
    refine HG.out.mono ?_
    rintro e w1 ⟨rfl, b1⟩
    have HE1 := Lib.hid (btrans b0 b1)
    clear b0 b1 g0
    go_wp2_with fail
    go_ret2
    exact ⟨retBB' (okG_no fun hh => HN.out hh.1).symm (okG_no HN.out).symm, HE1.out⟩
set_option maxHeartbeats 4000000 in
set_option maxRecDepth 100000 in
theorem specRun_any (s : Int) (v u : Value) (l : List Ed) (pl : List Int) (w : World) (h : Edges w v l) (hl : l.length ≤ 1048576) (hu : Ints w u pl) (hpl : pl.length ≤ 1048576) (h64 : ∀ x ∈ pl, In64 x) (hs1 : -9223372036854775808 ≤ s) (hs2 : s ≤ 9223372036854775807) :
    Calls Try.prog 34 #[.agg #[.int .i64 s, v], u] w (RetGr w (PrgOk s l pl) (runK s.toNat l pl pl.length)) := by
  obtain ⟨A, c, rfl, -⟩ := h.form
  obtain ⟨A5, c5, rfl, -⟩ := hu.form
  have H := Lib.hid h
  have HU := Lib.hid hu
  have H64 := Lib.hid h64
  have b0 : Below w.heap.size w ((w.alloc (.cells #[.int .i64 s, .slice A l.length c] 29)).alloc (.cells #[] 25)) := ((Below.refl _ _).alloc (Nat.le_refl _) _).alloc (by simp) _
  have g0 := (Blk.new w 29 #[.int .i64 s, .slice A l.length c]).alloc (.cells #[] 25)
  have o0 := own_new0 (w.alloc (.cells #[.int .i64 s, .slice A l.length c] 29)) 25 1
  rw [World.size_alloc] at o0
  have HG := Lib.hid (l2Good_any s _ l _ (h.below b0) hl hs1 hs2)
  clear h hu h64
  by_cases hgd : P2.Good s l
  · rw [goodB_yes hgd] at HG
    have h0 := hgd.1
    have h8 := hgd.2.1
    obtain ⟨n, rfl⟩ : ∃ n : Nat, s = (n : Int) := ⟨s.toNat, by omega⟩
    have hn : n ≤ 8 := by omega
    rw [Int.toNat_natCast]
    have HL := Lib.hid (fun (W : World) (hW : Below w.heap.size w W) => l6Program_any n (.slice A l.length c) (.slice A5 pl.length c5) l pl W (H.out.below hW) hl (HU.out.below hW) hpl hn H64.out)
    rw [prg_iff hgd] at HL
    by_cases hok : PrgOk (n : Int) l pl
    · rw [okG_yes hok] at HL
      have HOK := Lib.hid hok
      have h40 := hok.2.1
      have HPP : Hid (ProgP n pl) := by have := hok.2.2; rwa [Int.toNat_natCast] at this
      clear hgd hok
      go_enter Try.func34, Try.ntmps34
      go_wp2_with fail
      refine HG.out.mono ?_
      rintro e w1 ⟨rfl, b1⟩
      have e1 := btrans b0 b1
      have g1 := g0.below b1 g0.lt
      obtain ⟨p0, p1, -, -⟩ := g1.two
      have HL1 := Lib.hid (HL.out w1 e1)
      have o1 := own_below o0 b1
      clear HG b0 b1 g0 HL
      go_wp2_with fail
      refine HL1.out.mono ?_
      rintro e w2 ⟨rfl, b2⟩
      have e2 := btrans e1 b2
      have g2 := g1.below b2 g1.lt
      have o2 := own_below o1 b2
      clear p0 p1
      obtain ⟨p0, p1, -, -⟩ := g2.two
      go_wp2_with fail
      refine (l6States_any n (.slice A l.length c) (.slice A5 pl.length c5) l pl w2 (H.out.below e2) hl (HU.out.below e2) h40 hn HPP.out).mono ?_
      rintro e w3 ⟨x, us, rfl, os3, b3⟩
      have HE3 := Lib.hid (btrans e2 b3)
      have HOS := Lib.hid os3
      have o3 := own_below o2 b3
      obtain ⟨Ax, cx, rfl⟩ := own_form os3.1
      clear os3 b3 p0 p1 g1 g2 e1 e2 b2 HL1
      obtain ⟨i1, hi1, hy0, hy1, hy2⟩ := info_parts infoRow
      have hw3 := HE3.out.size
      have HO0 : Hid (OwnG w3 w.heap.size (.slice (some ⟨w.heap.size + 1, 0, none⟩) 0 0) [] (runK n l pl 0)) := ⟨own_base o3 (by omega), fun i u r hu => by simp at hu, fun i j u u' k _ hu => by simp at hu⟩
      clear o3 o2 o1
      go_wp2_with fail
      go_loopg [6, 8] pl.length (fun g ov iv wr => ∃ (k j : Nat) (ow : Value) (vs : List Value), ow = ov ∧ k + g = pl.length ∧ Hid (j = k + 1) ∧ iv = .int .i64 (j : Int) ∧ OwnG wr w.heap.size ow vs (runK n l pl k) ∧ OwnS wr w2.heap.size n l pl pl.length (.slice Ax (pl.length + 1) cx) us ∧ Below w.heap.size w wr)
      case atStart => exact ⟨0, 1, _, _, rfl, by omega, rfl, rfl, HO0.out, HOS.out, HE3.out⟩
      case round =>
        clear HO0 HOS HE3
        obtain ⟨k, j, ow, vs, rfl, hkg, hj, rfl, hG, hos, hB⟩ := hrel
        obtain ⟨A4, c4, rfl⟩ := own_form hG.1
        have hj1 := hj.out
        have hul := hG.len
        have hlk := runK_len n l pl k
        rw [hlk] at hul
        cases gk with
        | zero =>
          obtain rfl : k = pl.length := by omega
          have hjl : ¬ (j : Int) < (pl.length : Int) + 1 := by omega
          have HG := Lib.hid hG
          have HB := Lib.hid hB
          clear hG hB hos hj1 hul hlk
          go_wp2_with fail
          go_ret2
          exact RetGr.yes HOK.out HG.out HB.out
        | succ g2 =>
          have hjl : (j : Int) < (pl.length : Int) + 1 := by omega
          obtain ⟨a, b, gs, cs, -, hv, m0, m1, hop⟩ := hos.at_ (j := j) (by omega)
          obtain ⟨rfl, rfl⟩ : Ax = some ⟨gs, 0, none⟩ ∧ cx = cs := by simpa using hv
          obtain ⟨Ab, cb, eb⟩ := own_form hop.2
          subst eb
          have hul2 := nw_len (momU n l pl j) n
          have HOW := Lib.hid (times.l1Own_any (.slice Ab (nw (momU n l pl j) n).length cb) (nw (momU n l pl j) n) wr (Reads.of_own hop.2) (by omega))
          have HRT : Hid (nw (momU n l pl j) n = runT n l pl k) := by show _ = _; rw [hj1]; rfl
          have HRS := Lib.hid (runK_succ n l pl k)
          have HG := Lib.hid hG
          have HOS := Lib.hid hos
          have HB := Lib.hid hB
          have hsz := hB.size
          have hv8 : vs.length ≤ 41 := by omega
          have hlk8 : (runK n l pl k).length ≤ 41 := by omega
          clear hG hos hB hv hop m0 hj1 hul hlk
          generalize nw (momU n l pl j) n = bl at *
          go_wp2_with fail
          refine HOW.out.mono ?_
          rintro e w4 ⟨A6, c6, rfl, o6, b6⟩
          have hG4 := (HG.out.below b6).1
          have HS4 := Lib.hid (HOS.out.below b6)
          have HB4 := Lib.hid (btrans HB.out b6)
          have hs4 := HB4.out.size
          clear m1
          go_wp2_with (at_builtin; refine wpList_append_own _ rfl _ _ 39 rfl w.heap.size 25 i1 (.slice none 0 0) 1 24 Try.underlying39 hi1 hy0 hy1 hy2 rfl (by decide) _ _ _ rfl (hG4.alloc _) ⟨w4.heap.size, 0, none⟩ 1 1 [.slice A6 bl.length c6] rfl rfl (cell_one_new _ _ _) (fun x hx => by simp at hx; subst hx; rfl) (by unfold maxLen; omega) (by omega) (by simp; omega) ?_; intro v6 w6 hown6 hgrow6 _)
          have HG6 : Hid (OwnG w6 w.heap.size v6 (vs ++ [.slice A6 bl.length c6]) (runK n l pl (k + 1))) := by
            show OwnG _ _ _ _ _
            rw [HRS.out, ← HRT.out]
            exact OwnG.push HG.out b6 hsz o6 hown6 rfl hgrow6
          have HS6 := Lib.hid (OwnS.apart HS4.out hG4 hgrow6)
          have HB6 := Lib.hid ((HB4.out.alloc hs4 (.cells #[.slice A6 bl.length c6] 25)).grown hgrow6 (by simp; omega) (fun q e => (hG4.lt q e).1))
          clear hown6 hgrow6 hG4 b6 o6
          go_roundg g2
          case measure => omega
          case rel => exact ⟨k + 1, j + 1, _, _, rfl, by omega, by have := hj.out; exact Lib.hid (by omega), by go_num, HG6.out, HS6.out, HB6.out⟩
    · rw [okG_no hok] at HL
      have HN := Lib.hid hok
      clear hgd hok
      go_enter Try.func34, Try.ntmps34
      go_wp2_with fail
      refine HG.out.mono ?_
      rintro e w1 ⟨rfl, b1⟩
      have e1 := btrans b0 b1
      have g1 := g0.below b1 g0.lt
      obtain ⟨p0, p1, -, -⟩ := g1.two
      have HL1 := Lib.hid (HL.out w1 e1)
      have o1 := own_below o0 b1
      clear HG b0 b1 g0 HL
      go_wp2_with fail
      refine HL1.out.mono ?_
      rintro e w2 ⟨rfl, b2⟩
      have HE2 := Lib.hid (btrans e1 b2)
      have o2 := own_below o1 b2
      clear p0 p1 g1 e1 b2
      go_wp2_with fail
      go_ret2
      exact RetGr.no HN.out (own_base o2 (by omega)) HE2.out
  · rw [goodB_no hgd] at HG
    have HN : Hid (¬ PrgOk s l pl) := fun hh => hgd hh.1
    clear hgd
    go_enter Try.func34, Try.ntmps34
    go_wp2_with fail
    refine HG.out.mono ?_
    rintro e w1 ⟨rfl, b1⟩
    have HE1 := Lib.hid (btrans b0 b1)
    have o1 := own_below o0 b1
    clear b0 b1 g0
    go_wp2_with fail
    go_ret2
    exact RetGr.no HN.out (own_base o1 (by omega)) HE1.out
end Go.Proofs.Ytbjcfjgoedpgdaa.moms
