/- The contracts of the model's l6Step, l6Program and l6States. -/
import Derived.Handy
import Derived.Test.YtbjcfjgoedpgdaaStaS
import Derived.Deep.DeepCutAuto
import Derived.Deep.AppendLies
import Derived.Deep.RegionHeld3
import Derived.StillTailTactics
namespace Go.Proofs.Ytbjcfjgoedpgdaa.moms
open Go.RowKit Go.Maps P2 words edges ints good near adjs fns rets sets covs reach bags balls mids
set_option linter.unusedVariables false

theorem but_none {n : Nat} {S : Nat → Bool} {x : Int} (h : x < 0) : but (nw S n) x = nw S n := by
  unfold but
  rw [List.filter_eq_self]
  intro y hy
  obtain ⟨j, _, _, rfl⟩ := mem_nw.1 hy
  simp only [bne_iff_ne, ne_eq]; omega
set_option maxHeartbeats 2000000 in
set_option maxRecDepth 100000 in
theorem l6Step_any (n B : Nat) (S U : Nat → Bool) (v a b : Value) (l : List Ed) (st : Int) (w : World) (h : Edges w v l) (hl : l.length ≤ 1048576) (hp : OwnP w B n a b S U) (hB : B ≤ w.heap.size) (hn : n ≤ 8) (ho : StepOk n S st) :
    Calls Try.prog 85 #[.agg #[.int .i64 (n : Int), v], .agg #[a, b], .int .i64 st] w fun e w' => ∃ a' b', e = .returned (.agg #[a', b']) ∧ OwnP w' B n a' b' (flip S (xOf st)) (spr n l (flip S (xOf st)) U) ∧ Below w.heap.size w w' := by
  obtain ⟨A, c, rfl, -⟩ := h.form
  obtain ⟨A5, c5, rfl⟩ := own_form hp.1
  obtain ⟨A6, c6, rfl⟩ := own_form hp.2
  have hal := nw_len S n
  have H := Lib.hid h
  have HP := Lib.hid hp
  have hb0 : Below w.heap.size w (((w.alloc (.cells #[.int .i64 (n : Int), .slice A l.length c] 29)).alloc (.cells #[.slice A5 (nw S n).length c5, .slice A6 (nw U n).length c6] 69)).alloc (.cells #[.slice none 0 0, .slice none 0 0] 69)) := (((Below.refl _ _).alloc (Nat.le_refl _) _).alloc (by simp) _).alloc (by simp; omega) _
  have g0 := ((Blk.new w 29 #[.int .i64 (n : Int), .slice A l.length c]).alloc (.cells #[.slice A5 (nw S n).length c5, .slice A6 (nw U n).length c6] 69)).alloc (.cells #[.slice none 0 0, .slice none 0 0] 69)
  have g1 := (Blk.new (w.alloc (.cells #[.int .i64 (n : Int), .slice A l.length c] 29)) 69 #[.slice A5 (nw S n).length c5, .slice A6 (nw U n).length c6]).alloc (.cells #[.slice none 0 0, .slice none 0 0] 69)
  have g2 := (Blk.new ((w.alloc (.cells #[.int .i64 (n : Int), .slice A l.length c] 29)).alloc (.cells #[.slice A5 (nw S n).length c5, .slice A6 (nw U n).length c6] 69)) 69 #[.slice none 0 0, .slice none 0 0])
  rw [World.size_alloc] at g1 g2
  rw [World.size_alloc] at g2
  have HB0 := Lib.hid hb0
  have hxn := ho.1
  have hS := ho.2
  clear h hp hb0 ho
  have HG0 := Lib.hid g0
  have HG1 := Lib.hid g1
  have HG2 := Lib.hid g2
  clear g0 g1 g2
  have HW := Lib.hid (fun (x : Int) => l2Without_any (.slice A5 (nw S n).length c5) (nw S n) x _ (Reads.of_own (HP.out.below HB0.out).1) (by omega))
  have HSP := Lib.hid (fun (W : World) (x : Value) (hW : Below w.heap.size w W) (hx : Ints W x (nw (flip S (xOf st)) n)) => l6Spread_any n (flip S (xOf st)) U (.slice A l.length c) x (.slice A6 (nw U n).length c6) l W (H.out.below hW) hl hx (Reads.of_own (HP.out.below hW).2) hn)
  by_cases h0 : 0 ≤ st
  · have hst := xOf_pos h0
    have hd0 : ¬ st < 0 := by omega
    rw [decide_eq_false hd0] at hS
    have hw : IntKind.i64.wrap (-1 - st) = -1 - st := IntWalk.i64_in _ (by omega)
    have HW1 := Lib.hid (HW.out (-1 - st))
    rw [but_none (by omega : -1 - st < 0)] at HW1
    have HFO := Lib.hid (flip_on (n := n) hS)
    have HXS := Lib.hid hst
    obtain ⟨m0, m1, -, -⟩ := HG1.out.two
    clear HW hS hst
    go_enter Try.func85, Try.ntmps85
    go_wp2_with fail
    refine HW1.out.mono ?_
    rintro e w3 ⟨A3, c3, rfl, o3, b3⟩
    have B13 := b3
    have HG13 := Lib.hid (HG1.out.below b3 HG1.out.lt)
    have HB3 := Lib.hid (btrans HB0.out b3)
    have hs3 := HB3.out.size
    have HPU := Lib.hid (l1Put_own (.slice A5 (nw S n).length c5) (nw S n) st w3 B (HP.out.below HB3.out).1 (Nat.le_trans hB hs3) (by omega) (nw_asc _ _))
    clear m0 m1 b3 o3
    obtain ⟨m0, m1, -, -⟩ := HG13.out.two
    go_wp2_with fail
    refine HPU.out.mono ?_
    rintro e w4 ⟨L, A7, c7, rfl, hp7, o7, b7⟩
    have B14 := btrans B13 b7
    have HL : Hid (L = nw (flip S (xOf st)) n) := by
      have h_ := HXS.out
      rw [← h_] at hp7
      exact (pput_is hp7 hxn).trans HFO.out.symm
    have e7 := HL.out
    subst e7
    have HB4 := Lib.hid (btrans HB3.out b7)
    have HO4 := Lib.hid o7
    have HSP4 := Lib.hid (HSP.out w4 _ HB4.out (Reads.of_own o7))
    obtain ⟨p0, p1, -, -⟩ := (HG0.out.below B14 HG0.out.lt).two
    clear m0 m1 hp7 o7 b7 HSP HPU
    obtain ⟨m0, m1, -, -⟩ := (HG1.out.below B14 HG1.out.lt).two
    go_wp2_with fail
    refine HSP4.out.mono ?_
    rintro e w5 ⟨A8, c8, rfl, o5, b5⟩
    have HB5 := Lib.hid (btrans HB4.out b5)
    have hs5 := HB4.out.size
    have g5 := HG2.out.below (btrans B14 b5) HG2.out.lt
    obtain ⟨q0, q1, z0, z1⟩ := g5.two
    have hO4 := Lib.hid (own_below HO4.out b5)
    have hO5 := Lib.hid (own_base o5 (Nat.le_trans hB hs5))
    have HG5 := Lib.hid g5
    clear b5 o5 g5 p0 p1 m0 m1
    go_wp2_with fail
    have hk : w5.grownBy ((w5.setCell ⟨w.heap.size + 1 + 1, 0, none⟩ (.slice A7 (nw (flip S (xOf st)) n).length c7)).setCell ⟨w.heap.size + 1 + 1, 1, none⟩ (.slice A8 (nw (spr n l (flip S (xOf st)) U) n).length c8)) (some (w.heap.size + 1 + 1)) := gset (gset (World.grownBy.refl w5 _) 0 _) 1 _
    refine bodyPost_ret (v := .agg #[.slice A7 (nw (flip S (xOf st)) n).length c7, .slice A8 (nw (spr n l (flip S (xOf st)) U) n).length c8]) (by simp [results, Try.results85, go_sem, q0, q1]) rfl ?_
    exact ⟨_, _, rfl, ⟨hO4.out.kept hk (.inr (own_ne hO4.out HG5.out (by decide))), hO5.out.kept hk (.inr (own_ne hO5.out HG5.out (by decide)))⟩, (HB5.out.setCell (p := ⟨w.heap.size + 1 + 1, 0, none⟩) (by show w.heap.size ≤ w.heap.size + 1 + 1; omega) _).setCell (p := ⟨w.heap.size + 1 + 1, 1, none⟩) (by show w.heap.size ≤ w.heap.size + 1 + 1; omega) _⟩
  · have hst := xOf_neg (st := st) (by omega)
    have hd0 : st < 0 := by omega
    rw [decide_eq_true hd0] at hS
    have hw : IntKind.i64.wrap (-1 - st) = (xOf st : Int) := by rw [← hst]; exact IntWalk.i64_in _ (by omega)
    have HW1 := Lib.hid (HW.out (xOf st : Int))
    rw [← flip_off hS] at HW1
    obtain ⟨m0, m1, -, -⟩ := HG1.out.two
    clear HW hS hst
    go_enter Try.func85, Try.ntmps85
    go_wp2_with fail
    refine HW1.out.mono ?_
    rintro e w4 ⟨A7, c7, rfl, o7, b7⟩
    have B14 := b7
    have HB4 := Lib.hid (btrans HB0.out b7)
    have hs0 := HB0.out.size
    have HO4 := Lib.hid (own_base (B' := B) o7 (Nat.le_trans hB hs0))
    have HSP4 := Lib.hid (HSP.out w4 _ HB4.out (Reads.of_own o7))
    obtain ⟨p0, p1, -, -⟩ := (HG0.out.below B14 HG0.out.lt).two
    clear m0 m1 o7 b7 HSP
    obtain ⟨m0, m1, -, -⟩ := (HG1.out.below B14 HG1.out.lt).two
    go_wp2_with fail
    refine HSP4.out.mono ?_
    rintro e w5 ⟨A8, c8, rfl, o5, b5⟩
    have HB5 := Lib.hid (btrans HB4.out b5)
    have hs5 := HB4.out.size
    have g5 := HG2.out.below (btrans B14 b5) HG2.out.lt
    obtain ⟨q0, q1, z0, z1⟩ := g5.two
    have hO4 := Lib.hid (own_below HO4.out b5)
    have hO5 := Lib.hid (own_base o5 (Nat.le_trans hB hs5))
    have HG5 := Lib.hid g5
    clear b5 o5 g5 p0 p1 m0 m1
    go_wp2_with fail
    have hk : w5.grownBy ((w5.setCell ⟨w.heap.size + 1 + 1, 0, none⟩ (.slice A7 (nw (flip S (xOf st)) n).length c7)).setCell ⟨w.heap.size + 1 + 1, 1, none⟩ (.slice A8 (nw (spr n l (flip S (xOf st)) U) n).length c8)) (some (w.heap.size + 1 + 1)) := gset (gset (World.grownBy.refl w5 _) 0 _) 1 _
    refine bodyPost_ret (v := .agg #[.slice A7 (nw (flip S (xOf st)) n).length c7, .slice A8 (nw (spr n l (flip S (xOf st)) U) n).length c8]) (by simp [results, Try.results85, go_sem, q0, q1]) rfl ?_
    exact ⟨_, _, rfl, ⟨hO4.out.kept hk (.inr (own_ne hO4.out HG5.out (by decide))), hO5.out.kept hk (.inr (own_ne hO5.out HG5.out (by decide)))⟩, (HB5.out.setCell (p := ⟨w.heap.size + 1 + 1, 0, none⟩) (by show w.heap.size ≤ w.heap.size + 1 + 1; omega) _).setCell (p := ⟨w.heap.size + 1 + 1, 1, none⟩) (by show w.heap.size ≤ w.heap.size + 1 + 1; omega) _⟩
set_option maxHeartbeats 2000000 in
set_option maxRecDepth 100000 in
theorem l6Program_any (n : Nat) (v u : Value) (l : List Ed) (pl : List Int) (w : World) (h : Edges w v l) (hl : l.length ≤ 1048576) (hu : Ints w u pl) (hpl : pl.length ≤ 1048576) (hn : n ≤ 8) (h64 : ∀ x ∈ pl, In64 x) :
    Calls Try.prog 62 #[.agg #[.int .i64 (n : Int), v], u] w fun e w' => e = .returned (.bool (okG (pl.length ≤ 40 ∧ ProgP n pl))) ∧ Below w.heap.size w w' := by
  obtain ⟨A, c, rfl, -⟩ := h.form
  obtain ⟨A2, c2, rfl, hc2⟩ := hu.form
  have H := Lib.hid h
  have HC2 := Lib.hid hc2
  have H64 := Lib.hid h64
  have hb0 : Below w.heap.size w (w.alloc (.cells #[.int .i64 (n : Int), .slice A l.length c] 29)) := (Below.refl _ _).alloc (Nat.le_refl _) _
  have g0 := Blk.new w 29 #[.int .i64 (n : Int), .slice A l.length c]
  obtain ⟨p0, p1, -, -⟩ := g0.two
  clear h hu hc2 h64
  go_enter Try.func62, Try.ntmps62
  go_wp2_with fail
  refine (l6Begin_any n (.slice A l.length c) _ hn).mono ?_
  rintro e w2 ⟨a0, b0, rfl, o2, b2⟩
  obtain ⟨Aa0, ca0, ea0⟩ := own_form o2.1
  obtain ⟨Ab0, cb0, eb0⟩ := own_form o2.2
  subst ea0
  subst eb0
  have hs0 := hb0.size
  have HE2 := Lib.hid (btrans hb0 b2)
  have HG2 := Lib.hid ((g0.below b2 g0.lt).alloc (.cells #[.slice Aa0 (nw (fun _ => false) n).length ca0, .slice Ab0 (nw (fun _ => true) n).length cb0] 69))
  have hs2 := HE2.out.size
  have HG2z : w.heap.size < w2.heap.size := (g0.below b2 g0.lt).lt
  have HB2 : Hid (Below w.heap.size w (w2.alloc (.cells #[.slice Aa0 (nw (fun _ => false) n).length ca0, .slice Ab0 (nw (fun _ => true) n).length cb0] 69))) := HE2.out.alloc hs2 _
  have HS2 := Lib.hid (Blk.new w2 69 #[.slice Aa0 (nw (fun _ => false) n).length ca0, .slice Ab0 (nw (fun _ => true) n).length cb0])
  have o2' := o2.base hs0
  have HO2 : Hid (OwnP (w2.alloc (.cells #[.slice Aa0 (nw (fun _ => false) n).length ca0, .slice Ab0 (nw (fun _ => true) n).length cb0] 69)) w.heap.size n (.slice Aa0 (nw (fun _ => false) n).length ca0) (.slice Ab0 (nw (fun _ => true) n).length cb0) (momS pl 0) (momU n l pl 0)) := ⟨o2'.1.alloc _, o2'.2.alloc _⟩
  have HP0 := Lib.hid (ProgTo.zero n pl)
  clear b2 o2 o2' p0 p1 g0 hb0
  go_wp2_with fail
  go_loopg [6] pl.length (fun g iv wr => ∃ (k : Nat) (a b : Value), k + g = pl.length ∧ iv = .int .i64 (k : Int) ∧ Hid (ProgTo n pl k) ∧ Blk wr w2.heap.size 69 #[a, b] ∧ OwnP wr w.heap.size n a b (momS pl k) (momU n l pl k) ∧ Blk wr w.heap.size 29 #[.int .i64 (n : Int), .slice A l.length c] ∧ Below w.heap.size w wr)
  case atStart => exact ⟨0, _, _, by omega, rfl, HP0, HS2.out, HO2.out, HG2.out, HB2.out⟩
  case round =>
    clear HP0 HS2 HO2 HG2 HB2
    obtain ⟨k, a, b, hkg, rfl, hpt, hsb, hop, hgb, hB⟩ := hrel
    cases gk with
    | zero =>
      obtain rfl : k = pl.length := by omega
      have HV : Hid (okG (pl.length ≤ 40 ∧ ProgP n pl) = decide ((pl.length : Int) ≤ 40)) := by
        show _ = _
        rw [Bool.eq_iff_iff, okG_iff, decide_eq_true_iff]
        exact ⟨fun h => by omega, fun h => ⟨by omega, hpt.out⟩⟩
      have HB := Lib.hid hB
      clear hsb hop hgb hB hpt
      go_wp2_with fail
      go_ret
      exact ⟨ret_bool HV.out.symm, HB.out⟩
    | succ g2 =>
      have hlt : k < pl.length := by omega
      have hlt' : (k : Int) < (pl.length : Int) := by omega
      obtain ⟨st, hst⟩ : ∃ st, pl[k]? = some st := ⟨_, List.getElem?_eq_getElem hlt⟩
      obtain ⟨ga, oa, rfl, c0⟩ := HC2.out k _ hst
      have q0 := nearv.cell_keep c0 hB
      obtain ⟨p0, p1, -, -⟩ := hgb.two
      obtain ⟨m0, m1, -, -⟩ := hsb.two
      have HCN := Lib.hid (l6Can_any n (momS pl k) (.slice A l.length c) a b l st wr.drew (H.out.below hB.drew) (Reads.of_own (hop.below (Below.refl _ _).drew).1) hn (H64.out st (List.mem_of_getElem? hst)))
      have HSB := Lib.hid hsb
      have HOP := Lib.hid hop
      have HGB := Lib.hid hgb
      have HB := Lib.hid hB
      have HC0 := Lib.hid c0
      clear c0 hsb hop hgb hB
      by_cases ho : StepOk n (momS pl k) st
      · rw [okG_yes ho] at HCN
        have HN := Lib.hid (hpt.out.succ hst ho)
        have HS9 := Lib.hid (momS_succ hst)
        have HST := Lib.hid (fun (W : World) (hW : Below wr.heap.size wr W) => l6Step_any n w.heap.size (momS pl k) (momU n l pl k) (.slice A l.length c) a b l st W (H.out.below (btrans HB.out hW)) hl (HOP.out.below hW) (Nat.le_trans HB.out.size hW.size) hn ho)
        rw [← HS9.out] at HST
        have HU9 : Hid (spr n l (momS pl (k + 1)) (momU n l pl k) = momU n l pl (k + 1)) := rfl
        rw [HU9.out] at HST
        clear ho hpt HS9 hst
        go_wp2_with fail
        go_still_tail 6, (by kernel_rfl)
        change wpList _ _ _ _ _ wr.drew
        go_wp2_with fail
        refine HCN.out.mono ?_
        rintro e w3 ⟨rfl, b3⟩
        have d3 : Below wr.heap.size wr w3 := (Below.refl _ _).drew.trans b3
        have HSB3 := Lib.hid (HSB.out.below d3 HSB.out.lt)
        have HGB3 := Lib.hid (HGB.out.below d3 HGB.out.lt)
        have HB3 := Lib.hid (btrans HB.out d3)
        have HST3 := Lib.hid (HST.out w3.drew d3.drew)
        have q3 := nearv.cell_keep HC0.out HB3.out
        clear b3 q0 p0 p1 m0 m1
        obtain ⟨p0, p1, -, -⟩ := HGB3.out.two
        obtain ⟨m0, m1, -, -⟩ := HSB3.out.two
        go_wp2_with fail
        go_still_tail 6, (by kernel_rfl)
        change wpList _ _ _ _ _ w3.drew
        go_wp2_with fail
        refine HST3.out.mono ?_
        rintro e w4 ⟨a', b', rfl, o4, b4⟩
        obtain ⟨Aa, ca, ea⟩ := own_form o4.1
        obtain ⟨Ab, cb, eb⟩ := own_form o4.2
        subst ea
        subst eb
        have d4 : Below w3.heap.size w3 w4 := (Below.refl _ _).drew.trans b4
        have HSB4 := Lib.hid (HSB3.out.below d4 HSB3.out.lt)
        have HGB4 := Lib.hid (HGB3.out.below d4 HGB3.out.lt)
        have HB4 := Lib.hid (btrans HB3.out d4)
        obtain ⟨z0, z1, z2, z3⟩ := HSB4.out.two
        have HO4 := Lib.hid o4
        have hws : w.heap.size ≤ w2.heap.size := hs2
        have hwl := HGB4.out.lt
        have hne : w.heap.size ≠ w2.heap.size := by have := HG2z; omega
        clear b4 o4 d3 d4 q3 p0 p1 m0 m1
        go_wp2_with fail
        have hk : w4.grownBy ((w4.setCell ⟨w2.heap.size, 0, none⟩ (.slice Aa (nw (momS pl (k + 1)) n).length ca)).setCell ⟨w2.heap.size, 1, none⟩ (.slice Ab (nw (momU n l pl (k + 1)) n).length cb)) (some w2.heap.size) := gset (gset (World.grownBy.refl w4 _) 0 _) 1 _
        have HS5 : Hid (Blk ((w4.setCell ⟨w2.heap.size, 0, none⟩ (.slice Aa (nw (momS pl (k + 1)) n).length ca)).setCell ⟨w2.heap.size, 1, none⟩ (.slice Ab (nw (momU n l pl (k + 1)) n).length cb)) w2.heap.size 69 #[(.slice Aa (nw (momS pl (k + 1)) n).length ca), (.slice Ab (nw (momU n l pl (k + 1)) n).length cb)]) := by
          show Blk _ _ _ _
          have h_ := (HSB4.out.set_ 0 (.slice Aa (nw (momS pl (k + 1)) n).length ca)).set_ 1 (.slice Ab (nw (momU n l pl (k + 1)) n).length cb)
          simpa using h_
        have HO5 : Hid (OwnP ((w4.setCell ⟨w2.heap.size, 0, none⟩ (.slice Aa (nw (momS pl (k + 1)) n).length ca)).setCell ⟨w2.heap.size, 1, none⟩ (.slice Ab (nw (momU n l pl (k + 1)) n).length cb)) w.heap.size n (.slice Aa (nw (momS pl (k + 1)) n).length ca) (.slice Ab (nw (momU n l pl (k + 1)) n).length cb) (momS pl (k + 1)) (momU n l pl (k + 1))) :=
          ⟨HO4.out.1.kept hk (.inr (own_ne HO4.out.1 HSB4.out (by decide))), HO4.out.2.kept hk (.inr (own_ne HO4.out.2 HSB4.out (by decide)))⟩
        have HB5 := Lib.hid ((HB4.out.setCell (p := ⟨w2.heap.size, 0, none⟩) hws (.slice Aa (nw (momS pl (k + 1)) n).length ca)).setCell (p := ⟨w2.heap.size, 1, none⟩) hws (.slice Ab (nw (momU n l pl (k + 1)) n).length cb))
        go_roundg g2
        case measure => omega
        case rel => exact ⟨k + 1, (.slice Aa (nw (momS pl (k + 1)) n).length ca), (.slice Ab (nw (momU n l pl (k + 1)) n).length cb), by omega, by go_num, HN, HS5.out, HO5.out, (HGB4.out.far (p := ⟨w2.heap.size, 0, none⟩) hne _).far (p := ⟨w2.heap.size, 1, none⟩) hne _, HB5.out⟩
      · rw [okG_no ho] at HCN
        have HNO : Hid (okG (pl.length ≤ 40 ∧ ProgP n pl) = false) := okG_no fun hh => not_prog hst ho hh.2
        clear ho hst hpt
        go_wp2_with fail
        go_still_tail 6, (by kernel_rfl)
        change wpList _ _ _ _ _ wr.drew
        go_wp2_with fail
        refine HCN.out.mono ?_
        rintro e w3 ⟨rfl, b3⟩
        have HB3 := Lib.hid (btrans HB.out ((Below.refl _ _).drew.trans b3))
        go_wp2_with fail
        go_ret
        exact ⟨ret_bool HNO.out.symm, HB3.out⟩
end Go.Proofs.Ytbjcfjgoedpgdaa.moms
